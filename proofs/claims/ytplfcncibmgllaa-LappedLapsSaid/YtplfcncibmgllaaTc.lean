/-
  Own texts, laid together: Tc.
-/
import Derived.Test.YtplfcncibmgllaaTb
/- Tc -/
namespace Go.Proofs.Ytplfcncibmgllaa.Tb
open Go.RowKit Go.Proofs.Ytplfcncibmgllaa.Fx
theorem i64_and127 (n : Int) : bits BinOp.and IntKind.i64 n 127 = n % 128 := by
  have h1 : (BitVec.ofInt 64 127).toNat = 2 ^ 7 - 1 := by decide
  have key : (BitVec.ofInt 64 n &&& BitVec.ofInt 64 127).toNat = (n % ((2 ^ 64 : Nat) : Int)).toNat % 2 ^ 7 := by
    rw [BitVec.toNat_and, BitVec.toNat_ofInt, h1, Nat.and_two_pow_sub_one_eq_mod]
  show IntKind.i64.wrap ((BitVec.ofInt 64 n &&& BitVec.ofInt 64 127).toNat : Nat) = n % 128
  rw [key, IntKind.wrap_i64]
  omega
/-- the circle, with some of its parts, and all else as it was -/
def Cs (w0 : World) (g : Nat) (w' : World) : Prop := ∃ k, 2 ≤ k ∧ k ≤ 7 ∧ Circ w0 g k w'
theorem Cs.drew {w0 w' : World} {g : Nat} (h : Cs w0 g w') : Cs w0 g w'.drew := by
  obtain ⟨k, h1, h2, h3⟩ := h
  exact ⟨k, h1, h2, h3.drew⟩
theorem Cs.below {w0 w w' : World} {g : Nat} (h : Cs w0 g w) (hb : Below w.heap.size w w') : Cs w0 g w' := by
  obtain ⟨k, h1, h2, h3⟩ := h
  exact ⟨k, h1, h2, h3.1.below hb h3.1.lt, grown_trans h3.2 (only_of_below hb _)⟩
theorem Cs.part {w0 u : World} {g : Nat} (h : Cs w0 g u) (i : Nat) (h1 : 1 ≤ i) (h7 : i ≤ 7) :
    Calls Try.prog 52 #[.pointer (some ⟨g, 0, none⟩), .int .i64 (i : Int)] u fun e w' => e = .returned (.agg #[.int .i64 (partP i).1, .int .i64 (partP i).2]) ∧ Cs w0 g w' ∧ u.grownBy w' (some g) := by
  obtain ⟨k, h2, h3, h4⟩ := h
  refine (part_any g i k h1 h7 h2 h3 u h4.1).mono ?_
  rintro e w' ⟨q1, q2, q3⟩
  exact ⟨q1, ⟨max k i, by omega, by omega, q2, grown_trans h4.2 q3⟩, q3⟩
/-- on the way round -/
def AtS (w : World) (g p : Nat) (x : Int × Int) (w' : World) : Prop :=
  Cs w g w' ∧ Blk w' p 74 #[.int .i64 0, .int .i64 0] ∧ Blk w' (p + 1) 74 #[.int .i64 x.1, .int .i64 x.2] ∧ g < p ∧ w.heap.size ≤ p
theorem AtS.drew {w w' : World} {g p : Nat} {x : Int × Int} (h : AtS w g p x w') : AtS w g p x w'.drew := ⟨h.1.drew, h.2.1.drew, h.2.2.1.drew, h.2.2.2⟩
theorem AtS.below {w u w' : World} {g p : Nat} {x : Int × Int} (h : AtS w g p x u) (hb : Below u.heap.size u w') : AtS w g p x w' :=
  ⟨h.1.below hb, h.2.1.below hb h.2.1.lt, h.2.2.1.below hb h.2.2.1.lt, h.2.2.2⟩
theorem AtS.put {w u : World} {g p : Nat} {x : Int × Int} (h : AtS w g p x u) (y : Int × Int) : AtS w g p y ((u.setCell ⟨p + 1, 0, none⟩ (.int .i64 y.1)).setCell ⟨p + 1, 1, none⟩ (.int .i64 y.2)) := by
  obtain ⟨⟨k, h1, h2, h3, h4⟩, h5, h6, h7, h8⟩ := h
  refine ⟨⟨k, h1, h2, (h3.far (p := ⟨p + 1, 0, none⟩) (by show g ≠ p + 1; omega) _).far (p := ⟨p + 1, 1, none⟩) (by show g ≠ p + 1; omega) _, ?_⟩, (h5.far (p := ⟨p + 1, 0, none⟩) (by show p ≠ p + 1; omega) _).far (p := ⟨p + 1, 1, none⟩) (by show p ≠ p + 1; omega) _, ?_, h7, h8⟩
  · exact only_setCell (only_setCell h4 (p := ⟨p + 1, 0, none⟩) (.inr (by show w.heap.size ≤ p + 1; omega)) _) (p := ⟨p + 1, 1, none⟩) (.inr (by show w.heap.size ≤ p + 1; omega)) _
  · exact (h6.set_ 0 _).set_ 1 _
theorem AtS.part {w u : World} {g p : Nat} {x : Int × Int} (h : AtS w g p x u) (i : Nat) (h1 : 1 ≤ i) (h7 : i ≤ 7) :
    Calls Try.prog 52 #[.pointer (some ⟨g, 0, none⟩), .int .i64 (i : Int)] u fun e w' => e = .returned (.agg #[.int .i64 (partP i).1, .int .i64 (partP i).2]) ∧ AtS w g p x w' :=
  (h.1.part i h1 h7).mono fun e w' ⟨q1, q2, q3⟩ => ⟨q1, q2, h.2.1.only q3 (by have := h.2.2.2.1; omega), h.2.2.1.only q3 (by have := h.2.2.2.1; omega), h.2.2.2⟩
def AtQ (w : World) (g n : Nat) (e : Ending) (w' : World) : Prop := e = .returned (.agg #[.int .i64 (ptP n).1, .int .i64 (ptP n).2]) ∧ Cs w g w'
set_option maxRecDepth 100000 in
set_option maxHeartbeats 4000000 in
theorem at_any (g n : Nat) (m : Int) (w : World) (hn : n < 128) (hm : m % 128 = (n : Int)) (hC : Hid (Cs w g w)) :
    Calls Try.prog 48 #[.pointer (some ⟨g, 0, none⟩), .int .i64 m] w (AtQ w g n) := by
  have hx : bits BinOp.and IntKind.i64 m 127 = (n : Int) := by rw [i64_and127, hm]
  have HN := Lib.hid hn
  have lg : g < w.heap.size := by
    obtain ⟨k, -, -, h, -⟩ := hC.out
    exact h.lt
  have HS := Lib.hid (show AtS w g w.heap.size (stP n 0) ((w.alloc (.cells #[.int .i64 0, .int .i64 0] 74)).alloc (.cells #[.int .i64 1073741824, .int .i64 0] 74)) from
    ⟨hC.out.below (((Below.refl w.heap.size w).alloc (Nat.le_refl _) _).alloc (by simp) _), (Blk.new w _ _).alloc _, Blk.newAt (by simp), lg, Nat.le_refl _⟩)
  clear hm hn lg hC
  go_enter Try.func48, Try.ntmps48
  go_wp2_with fail
  generalize (w.alloc (.cells #[.int .i64 0, .int .i64 0] 74)).alloc (.cells #[.int .i64 1073741824, .int .i64 0] 74) = w1 at HS ⊢
  obtain ⟨p, hp⟩ : ∃ p, p = w.heap.size := ⟨_, rfl⟩
  rw [← hp] at HS ⊢
  clear hp hx
  go_loopw [6] (fun vi wr => ∃ j : Nat, j ≤ 7 ∧ vi = .int .i64 ((j + 1 : Nat) : Int) ∧ Hid (AtS w g p (stP n j) wr)) (fun vi _ => (8 - intOf vi).toNat)
  case atStart => exact ⟨0, by omega, rfl, HS⟩
  case round =>
    obtain ⟨j, hj, rfl, HA⟩ := hrel
    obtain ⟨i, hi⟩ : ∃ i, i = j + 1 := ⟨_, rfl⟩
    rw [← hi]
    have HI := Lib.hid hi
    clear hi
    by_cases hlt : j < 7
    · obtain ⟨s, hs⟩ : ∃ s, s + j = 6 := ⟨6 - j, by omega⟩
      have vs : (7 : Int) - (i : Int) = (s : Int) := by have := HI.out; omega
      have vn : (i : Int) + 1 = ((j + 1 + 1 : Nat) : Int) := by have := HI.out; omega
      obtain ⟨P, hP⟩ : ∃ P, 2 ^ s = P := ⟨_, rfl⟩
      have hp := pow_cast s
      rw [hP] at hp
      have HPP := Lib.hid (show P = 2 ^ (6 - j) by rw [← hP, show 6 - j = s by omega])
      have i7 : (i : Int) ≤ 7 := by have := HI.out; omega
      have s0 : 0 ≤ (s : Int) := by omega
      clear hP hs
      by_cases hbit : n / P % 2 = 1
      · have hb : bits BinOp.and IntKind.i64 ((n : Int) / (P : Int)) 1 = 1 := by rw [i64_and1]; omega
        have HST := Lib.hid (show rot (stP n j) (partP i) = stP n (j + 1) by rw [stP, if_pos (by rw [← HPP.out]; exact hbit), ← HI.out])
        clear hbit
        obtain ⟨x0, x1, -, -⟩ := blk2 HA.out.2.2.1
        have C1 := Lib.hid (show ∀ u, AtS w g p (stP n j) u → Calls Try.prog 52 #[.pointer (some ⟨g, 0, none⟩), .int .i64 (i : Int)] u (fun e w' => e = .returned (.agg #[.int .i64 (partP i).1, .int .i64 (partP i).2]) ∧ AtS w g p (stP n j) w') from fun u h => h.part i (by have := HI.out; omega) (by omega))
        have C2 := Lib.hid (show ∀ u, AtS w g p (stP n j) u → Calls Try.prog 51 #[.agg #[.int .i64 (stP n j).1, .int .i64 (stP n j).2], .agg #[.int .i64 (partP i).1, .int .i64 (partP i).2]] u (fun e w' => e = .returned (.agg #[.int .i64 (stP n (j + 1)).1, .int .i64 (stP n (j + 1)).2]) ∧ AtS w g p (stP n j) w') from fun u h =>
          (turned_any (stP n j).1 (stP n j).2 (partP i).1 (partP i).2 u (stP_low n HN.out j (by omega)) (partP_low i (by omega))).mono fun e w' ⟨h1, h2⟩ => ⟨by rw [h1, show rot ((stP n j).1, (stP n j).2) ((partP i).1, (partP i).2) = stP n (j + 1) from HST.out]; rfl, h.below h2⟩)
        have HP := Lib.hid (show ∀ u, AtS w g p (stP n j) u → AtS w g p (stP n (j + 1)) ((u.setCell ⟨p + 1, 0, none⟩ (.int .i64 (stP n (j + 1)).1)).setCell ⟨p + 1, 1, none⟩ (.int .i64 (stP n (j + 1)).2)) from fun u h => h.put _)
        go_wp2_with fail
        clear hb hp
        go_region_with (first
          | (go_at_call 52; refine (C1.out _ (by first | exact HA.out | exact HA.out.drew)).mono ?_; rintro e w6 ⟨rfl, hQ⟩; obtain ⟨y0, y1, -, -⟩ := blk2 hQ.2.2.1)
          | (go_at_call 51; refine (C2.out _ hQ).mono ?_; rintro e w7 ⟨rfl, hR⟩; obtain ⟨y2, y3, z2, z3⟩ := blk2 hR.2.2.1))
        all_goals
          have HF := Lib.hid (HP.out _ hR)
          clear x0 x1 y0 y1 y2 y3 z2 z3 C1 C2 HP hQ hR HA
          go_wp2
          go_roundw
          case rel => exact ⟨j + 1, by omega, by go_num, HF⟩
          case measure => simp [intOf]; have := HI.out; omega
      · have hb : bits BinOp.and IntKind.i64 ((n : Int) / (P : Int)) 1 = 0 := by rw [i64_and1]; omega
        have HST := Lib.hid (show stP n j = stP n (j + 1) by rw [stP, if_neg (by rw [← HPP.out]; exact hbit)])
        clear hbit
        go_wp2
        go_roundw
        case rel => exact ⟨j + 1, by omega, by go_num, by rw [← HST.out]; exact HA⟩
        case measure => simp [intOf]; have := HI.out; omega
    · have i7 : ¬ (i : Int) ≤ 7 := by have := HI.out; omega
      have HJ := Lib.hid (show stP n j = ptP n by rw [show j = 7 by omega]; rfl)
      obtain ⟨x0, x1, -, -⟩ := blk2 HA.out.2.2.1
      obtain ⟨y0, y1, z0, z1⟩ := blk2 HA.out.2.1
      go_wp2
      refine bodyPost_ret (v := .agg #[.int .i64 (stP n j).1, .int .i64 (stP n j).2]) (by simp [results, Try.results48, go_sem, y0, y1]) rfl ⟨by rw [HJ.out], ?_⟩
      obtain ⟨⟨k, k1, k2, k3, k4⟩, -, -, k5, k6⟩ := HA.out
      exact ⟨k, k1, k2, (k3.far (p := ⟨p, 0, none⟩) (by show g ≠ p; omega) _).far (p := ⟨p, 1, none⟩) (by show g ≠ p; omega) _, only_setCell (only_setCell k4 (p := ⟨p, 0, none⟩) (.inr k6) _) (p := ⟨p, 1, none⟩) (.inr k6) _⟩
end Go.Proofs.Ytplfcncibmgllaa.Tb
