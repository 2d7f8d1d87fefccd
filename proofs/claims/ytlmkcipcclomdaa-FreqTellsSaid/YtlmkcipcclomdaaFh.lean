/-
  What Find answers, the program's and the document's.
-/
import Derived.Test.YtlmkcipcclomdaaFg
namespace Go.Proofs.Ytlmkcipcclomdaa.Fq
open Go.RowKit

/-- x is among the numbers of the symbol k -/
def IsSym (zs : List Int) (x : Int) (k : Nat) : Prop := k + 1 < zs.length ∧ zs.getD k 0 ≤ x ∧ x < zs.getD (k + 1) 0
theorem mono_le {zs : List Int} (h : okF zs = true) {i j : Nat} (hij : i ≤ j) (hj : j < zs.length) : zs.getD i 0 ≤ zs.getD j 0 := by
  rcases Nat.eq_or_lt_of_le hij with e | e
  · subst e; omega
  · have := okF_mono h e hj; omega
theorem IsSym.cuts {zs : List Int} {x : Int} {k : Nat} (h : okF zs = true) (hk : IsSym zs x k) : Cuts zs (x + 1) (k + 1) := by
  obtain ⟨h1, h2, h3⟩ := hk
  refine ⟨by omega, fun j hj => ?_, fun j h4 h5 => ?_⟩
  · have := mono_le h (show j ≤ k by omega) (by omega); omega
  · have := mono_le h h4 h5; omega
theorem isSym_some {zs : List Int} {x : Int} (h : okF zs = true) (h0 : 0 ≤ x) (h1 : x < zs.getD (zs.length - 1) 0) : ∃ k, IsSym zs x k := by
  obtain ⟨p1, p2, p3, p4, p5⟩ := okF_parts h
  have key : ∀ N, N < zs.length → x < zs.getD N 0 → ∃ k, IsSym zs x k := by
    intro N
    induction N with
    | zero => intro _ hx; omega
    | succ N ih =>
      intro hN hx
      rcases Int.lt_or_le x (zs.getD N 0) with h2 | h2
      · exact ih (by omega) h2
      · exact ⟨N, hN, h2, hx⟩
  exact key _ (by omega) h1
def findT (k e : Int) : Value := .tuple #[.int .i64 k, .int .i64 e]
set_option maxHeartbeats 1000000 in
theorem searchInts_any (ad : Addr) (n c : Nat) (zs : List Int) (x : Int) (s : Nat) (w : World) (hr : Hid (RdI w (some ad) n zs)) (hn : n ≤ 1000) (hm : Hid (∀ i j, i < j → j < n → zs.getD i 0 < zs.getD j 0)) (hs : Hid (Cuts zs x s)) :
    Calls Try.prog 23 #[.slice (some ad) n c, .int .i64 x] w fun e w' => e = .returned (.int .i64 (s : Int)) ∧ Below w.heap.size w w' := by
  have HK := Lib.hid (show SrcIn ((w.alloc (.cells #[.slice (some ad) n c] 22)).alloc (.cells #[.int .i64 x] 3)) w.heap.size (some ad) n c x from
    ⟨blk0 ((Blk.new w _ _).alloc _), blk0 (Blk.newAt (w := w.alloc (.cells #[.slice (some ad) n c] 22)) (t := 3) (cs := #[.int .i64 x]) (by simp))⟩)
  have HW := Lib.hid (show Below w.heap.size w ((w.alloc (.cells #[.slice (some ad) n c] 22)).alloc (.cells #[.int .i64 x] 3)) from ((Below.refl w.heap.size w).alloc (Nat.le_refl _) _).alloc (by simp) _)
  go_enter Try.func23, Try.ntmps23
  go_wp2_with fail
  generalize (w.alloc (.cells #[.slice (some ad) n c] 22)).alloc (.cells #[.int .i64 x] 3) = w0 at HK HW ⊢
  refine (search_any ad n c w.heap.size zs x w0 HK (Lib.hid (hr.out.below HW.out)) hn hm).mono ?_
  rintro e w1 ⟨t, q, rfl, ht, rfl⟩
  obtain rfl := ht.uniq hs.out
  clear ht
  go_wp2
  go_ret
  exact ⟨rfl, below_drewN HW.out q⟩
set_option maxHeartbeats 1000000 in
theorem find_yes (A : Option Addr) (n c k : Nat) (zs : List Int) (x y : Int) (w : World) (hr : Hid (RdI w A n zs)) (hok : Hid (okF zs = true)) (hk : Hid (IsSym zs x k)) (h0 : 0 ≤ x) (hy : Hid (totF true zs = y)) (h1 : x < y) (h2 : y ≤ 16384) :
    Calls Try.prog 11 #[frV A n c, .int .i64 x] w fun e w' => e = .returned (findT (k : Int) 0) ∧ Below w.heap.size w w' := by
  obtain ⟨p1, p2, _, _, _⟩ := okF_parts hok.out
  have hl := hr.out.1
  rw [hl] at p1 p2
  clear hl
  obtain ⟨ad, rfl, _, _⟩ := hr.out.at_ (k := 0) (by omega)
  obtain ⟨hK, hW, hR⟩ := box_freq (c := c) hr.out
  have HK := Lib.hid hK
  have HW := Lib.hid hW
  have HR := Lib.hid hR
  have HBD := Lib.hid (show n ≤ maxLen by unfold maxLen; omega)
  have HM := Lib.hid (show ∀ i j, i < j → j < n → zs.getD i 0 < zs.getD j 0 from fun i j hij hj => okF_mono hok.out hij (by rw [hr.out.1]; exact hj))
  have HC := Lib.hid (hk.out.cuts hok.out)
  have d1 : decide (x < 0) = false := by simp; omega
  have d2 : decide (y ≤ x) = false := by simp; omega
  clear hK hW hR
  unfold frV
  go_enter Try.func11, Try.ntmps11
  go_wp2_with fail
  generalize w.alloc (.cells #[.slice (some ad) n c] 24) = w0 at HK HW HR ⊢
  refine (total_any (some ad) n c zs true y _ HR HBD.out hok.out hy.out).mono ?_
  rintro e w1 ⟨rfl, hb1⟩
  have HR1 := Lib.hid (HR.out.below hb1)
  have ck := blk0 (HK.out.below hb1 HK.out.lt)
  have HW1 := Lib.hid (HW.out.trans (hb1.mono HW.out.size))
  clear hb1
  go_wp2_with fail
  refine (searchInts_any ad n c zs (x + 1) (k + 1) _ HR1 (by omega) HM HC).mono ?_
  rintro e w2 ⟨rfl, hb2⟩
  have HW2 := Lib.hid (HW1.out.trans (hb2.mono HW1.out.size))
  have hk1 : k ≤ 1000 := by have := hk.out.1; have := hr.out.1; omega
  clear hb2
  go_wp2
  exact bodyPost_ret (v := findT (k : Int) 0) (by simp [results, Try.results11, go_sem, findT]) rfl ⟨rfl, HW2.out⟩
set_option maxHeartbeats 1000000 in
theorem find_no (A : Option Addr) (n c : Nat) (zs : List Int) (r : Bool) (x y : Int) (w : World) (hr : Hid (RdI w A n zs)) (hn : n ≤ maxLen) (hok : Hid (okF zs = r)) (hy : Hid (totF r zs = y)) (h0 : x < 0 ∨ 0 ≤ x ∧ y ≤ x) :
    Calls Try.prog 11 #[frV A n c, .int .i64 x] w fun e w' => e = .returned (findT 0 1) ∧ Below w.heap.size w w' := by
  have HBD := Lib.hid hn
  clear hn
  unfold frV
  rcases h0 with h0 | ⟨h0, h1⟩
  · have d1 : decide (x < 0) = true := by simpa using h0
    go_enter Try.func11, Try.ntmps11
    go_wp2
    exact bodyPost_ret (v := findT 0 1) (by simp [results, Try.results11, go_sem, findT]) rfl ⟨rfl, (Below.refl w.heap.size w).alloc (Nat.le_refl _) _⟩
  · have d1 : decide (x < 0) = false := by simp; omega
    have d2 : decide (y ≤ x) = true := by simpa using h1
    go_enter Try.func11, Try.ntmps11
    go_wp2_with fail
    refine (total_any A n c zs r y _ (Lib.hid (hr.out.alloc _)) HBD.out hok.out hy.out).mono ?_
    rintro e w1 ⟨rfl, hb1⟩
    have HW1 := Lib.hid (((Below.refl w.heap.size w).alloc (Nat.le_refl _) _).trans (hb1.mono (by simp)))
    clear hb1
    go_wp2
    exact bodyPost_ret (v := findT 0 1) (by simp [results, Try.results11, go_sem, findT]) rfl ⟨rfl, HW1.out⟩
set_option maxRecDepth 100000 in
set_option maxHeartbeats 1000000 in
theorem rfind_yes (A : Option Addr) (n c k : Nat) (zs : List Int) (x y : Int) (w : World) (hr : Hid (RdI w A n zs)) (hok : Hid (okF zs = true)) (hk : Hid (IsSym zs x k)) (h0 : 0 ≤ x) (hy : Hid (totF true zs = y)) (h1 : x < y) (_h2 : y ≤ 16384) :
    Calls Try.prog 12 #[frV A n c, .int .i64 x] w fun e w' => e = .returned (findT (k : Int) 0) ∧ Below w.heap.size w w' := by
  obtain ⟨p1, p2, _, _, _⟩ := okF_parts hok.out
  have hl := hr.out.1
  rw [hl] at p1 p2
  have hk1 : k + 1 < n := by have := hk.out.1; omega
  clear hl
  obtain ⟨ad, rfl, _, _⟩ := hr.out.at_ (k := 0) (by omega)
  obtain ⟨hK, hW, hR⟩ := box_freq (c := c) hr.out
  have HK := Lib.hid hK
  have HW := Lib.hid hW
  have HR := Lib.hid hR
  have HBD := Lib.hid (show n ≤ maxLen by unfold maxLen; omega)
  have d1 : decide (x < 0) = false := by simp; omega
  have d2 : decide (y ≤ x) = false := by simp; omega
  clear hK hW hR
  unfold frV
  go_enter Try.func12, Try.ntmps12
  go_wp2_with fail
  generalize w.alloc (.cells #[.slice (some ad) n c] 24) = w0 at HK HW HR ⊢
  refine (rcheck_any (some ad) n c zs true _ HR HBD.out hok.out).mono ?_
  rintro e w1 ⟨rfl, hb1⟩
  have HR1 := Lib.hid (HR.out.below hb1)
  have HK1 := Lib.hid (HK.out.below hb1 HK.out.lt)
  have ck := blk0 HK1.out
  have HW1 := Lib.hid (HW.out.trans (hb1.mono HW.out.size))
  clear hb1
  rw [show errN true = 0 from rfl]
  go_wp2_with fail
  refine (rtotal_any (some ad) n c zs true y _ HR1 HBD.out hok.out hy.out).mono ?_
  rintro e w2 ⟨rfl, hb2⟩
  have HR2 := Lib.hid (HR1.out.below hb2)
  have HK2 := Lib.hid (HK1.out.below hb2 HK1.out.lt)
  clear ck
  have ck := blk0 HK2.out
  have HW2 := Lib.hid (HW1.out.trans (hb2.mono HW1.out.size))
  clear hb2
  go_wp2
  go_loop [6] (fun v => ∃ s : Nat, s ≤ k ∧ v = .int .i64 (s : Int)) (fun v => k - (intOf v).toNat)
  case atStart => exact ⟨0, by omega, rfl⟩
  case round =>
    obtain ⟨s, hs, rfl⟩ := hrel
    have x1 := HR2.out.cellS (k := s) (by omega)
    have i1 : s + 1 < n := by omega
    by_cases hlt : s < k
    · have h3 : zs.getD (s + 1) 0 ≤ x := by
        have := mono_le hok.out (show s + 1 ≤ k by omega) (by rw [hr.out.1]; omega)
        have := hk.out.2.1
        omega
      generalize zs.getD (s + 1) 0 = b at x1 h3
      have d3 : decide (b ≤ x) = true := by simpa using h3
      go_wp2
      go_round
      case rel => exact ⟨s + 1, by omega, by go_num⟩
      case measure => simp [intOf]; omega
    · obtain rfl : s = k := by omega
      have h3 := hk.out.2.2
      clear hk
      generalize zs.getD (s + 1) 0 = b at x1 h3
      have d3 : decide (b ≤ x) = false := by simp; omega
      go_wp2
      exact bodyPost_ret (v := findT (s : Int) 0) (by simp [results, Try.results12, go_sem, findT]) rfl ⟨rfl, HW2.out⟩
set_option maxHeartbeats 1000000 in
theorem rfind_no (A : Option Addr) (n c : Nat) (zs : List Int) (r : Bool) (x y : Int) (w : World) (hr : Hid (RdI w A n zs)) (hn : n ≤ maxLen) (hok : Hid (okF zs = r)) (hy : Hid (totF r zs = y)) (h0 : x < 0 ∨ 0 ≤ x ∧ y ≤ x) :
    Calls Try.prog 12 #[frV A n c, .int .i64 x] w fun e w' => e = .returned (findT 0 1) ∧ Below w.heap.size w w' := by
  obtain ⟨hK, hW, hR⟩ := box_freq (c := c) hr.out
  have HK := Lib.hid hK
  have HW := Lib.hid hW
  have HR := Lib.hid hR
  have HBD := Lib.hid hn
  clear hK hW hR hn
  unfold frV
  go_enter Try.func12, Try.ntmps12
  go_wp2_with fail
  generalize w.alloc (.cells #[.slice A n c] 24) = w0 at HK HW HR ⊢
  refine (rcheck_any A n c zs r _ HR HBD.out hok.out).mono ?_
  rintro e w1 ⟨rfl, hb1⟩
  have HR1 := Lib.hid (HR.out.below hb1)
  have ck := blk0 (HK.out.below hb1 HK.out.lt)
  have HW1 := Lib.hid (HW.out.trans (hb1.mono HW.out.size))
  clear hb1
  cases r with
  | false =>
    rw [show errN false = 1 from rfl]
    go_wp2
    exact bodyPost_ret (v := findT 0 1) (by simp [results, Try.results12, go_sem, findT]) rfl ⟨rfl, HW1.out⟩
  | true =>
    rw [show errN true = 0 from rfl]
    rcases h0 with h0 | ⟨h0, h1⟩
    · have d1 : decide (x < 0) = true := by simpa using h0
      go_wp2
      exact bodyPost_ret (v := findT 0 1) (by simp [results, Try.results12, go_sem, findT]) rfl ⟨rfl, HW1.out⟩
    · have d1 : decide (x < 0) = false := by simp; omega
      have d2 : decide (y ≤ x) = true := by simpa using h1
      go_wp2_with fail
      refine (rtotal_any A n c zs true y _ HR1 HBD.out hok.out hy.out).mono ?_
      rintro e w2 ⟨rfl, hb2⟩
      have HW2 := Lib.hid (HW1.out.trans (hb2.mono HW1.out.size))
      clear hb2
      go_wp2
      exact bodyPost_ret (v := findT 0 1) (by simp [results, Try.results12, go_sem, findT]) rfl ⟨rfl, HW2.out⟩
end Go.Proofs.Ytlmkcipcclomdaa.Fq
