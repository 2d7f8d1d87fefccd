/-
  Own texts, laid together: Sm.
-/
import Derived.Test.YtplfcncibmgllaaDoorSl
/- Sm -/
namespace Go.Proofs.YtplfcncibmgllaaDoor.Fx
open Go.RowKit
/-- how many bits a number has -/
def blen (x : Nat) : Nat := if x = 0 then 0 else x.log2 + 1
theorem blen_half {x : Nat} (h : 0 < x) : blen (x / 2) + 1 = blen x := by
  unfold blen
  rw [if_neg (show ¬ x = 0 by omega), Nat.log2_def x]
  by_cases h2 : 2 ≤ x
  · rw [if_neg (by omega), if_pos h2]
  · rw [if_pos (by omega), if_neg h2]
theorem words_dropD {us : List Nat} {j x : Nat} (hx : us[j]? = some x) (h0 : x = 0) (hz : ∀ y ∈ us.drop (j + 1), y = 0) : ∀ y ∈ us.drop j, y = 0 := words_drop hx h0 hz
set_option maxRecDepth 100000 in
set_option maxHeartbeats 2000000 in
theorem long_any (A : Option Addr) (m c L : Nat) (ds : List Nat) (w : World) (hl : Hid (ds.length = m)) (hm : m ≤ 16) (hb : Hid (∀ x ∈ ds, x < 4294967296)) (hr : Hid (RdU w A ds)) (hv : Hid (0 < valD ds)) (hL : Hid ((valD ds).log2 + 1 = L)) (hL2 : L ≤ 1000) :
    Calls Tryd.prog 34 #[.slice A m c] w fun e w' => e = .returned (.int .i64 (L : Int)) ∧ w = w' := by
  obtain ⟨ad, rfl, hc⟩ := hr.out
  have HC := Lib.hid hc
  clear hc
  go_enter Tryd.func34, Tryd.ntmps34
  go_wp2_with fail
  go_loopw [3] (fun vi wr => ∃ k : Nat, vi = .int .i64 ((k : Int) - 1) ∧ k ≤ m ∧ Hid (∀ y ∈ ds.drop k, y = 0) ∧ wr = w) (fun vi _ => ((intOf vi) + 1).toNat)
  case atStart => exact ⟨m, by go_num, by omega, Lib.hid (by rw [List.drop_eq_nil_of_le (by rw [hl.out]; omega)]; simp), rfl⟩
  case round =>
    obtain ⟨k, rfl, hk, HZ, rfl⟩ := hrel
    cases k with
    | zero => exact absurd (valD_zero ds HZ.out) (by have := hv.out; omega)
    | succ k =>
      rw [show (((k + 1 : Nat) : Int) - 1) = (k : Int) by omega]
      obtain ⟨x, hx⟩ : ∃ x, ds[k]? = some x := ⟨_, List.getElem?_eq_getElem (by rw [hl.out]; omega)⟩
      have hcell := HC.out k x hx
      have x32 : x < 4294967296 := hb.out x (List.mem_of_getElem? hx)
      have HX := Lib.hid hx
      clear hx
      by_cases h0 : x = 0
      · subst h0
        go_wp2
        go_roundw
        case rel => exact ⟨k, by go_num, by omega, Lib.hid (words_drop HX.out rfl HZ.out), trivial⟩
        case measure => simp [intOf]
      · have hlog := log2_digits HX.out (by omega) hb.out HZ.out
        have HT := Lib.hid (show 32 * k + blen x = L by unfold blen; rw [if_neg h0]; have := hL.out; omega)
        clear hlog
        have x0 : 0 < x := by omega
        have x0' : 0 < (x : Int) := by omega
        have x0i : ¬ (x : Int) ≤ 0 := by omega
        clear h0
        go_wp2_with fail
        clear hcell x0' x0i
        go_loopw [4, 5] (fun vn vx wq => ∃ N X : Nat, vn = .int .i64 (N : Int) ∧ vx = .int .u64 (X : Int) ∧ X < 4294967296 ∧ N ≤ 1000 ∧ Hid (N + blen X = L) ∧ wq = wr) (fun _ vx _ => (intOf vx).toNat)
        case atStart => exact ⟨32 * k, x, by go_num, rfl, x32, by omega, HT, rfl⟩
        case round =>
          obtain ⟨N, X, rfl, rfl, X32, hN, HI, rfl⟩ := hrel
          by_cases hX : 0 < X
          · have hX' : 0 < (X : Int) := by omega
            obtain ⟨Y, hY⟩ : ∃ Y, X / 2 = Y := ⟨_, rfl⟩
            have eY : (X : Int) / 2 = (Y : Int) := by omega
            have y2 : Y < X := by omega
            have HH := Lib.hid (show N + 1 + blen Y = L by have h1 := blen_half hX; rw [hY] at h1; have := HI.out; omega)
            have HN := Lib.hid (show N + 1 ≤ 1000 by have := HH.out; omega)
            clear hY
            go_wp2
            go_roundw
            case rel => exact ⟨N + 1, Y, by go_num, rfl, by omega, HN.out, HH, trivial⟩
            case measure => simp [intOf]; omega
          · obtain rfl : X = 0 := by omega
            go_wp2
            go_ret
            exact ⟨by have := HI.out; rw [show blen 0 = 0 from rfl, Nat.add_zero] at this; rw [this]; rfl, rfl⟩
set_option maxRecDepth 100000 in
set_option maxHeartbeats 2000000 in
theorem rlog_any (n : Nat) (w : World) (hn : n < 18446744073709551616) :
    Calls Tryd.prog 24 #[.int .u64 (n : Int)] w fun e w' => e = .returned (.int .i64 (logN n : Int)) ∧ Below w.heap.size w w' := by
  by_cases h0 : n = 0
  · subst h0
    rw [show logN 0 = 0 by decide]
    go_enter Tryd.func24, Tryd.ntmps24
    go_wp2
    go_ret
    exact ⟨rfl, Below.refl _ _⟩
  · have h0' : ((n : Int) == 0) = false := by simp; omega
    have hlt := logN_lt n hn
    obtain ⟨L, hL⟩ : ∃ L, logN n = L := ⟨_, rfl⟩
    rw [hL] at hlt ⊢
    have HL := Lib.hid hL
    have H0 := Lib.hid (show 0 < n by omega)
    clear hL h0
    obtain ⟨lo, hlo⟩ : ∃ lo, n % 4294967296 = lo := ⟨_, rfl⟩
    obtain ⟨hi, hhi⟩ : ∃ hi, n / 4294967296 = hi := ⟨_, rfl⟩
    have el : bits BinOp.and IntKind.u64 (n : Int) 4294967295 = (lo : Int) := by rw [low32 n hn, hlo]
    have eh : (n : Int) / 4294967296 = (hi : Int) := by omega
    have HV := Lib.hid (show valD [lo, hi] = n by simp only [valD]; omega)
    have HB := Lib.hid (show ∀ x ∈ [lo, hi], x < 4294967296 by
      intro x hx
      simp only [List.mem_cons, List.not_mem_nil, or_false] at hx
      rcases hx with rfl | rfl <;> omega)
    clear hlo hhi
    go_enter Tryd.func24, Tryd.ntmps24
    go_wp2_with fail
    have G0 := Lib.hid (show RdU (w.alloc (.cells #[Value.int IntKind.u64 (lo : Int), Value.int IntKind.u64 (hi : Int)] 46)) (some ⟨w.heap.size, 0, none⟩) [lo, hi] from RdU.of_blk (Blk.new w 46 (ucells [lo, hi])))
    have B0 := Lib.hid (show Below w.heap.size w (w.alloc (.cells #[Value.int IntKind.u64 (lo : Int), Value.int IntKind.u64 (hi : Int)] 46)) from (Below.refl _ _).alloc (Nat.le_refl _) _)
    generalize w.alloc _ = w0 at G0 B0 ⊢
    refine (square_any _ 2 2 [lo, hi] _ (Lib.hid rfl) (by omega) HB G0).mono ?_
    rintro e w1 ⟨g1, us1, rfl, l1, b1, v1, k1, hb1⟩
    have B1 := Lib.hid (B0.out.trans (hb1.mono B0.out.size))
    have l1' : us1.length = 4 := l1
    have HV1 := Lib.hid (show valD us1 = n ^ 2 by rw [v1, HV.out, Nat.pow_succ, Nat.pow_one])
    have K1 := Lib.hid k1
    have HB1 := Lib.hid b1
    clear l1 b1 v1 k1 hb1 el eh
    rw [l1']
    go_wp2_with fail
    refine (square_any _ 4 4 us1 _ (Lib.hid l1') (by omega) HB1 (Lib.hid (RdU.of_blk K1.out))).mono ?_
    rintro e w2 ⟨g2, us2, rfl, l2, b2, v2, k2, hb2⟩
    have B2 := Lib.hid (B1.out.trans (hb2.mono B1.out.size))
    have l2' : us2.length = 8 := by rw [l2, l1']
    have HV2 := Lib.hid (show valD us2 = n ^ 4 by rw [v2, HV1.out, ← Nat.pow_add])
    have K2 := Lib.hid k2
    have HB2 := Lib.hid b2
    clear l2 b2 v2 k2 hb2 l1'
    rw [l2']
    go_wp2_with fail
    refine (square_any _ 8 8 us2 _ (Lib.hid l2') (by omega) HB2 (Lib.hid (RdU.of_blk K2.out))).mono ?_
    rintro e w3 ⟨g3, us3, rfl, l3, b3, v3, k3, hb3⟩
    have B3 := Lib.hid (B2.out.trans (hb3.mono B2.out.size))
    have l3' : us3.length = 16 := by rw [l3, l2']
    have HV3 := Lib.hid (show valD us3 = n ^ 8 by rw [v3, HV2.out, ← Nat.pow_add])
    have K3 := Lib.hid k3
    have HB3 := Lib.hid b3
    clear l3 b3 v3 k3 hb3 l2'
    rw [l3']
    go_wp2_with fail
    refine (long_any _ 16 16 (L + 1) us3 _ (Lib.hid l3') (by omega) HB3 (Lib.hid (RdU.of_blk K3.out)) (Lib.hid (by rw [HV3.out]; exact Nat.pow_pos H0.out)) (Lib.hid (by rw [HV3.out, ← HL.out]; rfl)) (by omega)).mono ?_
    rintro e w' ⟨rfl, rfl⟩
    clear l3'
    go_wp2
    go_ret
    exact ⟨rfl, B3.out⟩
end Go.Proofs.YtplfcncibmgllaaDoor.Fx
