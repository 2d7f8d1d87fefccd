/-
  Own texts, laid together: Tf.
-/
import Derived.Test.YtplfcncibmgllaaTe
import Derived.Test.YtplfcncibmgllaaSx
import Derived.Laws.AppendOwn
import Derived.Laws.AppendOwnNone
import Derived.Maps.AppendAt
import Derived.OwnWalk
/- Tf -/
namespace Go.Proofs.Ytplfcncibmgllaa.Tb
open Go.RowKit Go.Proofs.Ytplfcncibmgllaa.Fx Go.Proofs.Ytplfcncibmgllaa.Fq
def halfV2 (i : Nat) : Value := .tuple #[.int .i64 (partP i).1, .int .i64 (partP i).2]
theorem rroot_lit (v : Int) (n r : Nat) (w : World) (h : (n : Int) = v * 536870912) (hr : IsRt n r) (hv : v ≤ 2147483648) :
    Calls Try.prog 49 #[.int .u64 (n : Int)] w fun e w' => e = .returned (.int .u64 (r : Int)) ∧ w = w' := by
  refine (rsqrt_any n w (by omega)).mono ?_
  rintro e w' ⟨s, rfl, hs, rfl⟩
  obtain rfl := hr.uniq hs
  exact ⟨rfl, rfl⟩
set_option maxRecDepth 100000 in
set_option maxHeartbeats 2000000 in
theorem rhalf_any (i : Nat) (h1 : 1 ≤ i) (h7 : i ≤ 7) : ∀ w, Calls Try.prog 46 #[.int .i64 (i : Int)] w fun e w' => e = .returned (halfV2 i) ∧ w = w' := by
  induction i with
  | zero => omega
  | succ j ih =>
    intro w
    rcases (show j = 0 ∨ j = 1 ∨ 2 ≤ j by omega) with rfl | rfl | h2
    · have d1 : ((1 : Int) == 1) = true := by decide
      go_enter Try.func46, Try.ntmps46
      go_wp2
      go_ret2
      exact ⟨rfl, rfl⟩
    · go_enter Try.func46, Try.ntmps46
      go_wp2
      go_ret2
      exact ⟨rfl, rfl⟩
    · have IH := Lib.hid (ih (by omega) (by omega))
      obtain ⟨c1, c2, c3, c4, c5, c6, c7⟩ := partP_root (j + 1) (by omega) (by omega)
      rw [Nat.add_sub_cancel] at c1 c2 c5 c6 c7
      obtain ⟨i, hi⟩ : ∃ i, i = j + 1 := ⟨_, rfl⟩
      rw [← hi] at c1 c2 c3 c4 ⊢
      have vj : (i : Int) - 1 = (j : Int) := by omega
      have d1 : ((i : Int) == 1) = false := by simp; omega
      have d2 : ((i : Int) == 2) = false := by simp; omega
      have HV := Lib.hid (show halfV2 i = .tuple #[.int .i64 (partP i).1, .int .i64 (partP i).2] from rfl)
      have HVJ := Lib.hid (show halfV2 j = .tuple #[.int .i64 (partP j).1, .int .i64 (partP j).2] from rfl)
      generalize (partP j).1 = D at c1 c2 c5 c6 c7 HVJ
      generalize (partP j).2 = S at HVJ
      generalize (partP i).1 = P at c1 c3 HV
      generalize (partP i).2 = Q at c2 c4 HV
      obtain ⟨C, rfl⟩ : ∃ C : Nat, P = (C : Int) := ⟨P.toNat, by omega⟩
      obtain ⟨R, rfl⟩ : ∃ R : Nat, Q = (R : Int) := ⟨Q.toNat, by omega⟩
      rw [Int.toNat_natCast] at c1 c2
      obtain ⟨n1, hn1⟩ : ∃ n : Nat, (1073741824 + D).toNat * 536870912 = n := ⟨_, rfl⟩
      obtain ⟨n2, hn2⟩ : ∃ n : Nat, (1073741824 - D).toNat * 536870912 = n := ⟨_, rfl⟩
      rw [hn1] at c1
      rw [hn2] at c2
      obtain ⟨y1, f1⟩ : ∃ y, 1073741824 + D = y := ⟨_, rfl⟩
      obtain ⟨y2, f2⟩ : ∃ y, 1073741824 - D = y := ⟨_, rfl⟩
      have r1 := c1.lt (by omega)
      have r2 := c2.lt (by omega)
      have e1 : y1 * 536870912 = (n1 : Int) := by omega
      have e2 : y2 * 536870912 = (n2 : Int) := by omega
      have b1 : 0 ≤ y1 := by omega
      have b2 : y1 ≤ 2147483648 := by omega
      have b3 : 0 ≤ y2 := by omega
      have b4 : y2 ≤ 2147483648 := by omega
      have n1' : n1 < 18446744073709551616 := by omega
      have n2' : n2 < 18446744073709551616 := by omega
      have K1 := Lib.hid (rroot_lit y1 n1 C · e1.symm c1 b2)
      have K2 := Lib.hid (rroot_lit y2 n2 R · e2.symm c2 b4)
      clear hn1 hn2 c1 c2 c3 c4 c5 c6 c7 hi ih
      go_enter Try.func46, Try.ntmps46
      go_wp2_with fail
      refine (IH.out _).mono ?_
      rw [HVJ.out]
      rintro e w1 ⟨rfl, rfl⟩
      go_wp2_with fail
      refine (K1.out _).mono ?_
      rintro e w1 ⟨rfl, rfl⟩
      go_wp2_with fail
      refine (K2.out _).mono ?_
      rintro e w1 ⟨rfl, rfl⟩
      go_wp2
      go_ret2
      exact ⟨by rw [HV.out]; rfl, rfl⟩
theorem tm128 (m : Int) (n : Nat) (hm : m % 128 = (n : Int)) : ∃ t, m.tmod 128 = t ∧ -128 < t ∧ t < 128 ∧ (t + 128) % 128 = (n : Int) ∧ t % 128 = (n : Int) := by
  have h1 := Int.mul_tdiv_add_tmod m 128
  have h2 := tdm m 128 (by omega)
  exact ⟨_, rfl, by have := h2.2; omega, by have := h2.2; omega, by omega, by omega⟩
set_option maxRecDepth 100000 in
set_option maxHeartbeats 4000000 in
theorem rturn_any (m : Int) (w : World) : Calls Try.prog 41 #[.int .i64 m] w fun e w' => e = .returned (turnT (pl m)) ∧ w = w' := by
  obtain ⟨hn, hm⟩ := pl_is m
  generalize pl m = n at hn hm ⊢
  obtain ⟨t, ht, t1, t2, ht2, ht3⟩ := tm128 m n hm
  have HN := Lib.hid hn
  have n0 : (n : Int) < 128 := by omega
  clear hm hn
  go_enter Try.func41, Try.ntmps41
  go_wp2_with fail
  rw [ht2]
  clear ht ht2 ht3 t1 t2
  go_loop [4, 5, 6, 7, 8, 9, 10] (fun vx vy vi _ _ _ _ => ∃ j : Nat, j ≤ 7 ∧ vi = .int .i64 ((j + 1 : Nat) : Int) ∧ vx = .int .i64 (stP n j).1 ∧ vy = .int .i64 (stP n j).2) (fun _ _ vi _ _ _ _ => (8 - intOf vi).toNat)
  case atStart => exact ⟨0, by omega, rfl, rfl, rfl⟩
  case round =>
    obtain ⟨j, hj, rfl, rfl, rfl⟩ := hrel
    obtain ⟨i, hi⟩ : ∃ i, i = j + 1 := ⟨_, rfl⟩
    rw [← hi]
    have HI := Lib.hid hi
    clear hi
    by_cases hlt : j < 7
    · obtain ⟨s, hs⟩ : ∃ s, s + j = 6 := ⟨6 - j, by omega⟩
      have vs : (7 : Int) - (i : Int) = (s : Int) := by have := HI.out; omega
      obtain ⟨P, hP⟩ : ∃ P, 2 ^ s = P := ⟨_, rfl⟩
      have hp := pow_cast s
      rw [hP] at hp
      have HPP := Lib.hid (show P = 2 ^ (6 - j) by rw [← hP, show 6 - j = s by omega])
      have i7 : (i : Int) ≤ 7 := by have := HI.out; omega
      have s6 : s ≤ 6 := by omega
      clear hP hs
      by_cases hbit : n / P % 2 = 1
      · have hb : bits BinOp.and IntKind.i64 ((n : Int) / (P : Int)) 1 = 1 := by rw [i64_and1]; omega
        have HST := Lib.hid (show rot (stP n j) (partP i) = stP n (j + 1) by rw [stP, if_pos (by rw [← HPP.out]; exact hbit), ← HI.out])
        obtain ⟨a1, a2, b1, b2⟩ := stP_low n HN.out j (by omega)
        obtain ⟨c1, c2, d1, d2⟩ := partP_low i (by omega)
        have HV := Lib.hid (show halfV2 i = .tuple #[.int .i64 (partP i).1, .int .i64 (partP i).2] from rfl)
        have HA := Lib.hid (show (stP n (j + 1)).1 = roundI ((stP n j).1 * (partP i).1 - (stP n j).2 * (partP i).2) 30 by rw [← HST.out]; rfl)
        have HB := Lib.hid (show (stP n (j + 1)).2 = roundI ((stP n j).1 * (partP i).2 + (stP n j).2 * (partP i).1) 30 by rw [← HST.out]; rfl)
        generalize (stP n j).1 = a at *
        generalize (stP n j).2 = b at *
        generalize (partP i).1 = c at *
        generalize (partP i).2 = d at *
        have m1 := low_mul a1 a2 c1 c2
        have m2 := low_mul b1 b2 d1 d2
        have m3 := low_mul a1 a2 d1 d2
        have m4 := low_mul b1 b2 c1 c2
        obtain ⟨x1, e1⟩ : ∃ x, a * c = x := ⟨_, rfl⟩
        obtain ⟨x2, e2⟩ : ∃ x, b * d = x := ⟨_, rfl⟩
        obtain ⟨x3, e3⟩ : ∃ x, a * d = x := ⟨_, rfl⟩
        obtain ⟨x4, e4⟩ : ∃ x, b * c = x := ⟨_, rfl⟩
        rw [e1, e2] at HA
        rw [e3, e4] at HB
        rw [e1] at m1
        rw [e2] at m2
        rw [e3] at m3
        rw [e4] at m4
        obtain ⟨m11, m12⟩ := m1
        obtain ⟨m21, m22⟩ := m2
        obtain ⟨m31, m32⟩ := m3
        obtain ⟨m41, m42⟩ := m4
        have R1 := Lib.hid (show ∀ u, Calls Try.prog 18 #[.int .i64 (x1 - x2), .int .i64 30] u fun e w' => e = .returned (.int .i64 (stP n (j + 1)).1) ∧ u = w' from fun u => by rw [HA.out]; exact rround_any _ _ u ⟨by omega, by omega⟩)
        have R2 := Lib.hid (show ∀ u, Calls Try.prog 18 #[.int .i64 (x3 + x4), .int .i64 30] u fun e w' => e = .returned (.int .i64 (stP n (j + 1)).2) ∧ u = w' from fun u => by rw [HB.out]; exact rround_any _ _ u ⟨by omega, by omega⟩)
        clear hbit HST HA HB
        go_wp2_with fail
        refine (rhalf_any i (by have := HI.out; omega) (by omega) _).mono ?_
        rw [HV.out]
        rintro e w1 ⟨rfl, rfl⟩
        go_wp2_with fail
        refine (R1.out _).mono ?_
        rintro e w1 ⟨rfl, rfl⟩
        go_wp2_with fail
        refine (R2.out _).mono ?_
        rintro e w1 ⟨rfl, rfl⟩
        go_wp2
        go_round
        case rel => exact ⟨j + 1, by omega, by have := HI.out; go_num, rfl, rfl⟩
        case measure => simp [intOf]; have := HI.out; omega
      · have hb : bits BinOp.and IntKind.i64 ((n : Int) / (P : Int)) 1 = 0 := by rw [i64_and1]; omega
        have HST := Lib.hid (show stP n j = stP n (j + 1) by rw [stP, if_neg (by rw [← HPP.out]; exact hbit)])
        clear hbit
        go_wp2
        go_round
        case rel => exact ⟨j + 1, by omega, by have := HI.out; go_num, by rw [← HST.out], by rw [← HST.out]⟩
        case measure => simp [intOf]; have := HI.out; omega
    · have i7 : ¬ (i : Int) ≤ 7 := by have := HI.out; omega
      have HJ := Lib.hid (show stP n j = ptP n by rw [show j = 7 by omega]; rfl)
      go_wp2
      go_ret2
      exact ⟨by rw [HJ.out]; rfl, rfl⟩
end Go.Proofs.Ytplfcncibmgllaa.Tb
