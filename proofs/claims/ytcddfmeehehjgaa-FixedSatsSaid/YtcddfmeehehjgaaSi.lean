/-
  Own texts, laid together: Si.
-/
import Derived.Test.YtcddfmeehehjgaaSg
/- Si -/
namespace Go.Proofs.Ytcddfmeehehjgaa.Fx
open Go.RowKit
theorem hold_flip (v a b : Int) (h : a ≤ b) : min (max v a) b = holdI v a b := by unfold holdI; omega
theorem hold_bits (b : Int) : min (max b 1) 62 = (bwN b : Int) + 1 := by
  have h1 := bwN_is b
  have h2 := hold_flip b 1 62 (by omega)
  omega
set_option maxRecDepth 100000 in
set_option maxHeartbeats 1000000 in
theorem rsat_any (v b : Int) (w : World) :
    Calls Try.prog 14 #[.int .i64 v, .int .i64 b] w fun e w' => e = .returned (.int .i64 (satI v b)) ∧ w = w' := by
  obtain ⟨s, hs⟩ : ∃ s, s = bwN b := ⟨_, rfl⟩
  have h61 : s ≤ 61 := by rw [hs]; exact bwN_le b
  have hb : min (max b 1) 62 = (s : Int) + 1 := by rw [hs]; exact hold_bits b
  have HS := Lib.hid (show satI v b = holdI v (-((2 ^ s : Nat) : Int)) (((2 ^ s : Nat) : Int) - 1) by rw [hs]; rfl)
  clear hs
  go_enter Try.func14, Try.ntmps14
  go_wp2_with fail
  go_loopw [5, 11] (fun vl vi wr => ∃ k : Nat, vl = .int .i64 (-((2 ^ k : Nat) : Int)) ∧ vi = .int .i64 (k : Int) ∧ k ≤ s ∧ wr = w) (fun _ vi _ => s - (intOf vi).toNat)
  case atStart => exact ⟨0, rfl, rfl, by omega, rfl⟩
  case round =>
    obtain ⟨k, rfl, rfl, hk, rfl⟩ := hrel
    obtain ⟨p1, p2⟩ := p61 (show k ≤ 61 by omega)
    obtain ⟨P, hP⟩ : ∃ P, 2 ^ k = P := ⟨_, rfl⟩
    rw [hP] at p1 p2 ⊢
    by_cases hlt : k < s
    · have HN := Lib.hid (show ((2 ^ (k + 1) : Nat) : Int) = 2 * (P : Int) by rw [Nat.pow_succ, hP]; omega)
      clear hP
      have p3 : 2 ^ (k + 1) ≤ 2305843009213693952 := (p61 (show k + 1 ≤ 61 by omega)).2
      have p4 : 2 * P ≤ 2305843009213693952 := by have := HN.out; omega
      clear p3
      obtain ⟨x, hx⟩ : ∃ x, -(P : Int) * 2 = x := ⟨_, rfl⟩
      have x1 : -2305843009213693952 ≤ x := by omega
      have x2 : x ≤ 0 := by omega
      have HX := Lib.hid (show x = -((2 ^ (k + 1) : Nat) : Int) by rw [HN.out]; omega)
      go_wp2
      clear hx
      go_roundw
      case rel => exact ⟨k + 1, by rw [HX.out], by go_num, by omega, trivial⟩
      case measure => simp [intOf]; omega
    · obtain rfl : k = s := by omega
      rw [hP] at HS
      clear hP
      have HF := Lib.hid (hold_flip v (-(P : Int)) ((P : Int) - 1) (by omega))
      have en : -(-(P : Int)) = (P : Int) := by omega
      go_wp2
      go_ret
      exact ⟨by rw [HS.out, ← HF.out]; first | rfl | (simp only [Int.neg_neg]; rfl), rfl⟩
/-- the bit that falls off first -/
theorem half_bit (v : Int) (P : Nat) (p1 : 1 ≤ P) : v / (P : Int) % 2 = if (P : Int) ≤ v - v / (2 * (P : Int)) * (2 * (P : Int)) then 1 else 0 := by
  have e2 : v / (2 * (P : Int)) = v / (P : Int) / 2 := by rw [Int.mul_comm, Int.ediv_ediv_of_nonneg (by omega)]
  rw [e2]
  have e3 := Int.mul_ediv_add_emod v (P : Int)
  have e4 := Int.emod_nonneg v (show (P : Int) ≠ 0 by omega)
  have e5 := Int.emod_lt_of_pos v (show 0 < (P : Int) by omega)
  generalize v / (P : Int) = d at *
  generalize v % (P : Int) = ρ at *
  obtain ⟨f, hf⟩ : ∃ f, d / 2 = f := ⟨_, rfl⟩
  rw [hf]
  have e6 : f * (2 * (P : Int)) = (P : Int) * (2 * f) := by rw [Int.mul_comm f, Int.mul_assoc, Int.mul_left_comm]
  rw [e6]
  rcases (show d % 2 = 0 ∨ d % 2 = 1 by omega) with g | g
  · have hd : 2 * f = d := by omega
    rw [g, hd, if_neg (by omega)]
  · have hd : d = 2 * f + 1 := by omega
    rw [hd, Int.mul_add, Int.mul_one] at e3
    rw [g, if_pos (by omega)]
theorem floor_in (v : Int) (k Q : Nat) (hk : k ≤ 62) (hQ : 2 ^ k = Q) (hv : -9223372036854775808 ≤ v ∧ v ≤ 9223372036854775807) : ∃ x y : Int, v / (Q : Int) = x ∧ x * (Q : Int) = y ∧ -9223372036854775808 ≤ y ∧ y ≤ v ∧ v - y < (Q : Int) := by
  have q1 : 1 ≤ Q := by rw [← hQ]; exact Nat.pow_pos (by omega)
  have e3 := Int.mul_ediv_add_emod v (Q : Int)
  have e4 := Int.emod_nonneg v (show (Q : Int) ≠ 0 by omega)
  have e5 := Int.emod_lt_of_pos v (show 0 < (Q : Int) by omega)
  have e6 : v / (Q : Int) * (Q : Int) = (Q : Int) * (v / (Q : Int)) := Int.mul_comm _ _
  refine ⟨_, _, rfl, rfl, ?_, by omega, by omega⟩
  have hd : (2 ^ (63 - k) : Nat) * Q = 9223372036854775808 := by rw [← hQ, ← Nat.pow_add, show 63 - k + k = 63 by omega]
  have hd' : ((2 ^ (63 - k) : Nat) : Int) * (Q : Int) = 9223372036854775808 := by rw [← Int.natCast_mul, hd]; rfl
  have h1 : -((2 ^ (63 - k) : Nat) : Int) ≤ v / (Q : Int) := Int.le_ediv_of_mul_le (by omega) (by rw [Int.neg_mul, hd']; exact hv.1)
  have h2 := Int.mul_le_mul_of_nonneg_right h1 (show 0 ≤ (Q : Int) by omega)
  rw [Int.neg_mul, hd'] at h2
  exact h2
set_option maxHeartbeats 2000000 in
theorem rround_any (v b : Int) (w : World) (hv : -9223372036854775808 ≤ v ∧ v ≤ 9223372036854775807) :
    Calls Try.prog 20 #[.int .i64 v, .int .i64 b] w fun e w' => e = .returned (.int .i64 (roundI v b)) ∧ w = w' := by
  by_cases h1 : b < 1
  · have HR := Lib.hid (show roundI v b = v by unfold roundI; rw [if_pos h1])
    go_enter Try.func20, Try.ntmps20
    go_wp2
    go_ret
    exact ⟨by rw [HR.out]; rfl, rfl⟩
  · by_cases h2 : 62 < b
    · have HR := Lib.hid (show roundI v b = 0 by unfold roundI; rw [if_neg h1, if_pos h2])
      go_enter Try.func20, Try.ntmps20
      go_wp2
      go_ret
      exact ⟨by rw [HR.out]; rfl, rfl⟩
    · obtain ⟨k, hk⟩ : ∃ k : Nat, (k : Int) + 1 = b := ⟨(b - 1).toNat, by omega⟩
      subst hk
      have k61 : k ≤ 61 := by omega
      obtain ⟨P, hP⟩ : ∃ P, 2 ^ k = P := ⟨_, rfl⟩
      obtain ⟨Q, hQ⟩ : ∃ Q, 2 ^ (k + 1) = Q := ⟨_, rfl⟩
      obtain ⟨p1, p2⟩ := p61 k61
      rw [hP] at p1 p2
      have hPQ : (Q : Int) = 2 * (P : Int) := by rw [← hQ, Nat.pow_succ, hP]; omega
      obtain ⟨x, y, hx, hy, y1, y2, y3⟩ := floor_in v (k + 1) Q (by omega) hQ hv
      have HR := Lib.hid (show roundI v ((k : Int) + 1) = x + if (P : Int) ≤ v - y then 1 else 0 by
        have hh := half_bit v P p1
        rw [← hPQ, hx, hy] at hh
        unfold roundI
        rw [if_neg h1, if_neg h2, show (((k : Int) + 1).toNat) = k + 1 by omega, show k + 1 - 1 = k by omega, hP, hQ, hx, hh])
      obtain ⟨h1', h2'⟩ := hv
      have x1 : -4611686018427387904 ≤ x := by rw [← hx]; exact Int.le_ediv_of_mul_le (by omega) (by omega)
      have x2 : x < 4611686018427387904 := by rw [← hx]; exact Int.ediv_lt_of_lt_mul (by omega) (by omega)
      obtain ⟨o, ho⟩ : ∃ o, v - y = o := ⟨_, rfl⟩
      rw [ho] at HR y3
      have o1 : 0 ≤ o := by omega
      have o2 : o < 4611686018427387904 := by omega
      have hp := pow_cast k
      have hq := pow_cast (k + 1)
      rw [hP] at hp
      rw [hQ] at hq
      have e1 : (k : Int) + 1 - 1 = (k : Int) := by omega
      clear h1 h2 hP hQ hPQ y3
      by_cases hc : (P : Int) ≤ o
      · rw [if_pos hc] at HR
        go_enter Try.func20, Try.ntmps20
        go_wp2
        go_ret
        exact ⟨by rw [HR.out]; rfl, rfl⟩
      · rw [if_neg hc, Int.add_zero] at HR
        go_enter Try.func20, Try.ntmps20
        go_wp2
        go_ret
        exact ⟨by rw [HR.out]; rfl, rfl⟩
set_option maxHeartbeats 1000000 in
theorem rmul_any (a b s : Int) (w : World) :
    Calls Try.prog 22 #[.int .i64 a, .int .i64 b, .int .i64 s] w fun e w' => e = .returned (.int .i64 (mulI a b s)) ∧ w = w' := by
  have HM := Lib.hid (show mulI a b s = roundI (hold31 a * hold31 b) s from rfl)
  obtain ⟨x, hx⟩ : ∃ x, hold31 a = x := ⟨_, rfl⟩
  obtain ⟨y, hy⟩ : ∃ y, hold31 b = y := ⟨_, rfl⟩
  obtain ⟨m1, m2⟩ := mul_in (hold31_in a) (hold31_in b)
  rw [hx, hy] at HM m1 m2
  obtain ⟨z, hz⟩ : ∃ z, x * y = z := ⟨_, rfl⟩
  rw [hz] at HM m1 m2
  have hx' : min (max a (-2147483648)) 2147483648 = x := by rw [hold_flip _ _ _ (by omega)]; exact hx
  have hy' : min (max b (-2147483648)) 2147483648 = y := by rw [hold_flip _ _ _ (by omega)]; exact hy
  clear hx hy
  go_enter Try.func22, Try.ntmps22
  go_wp2_with fail
  refine (rround_any z s _ ⟨by omega, by omega⟩).mono ?_
  rintro e w' ⟨rfl, rfl⟩
  rw [← HM.out]
  clear hx' hy' hz
  go_wp2
  go_ret
  exact ⟨rfl, rfl⟩
set_option maxHeartbeats 1000000 in
theorem rdiv_any (a b : Int) (w : World) (ha : -9223372036854775808 ≤ a ∧ a ≤ 9223372036854775807) (hb : b ≤ 9223372036854775807) :
    Calls Try.prog 18 #[.int .i64 a, .int .i64 b] w fun e w' => e = .returned (divV a b) ∧ w = w' := by
  by_cases h1 : b < 1
  · have HR := Lib.hid (show divV a b = .tuple #[.int .i64 0, .int .i64 1] by unfold divV; rw [if_pos h1])
    go_enter Try.func18, Try.ntmps18
    go_wp2
    go_ret2
    exact ⟨by rw [HR.out]; rfl, rfl⟩
  · have HR := Lib.hid (show divV a b = .tuple #[.int .i64 (divI a b), .int .i64 0] by unfold divV; rw [if_neg h1])
    have b0 : ¬ b = 0 := by omega
    have b0' : (b == 0) = false := by simp; omega
    have h1' : 1 ≤ b := by omega
    obtain ⟨q, hq⟩ : ∃ q, a.tdiv b = q := ⟨_, rfl⟩
    obtain ⟨r, hr⟩ : ∃ r, a.tmod b = r := ⟨_, rfl⟩
    have ht := tdm a b h1'
    have HD := Lib.hid (show divI a b = divQ b q r by rw [← hq, ← hr]; rfl)
    rw [hq, hr] at ht
    obtain ⟨ht1, ht2⟩ := ht
    have HT := Lib.hid ht1
    clear ht1
    have r1 : -b < r := by omega
    have r2 : r < b := by omega
    have q1 : -9223372036854775808 ≤ q := by omega
    have q2 : q ≤ 9223372036854775807 := by omega
    have q3 : 0 < r → b - r ≤ r → q < 9223372036854775807 := by
      intro g1 g2
      have hb2 : 2 ≤ b := by omega
      have : 2 * q ≤ b * q := Int.mul_le_mul_of_nonneg_right hb2 (by omega)
      have := HT.out
      omega
    have q4 : r < 0 → b + r ≤ -r → -9223372036854775808 < q := by
      intro g1 g2
      have hb2 : 2 ≤ b := by omega
      have g3 : 2 * (-q) ≤ b * (-q) := Int.mul_le_mul_of_nonneg_right hb2 (by omega)
      have g4 : b * (-q) = -(b * q) := Int.mul_neg b q
      have := HT.out
      omega
    have HQ3 := Lib.hid q3
    have HQ4 := Lib.hid q4
    have HA := Lib.hid ht2
    clear ht2 q3 q4
    by_cases c3 : r < 0
    · have a3 : a < 0 := by
        rcases Int.lt_or_le a 0 with h | h
        · exact h
        · have h1 := HA.out
          have h2 := HT.out
          have hq0 : q = 0 := by omega
          rw [hq0, Int.mul_zero] at h2
          omega
      by_cases c2 : b + r ≤ -r
      · have q5 := HQ4.out c3 c2
        have c4 : b - -r ≤ -r := by omega
        have HE := Lib.hid (show divQ b q r = q - 1 by unfold divQ; rw [if_neg (fun h => by have := h.1; omega), if_pos ⟨c3, c2⟩])
        go_enter Try.func18, Try.ntmps18
        go_wp2
        go_ret2
        exact ⟨by rw [HR.out, HD.out, HE.out]; rfl, rfl⟩
      · have c4 : ¬ b - -r ≤ -r := by omega
        have HE := Lib.hid (show divQ b q r = q by unfold divQ; rw [if_neg (fun h => by have := h.1; omega), if_neg (fun h => c2 h.2)])
        go_enter Try.func18, Try.ntmps18
        go_wp2
        go_ret2
        exact ⟨by rw [HR.out, HD.out, HE.out]; rfl, rfl⟩
    · by_cases c2 : b - r ≤ r
      · have c1 : 0 < r := by omega
        have q5 := HQ3.out c1 c2
        have a3 : ¬ a < 0 := by have := HA.out; omega
        have HE := Lib.hid (show divQ b q r = q + 1 by unfold divQ; rw [if_pos ⟨c1, c2⟩])
        go_enter Try.func18, Try.ntmps18
        go_wp2
        go_ret2
        exact ⟨by rw [HR.out, HD.out, HE.out]; rfl, rfl⟩
      · have HE := Lib.hid (show divQ b q r = q by unfold divQ; rw [if_neg (fun h => c2 h.2), if_neg (fun h => c3 h.1)])
        go_enter Try.func18, Try.ntmps18
        go_wp2
        go_ret2
        exact ⟨by rw [HR.out, HD.out, HE.out]; rfl, rfl⟩
end Go.Proofs.Ytcddfmeehehjgaa.Fx
