/-
  Own texts, laid together: Sh.
-/
import Derived.Test.YtcddfmeehehjgaaSg
/- Sh -/
namespace Go.Proofs.Ytcddfmeehehjgaa.Fx
open Go.RowKit
/-- rounding, by letters: half is P, the whole is twice as much -/
theorem round_parts (v : Int) (s P : Nat) (h : s < 62) (hP : 2 ^ s = P) : ∃ R M : Int, roundI v (1 + (s : Int)) = R ∧ R * (2 * (P : Int)) = M ∧ v - M < (P : Int) ∧ -(P : Int) ≤ v - M := by
  have p1 : 1 ≤ P := by rw [← hP]; exact Nat.pow_pos (by omega)
  have e1 : roundI v (1 + (s : Int)) = v / (2 * (P : Int)) + v / (P : Int) % 2 := by
    unfold roundI
    rw [if_neg (by omega), if_neg (by omega), show (1 + (s : Int)).toNat = s + 1 by omega, show s + 1 - 1 = s by omega, Nat.pow_succ, hP]
    rw [show ((P * 2 : Nat) : Int) = 2 * (P : Int) by omega]
  refine ⟨_, _, e1, rfl, ?_⟩
  have e2 : v / (2 * (P : Int)) = v / (P : Int) / 2 := by rw [Int.mul_comm, Int.ediv_ediv_of_nonneg (by omega)]
  rw [e2]
  have e3 := Int.mul_ediv_add_emod v (P : Int)
  have e4 := Int.emod_nonneg v (show (P : Int) ≠ 0 by omega)
  have e5 := Int.emod_lt_of_pos v (show 0 < (P : Int) by omega)
  generalize v / (P : Int) = d at *
  generalize v % (P : Int) = ρ at *
  obtain ⟨f, hf⟩ : ∃ f, d / 2 = f := ⟨_, rfl⟩
  rw [hf]
  rcases (show d % 2 = 0 ∨ d % 2 = 1 by omega) with g | g
  · rw [g]
    have hd : d = 2 * f := by omega
    have e6 : (f + 0) * (2 * (P : Int)) = (P : Int) * d := by rw [hd, Int.add_zero, Int.mul_comm f, Int.mul_assoc, Int.mul_left_comm]
    rw [e6]
    omega
  · rw [g]
    have hd : d + 1 = 2 * (f + 1) := by omega
    have e6 : (f + 1) * (2 * (P : Int)) = (P : Int) * (d + 1) := by rw [hd, Int.mul_comm (f + 1), Int.mul_assoc, Int.mul_left_comm]
    rw [e6, Int.mul_add, Int.mul_one]
    omega
theorem div_parts (v b : Int) (h : 1 ≤ b) : ∃ D E : Int, divI v b = D ∧ D * b = E ∧ 2 * (v - E) ≤ b ∧ -b ≤ 2 * (v - E) := by
  refine ⟨_, _, rfl, rfl, ?_⟩
  obtain ⟨h1, h2⟩ := tdm v b h
  show 2 * (v - divQ b (v.tdiv b) (v.tmod b) * b) ≤ b ∧ -b ≤ 2 * (v - divQ b (v.tdiv b) (v.tmod b) * b)
  generalize v.tdiv b = q at *
  generalize v.tmod b = r at *
  unfold divQ
  have e : q * b = b * q := Int.mul_comm q b
  split
  · rw [Int.add_mul, Int.one_mul, e]; omega
  · split
    · rw [Int.sub_mul, Int.one_mul, e]; omega
    · rw [e]; omega
theorem mulI_plain (x y : Int) (hx : -2147483648 ≤ x ∧ x ≤ 2147483648) (hy : -2147483648 ≤ y ∧ y ≤ 2147483648) (s : Int) : mulI x y s = roundI (x * y) s := by
  unfold mulI hold31
  rw [holdI_again x _ _ hx.1 hx.2, holdI_again y _ _ hy.1 hy.2]
theorem round_zero (v : Int) : roundI v 0 = v := by unfold roundI; rw [if_pos (by omega)]
/-- a number by a power of two, and back -/
theorem round_back (x : Int) (k K : Nat) (h1 : 1 ≤ k) (h2 : k ≤ 62) (hK : 2 ^ k = K) : roundI (x * (K : Int)) (k : Int) = x := by
  unfold roundI
  rw [if_neg (by omega), if_neg (by omega), Int.toNat_natCast, hK]
  have hk : K = 2 * 2 ^ (k - 1) := by rw [← hK, Nat.mul_comm, ← Nat.pow_succ]; congr 1; omega
  have p1 : 1 ≤ 2 ^ (k - 1) := Nat.pow_pos (by omega)
  have e1 : x * (K : Int) / (K : Int) = x := Int.mul_ediv_cancel x (by omega)
  have e2 : x * (K : Int) / ((2 ^ (k - 1) : Nat) : Int) = x * 2 := by
    rw [hk, Int.natCast_mul, ← Int.mul_assoc]
    exact Int.mul_ediv_cancel _ (by omega)
  rw [e1, e2]
  omega
theorem satI_31 (v : Int) : -1073741824 ≤ satI v 31 ∧ satI v 31 ≤ 1073741823 := by
  have e : satI v 31 = holdI v (-1073741824) 1073741823 := by unfold satI; rw [show bwN 31 = 30 by decide]; rfl
  rw [e]; exact holdI_in v _ _ (by omega)
theorem tmod_in (x : Int) (M : Int) (hM : 1 ≤ M) : -M < x.tmod M ∧ x.tmod M < M := by
  have h := (tdm x M hM).2
  generalize x.tmod M = t at h
  omega
theorem div_anyI (a b D : Int) (w : World) (ha : -9223372036854775808 ≤ a ∧ a ≤ 9223372036854775807) (hb : 1 ≤ b ∧ b ≤ 9223372036854775807) (hD : divI a b = D) :
    Calls Try.prog 17 #[.int .i64 a, .int .i64 b] w fun e w' => e = .returned (.tuple #[.int .i64 D, .int .i64 0]) ∧ Below w.heap.size w w' := by
  refine (div_any a b w ha hb.2).mono ?_
  rintro e w' ⟨rfl, q, rfl⟩
  refine ⟨?_, below_of_drewN w q⟩
  unfold divV
  rw [if_neg (by omega), hD]
theorem mul_anyI (a b s r : Int) (w : World) (h : mulI a b s = r) : Calls Try.prog 21 #[.int .i64 a, .int .i64 b, .int .i64 s] w fun e w' => e = .returned (.int .i64 r) ∧ w = w' := by
  subst h; exact mul_any a b s w
set_option maxRecDepth 100000 in
set_option maxHeartbeats 4000000 in
theorem near_law (v b c : Int) (w : World) :
    Calls Try.prog 7 #[.int .i64 v, .int .i64 b, .int .i64 c] w fun e w' => e = .returned (.bool true) ∧ Below w.heap.size w w' := by
  obtain ⟨t, s, ht, t1, t2, hs, s2⟩ := rem_up b 40 (by omega)
  rw [show ((40 : Nat) : Int) = 40 from rfl] at ht hs t1 t2
  obtain ⟨t', s', ht', t1', t2', hs', s2'⟩ := rem_up c 1073741824 (by omega)
  rw [show ((1073741824 : Nat) : Int) = 1073741824 from rfl] at ht' hs' t1' t2'
  obtain ⟨V, hV⟩ : ∃ V, v.tmod 1152921504606846976 = V := ⟨_, rfl⟩
  obtain ⟨v1, v2⟩ := tmod_in v 1152921504606846976 (by omega)
  rw [hV] at v1 v2
  obtain ⟨P, hP⟩ : ∃ P, 2 ^ s = P := ⟨_, rfl⟩
  have p2 : P ≤ 549755813888 := by rw [← hP]; exact Nat.pow_le_pow_right (n := 2) (i := s) (j := 39) (by omega) (by omega)
  have p1 : 1 ≤ P := by rw [← hP]; exact Nat.pow_pos (by omega)
  have hp := pow_cast s
  rw [hP] at hp
  obtain ⟨Q, hQ⟩ : ∃ Q, 2 * P = Q := ⟨_, rfl⟩
  have hq : (2 : Int) ^ (1 + s) = (Q : Int) := by rw [pow_cast, Nat.add_comm, Nat.pow_succ, hP, ← hQ, Nat.mul_comm]
  obtain ⟨R, M, hR, hM, o1, o2⟩ := round_parts V s P (by omega) hP
  rw [show 2 * (P : Int) = (Q : Int) by omega] at hM
  have HR := Lib.hid hR
  obtain ⟨O, hO⟩ : ∃ O, V - M = O := ⟨_, rfl⟩
  rw [hO] at o1 o2
  have m1 : -2305843009213693952 ≤ M := by omega
  have m2 : M ≤ 2305843009213693952 := by omega
  have e1 : 1 + (s : Int) - 1 = (s : Int) := by omega
  obtain ⟨B, hB⟩ : ∃ B, 1 + (s' : Int) = B := ⟨_, rfl⟩
  have b1 : 1 ≤ B := by omega
  have b2 : B ≤ 1073741824 := by omega
  obtain ⟨D, E, hD, hE, f1, f2⟩ := div_parts V B b1
  have HD := Lib.hid hD
  obtain ⟨F, hF⟩ : ∃ F, V - E = F := ⟨_, rfl⟩
  rw [hF] at f1 f2
  have E1 : -2305843009213693952 ≤ E := by omega
  have E2 : E ≤ 2305843009213693952 := by omega
  obtain ⟨X, hX⟩ : ∃ X, satI V 31 = X := ⟨_, rfl⟩
  obtain ⟨x1, x2⟩ := satI_31 V
  rw [hX] at x1 x2
  have HX := Lib.hid hX
  obtain ⟨j, hj⟩ : ∃ j : Nat, (1 + s) % 30 = j := ⟨_, rfl⟩
  have j2 : j < 30 := by omega
  have hj1 : (1 + (s : Int)) % 30 = (j : Int) := by omega
  have hj2 : (1 + (s : Int)).tmod 30 = (j : Int) := by rw [Int.tmod_eq_emod_of_nonneg (by omega)]; exact hj1
  obtain ⟨k, hk⟩ : ∃ k : Nat, j + 1 = k := ⟨_, rfl⟩
  have ek : (j : Int) + 1 = (k : Int) := by omega
  have k2 : k ≤ 30 := by omega
  obtain ⟨K, hK⟩ : ∃ K, 2 ^ k = K := ⟨_, rfl⟩
  have K2 : K ≤ 1073741824 := by rw [← hK]; exact Nat.pow_le_pow_right (n := 2) (i := k) (j := 30) (by omega) k2
  have hKK := pow_cast k
  rw [hK] at hKK
  have HM1 := Lib.hid (show mulI X 1 0 = X by rw [mulI_plain X 1 (by omega) (by omega), round_zero, Int.mul_one])
  have HM2 := Lib.hid (show mulI X (K : Int) (k : Int) = X by rw [mulI_plain X K (by omega) (by omega), round_back X k K (by omega) (by omega) hK])
  have HM3 := Lib.hid (show mulI X (-1) 0 = -X by rw [mulI_plain X (-1) (by omega) (by omega), round_zero, Int.mul_neg, Int.mul_one])
  clear hP hQ hR hD hX hj hk hK
  have HK := Lib.hid (And.intro hKK (And.intro ek (And.intro hj1 hj2)))
  have HE := Lib.hid (And.intro hE hF)
  have HO := Lib.hid (And.intro hM (And.intro hO (And.intro (wrap64_in (x := M) (by omega) (by omega)) (wrap64_in (x := O) (by omega) (by omega)))))
  clear hKK ek hj1 hj2 hE hF hM hO
  go_enter Try.func7, Try.ntmps7
  go_wp2_with fail
  refine (live_any _).mono ?_
  rintro e w1 ⟨rfl, hb1⟩
  have H1 := Lib.hid hb1
  clear hb1
  go_wp2_with fail
  refine (round_any V (1 + (s : Int)) _ (by omega)).mono ?_
  rintro e w' ⟨rfl, rfl⟩
  rw [HR.out]
  obtain ⟨hM, hO, wM, wO⟩ := HO.out
  go_wp2_with fail
  refine (div_anyI V B D _ (by omega) (by omega) HD.out).mono ?_
  rintro e w2 ⟨rfl, hb2⟩
  have H2 := Lib.hid (H1.out.trans (hb2.mono H1.out.size))
  clear hb2 hM hO wM wO hp hq e1 ht hs ht' hs' o1 o2
  obtain ⟨hE, hF⟩ := HE.out
  go_wp2_with fail
  refine (sat_any V 31 _).mono ?_
  rintro e w' ⟨rfl, rfl⟩
  rw [HX.out]
  clear hE hF f1 f2
  go_wp2_with fail
  refine (mul_anyI X 1 0 X _ HM1.out).mono ?_
  rintro e w' ⟨rfl, rfl⟩
  obtain ⟨hKK, ek, hj1, hj2⟩ := HK.out
  go_wp2_with fail
  refine (mul_anyI X (K : Int) (k : Int) X _ HM2.out).mono ?_
  rintro e w' ⟨rfl, rfl⟩
  clear hKK ek hj1 hj2
  go_wp2_with fail
  refine (mul_anyI X (-1) 0 (-X) _ HM3.out).mono ?_
  rintro e w' ⟨rfl, rfl⟩
  go_wp2
  go_ret
  exact ⟨rfl, H2.out⟩
end Go.Proofs.Ytcddfmeehehjgaa.Fx
