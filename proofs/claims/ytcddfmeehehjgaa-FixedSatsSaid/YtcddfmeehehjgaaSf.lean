/-
  Own texts, laid together: Sf.
-/
import Derived.Test.YtcddfmeehehjgaaSe
/- Sf -/
namespace Go.Proofs.Ytcddfmeehehjgaa.Fx
open Go.RowKit
/-- a remainder that is brought up -/
theorem rem_up (x : Int) (M : Nat) (hM : 1 ≤ M) : ∃ (t : Int) (s : Nat), x.tmod (M : Int) = t ∧ -(M : Int) < t ∧ t < (M : Int) ∧ (t + (M : Int)).tmod (M : Int) = (s : Int) ∧ s < M := by
  have h := (tdm x (M : Int) (by omega)).2
  generalize x.tmod (M : Int) = t at h
  refine ⟨t, (t + (M : Int)).toNat % M, rfl, by omega, by omega, ?_, Nat.mod_lt _ hM⟩
  rw [Int.tmod_eq_emod_of_nonneg (by omega)]
  have : t + (M : Int) = ((t + (M : Int)).toNat : Int) := by omega
  rw [this]
  simp
theorem bwN_up (s : Nat) (h : s < 62) : bwN ((s : Int) + 1) = s := by unfold bwN holdI; omega
theorem satI_up (v : Int) (s P : Nat) (h : s < 62) (hP : 2 ^ s = P) : satI v ((s : Int) + 1) = holdI v (-(P : Int)) ((P : Int) - 1) := by
  unfold satI; rw [bwN_up s h, hP]
theorem satI_up' (v : Int) (s P : Nat) (h : s < 62) (hP : 2 ^ s = P) : satI v (1 + (s : Int)) = holdI v (-(P : Int)) ((P : Int) - 1) := by
  rw [Int.add_comm]; exact satI_up v s P h hP
theorem logN_mono {n m : Nat} (h : n ≤ m) : logN n ≤ logN m := by
  unfold logN
  rcases Nat.eq_zero_or_pos n with h0 | h0
  · subst h0; simp
  · have h1 := (log2_in (Nat.pow_pos (n := 8) h0)).1
    exact (Nat.le_log2 (by have : 0 < m ^ 8 := Nat.pow_pos (by omega); omega)).2 (Nat.le_trans h1 (Nat.pow_le_pow_left h 8))
theorem wrap64_in {x : Int} (h1 : -9223372036854775808 ≤ x) (h2 : x ≤ 9223372036854775807) : wrap64 x = x := by unfold wrap64; omega
theorem min_cast (n m : Nat) : min (n : Int) (m : Int) = ((min n m : Nat) : Int) := by omega
theorem max_cast (n m : Nat) : max (n : Int) (m : Int) = ((max n m : Nat) : Int) := by omega
theorem holdI_in (v a b : Int) (h : a ≤ b) : a ≤ holdI v a b ∧ holdI v a b ≤ b := by unfold holdI; omega
theorem holdI_again (v a b : Int) (h1 : a ≤ v) (h2 : v ≤ b) : holdI v a b = v := by unfold holdI; omega
theorem holdI_mono {v u : Int} (a b : Int) (h : v ≤ u) : holdI v a b ≤ holdI u a b := by unfold holdI; omega
theorem holdI_cases (v a b : Int) (h : a ≤ b) : (v ≤ b ∧ a ≤ v ∧ holdI v a b = v) ∨ (b < v ∧ holdI v a b = b) ∨ (v < a ∧ holdI v a b = a) := by unfold holdI; omega
set_option maxRecDepth 100000 in
set_option maxHeartbeats 4000000 in
theorem holds_law (v u b : Int) (n m : Nat) (w : World) (hn : n < 18446744073709551616) (hm : m < 18446744073709551616) :
    Calls Try.prog 6 #[.int .i64 v, .int .i64 u, .int .i64 b, .int .u64 (n : Int), .int .u64 (m : Int)] w fun e w' => e = .returned (.bool true) ∧ Below w.heap.size w w' := by
  obtain ⟨t, s, ht, t1, t2, hs, s2⟩ := rem_up b 62 (by omega)
  rw [show ((62 : Nat) : Int) = 62 from rfl] at ht hs t1 t2
  obtain ⟨P, hP⟩ : ∃ P, 2 ^ s = P := ⟨_, rfl⟩
  obtain ⟨p1, p2⟩ := p61 (show s ≤ 61 by omega)
  have hp := pow_cast s
  rw [hP] at p1 p2 hp
  obtain ⟨T, hT⟩ : ∃ T : Nat, T + 1 = P := ⟨P - 1, by omega⟩
  have eT : (P : Int) - 1 = (T : Int) := by omega
  have HS := Lib.hid (show ∀ x, satI x (1 + (s : Int)) = holdI x (-(T : Int) - 1) (T : Int) from fun x => by
    rw [satI_up' x s P s2 hP, eT, show -(P : Int) = -(T : Int) - 1 by omega])
  have e1 : 1 + (s : Int) - 1 = (s : Int) := by omega
  have T2 : T ≤ 2305843009213693951 := by omega
  clear hP hT
  obtain ⟨X, hX⟩ : ∃ X, holdI v (-(T : Int) - 1) (T : Int) = X := ⟨_, rfl⟩
  have HX := Lib.hid hX
  have x1 : X ≤ (T : Int) := by rw [← hX]; exact (holdI_in v _ _ (by omega)).2
  have x2 : -(T : Int) - 1 ≤ X := by rw [← hX]; exact (holdI_in v _ _ (by omega)).1
  have HXX := Lib.hid (show holdI X (-(T : Int) - 1) (T : Int) = X from holdI_again X _ _ x2 x1)
  have HM := Lib.hid (show holdI (min v u) (-(T : Int) - 1) (T : Int) ≤ holdI (max v u) (-(T : Int) - 1) (T : Int) from holdI_mono _ _ (Int.le_trans (Int.min_le_left v u) (Int.le_max_left v u)))
  have hc : (v ≤ (T : Int) ∧ -(T : Int) - 1 ≤ v ∧ X = v) ∨ ((T : Int) < v ∧ X = (T : Int)) ∨ (v < -(T : Int) - 1 ∧ X = -(T : Int) - 1) := by rw [← hX]; exact holdI_cases v _ _ (by omega)
  generalize hA : holdI (min v u) (-(T : Int) - 1) (T : Int) = A at HM
  generalize hB : holdI (max v u) (-(T : Int) - 1) (T : Int) = B at HM
  have HA := Lib.hid hA
  have HB := Lib.hid hB
  have HC := Lib.hid hc
  have HMn := Lib.hid (show min (n : Int) (m : Int) = ((min n m : Nat) : Int) from min_cast n m)
  have HMx := Lib.hid (show max (n : Int) (m : Int) = ((max n m : Nat) : Int) from max_cast n m)
  clear hX hA hB hc
  have HLOG := Lib.hid (logN_mono (Nat.le_trans (Nat.min_le_left n m) (Nat.le_max_left n m)))
  obtain ⟨N1, hN1⟩ : ∃ N1, min n m = N1 := ⟨_, rfl⟩
  obtain ⟨N2, hN2⟩ : ∃ N2, max n m = N2 := ⟨_, rfl⟩
  have HNN := Lib.hid (show N1 ≤ N2 by rw [← hN1, ← hN2]; exact Nat.le_trans (Nat.min_le_left n m) (Nat.le_max_left n m))
  have n1 : N1 < 18446744073709551616 := by rw [← hN1]; exact Nat.lt_of_le_of_lt (Nat.min_le_left n m) hn
  have n2 : N2 < 18446744073709551616 := by rw [← hN2]; exact Nat.max_lt.2 ⟨hn, hm⟩
  rw [hN1] at HMn HLOG
  rw [hN2] at HMx HLOG
  clear hN1 hN2
  go_enter Try.func6, Try.ntmps6
  go_wp2_with fail
  refine (live_any _).mono ?_
  rintro e w1 ⟨rfl, hb1⟩
  have H1 := Lib.hid hb1
  clear hb1
  go_wp2_with fail
  refine (sat_any v (1 + (s : Int)) _).mono ?_
  rintro e w' ⟨rfl, rfl⟩
  rw [HS.out, HX.out]
  go_wp2_with fail
  refine (sat_any X (1 + (s : Int)) _).mono ?_
  rintro e w' ⟨rfl, rfl⟩
  rw [HS.out, HXX.out]
  obtain ⟨c1, c2, c3⟩ | ⟨c1, c2⟩ | ⟨c1, c2⟩ := HC.out
  all_goals
    go_wp2_with fail
    refine (sat_any (min v u) (1 + (s : Int)) _).mono ?_
    rintro e w' ⟨rfl, rfl⟩
    rw [HS.out, HA.out]
    go_wp2_with fail
    refine (sat_any (max v u) (1 + (s : Int)) _).mono ?_
    rintro e w' ⟨rfl, rfl⟩
    rw [HS.out, HB.out]
    have hab := HM.out
    go_wp2_with fail
    clear hab
    rw [HMn.out]
    refine (sqrt_any N1 _ n1).mono ?_
    rintro e w' ⟨r1, rfl, hr1, rfl⟩
    have HR1 := Lib.hid hr1
    clear hr1
    go_wp2_with fail
    rw [HMx.out]
    refine (sqrt_any N2 _ n2).mono ?_
    rintro e w' ⟨r2, rfl, hr2, rfl⟩
    have hrr : r1 ≤ r2 := HR1.out.mono hr2 HNN.out
    clear hr2 HR1
    go_wp2_with fail
    clear hrr
    rw [HMn.out]
    refine (log_any N1 _ n1).mono ?_
    rintro e w2 ⟨rfl, hb2⟩
    have H2 := Lib.hid (H1.out.trans (hb2.mono H1.out.size))
    clear hb2
    go_wp2_with fail
    rw [HMx.out]
    refine (log_any N2 _ n2).mono ?_
    rintro e w3 ⟨rfl, hb3⟩
    have H3 := Lib.hid (H2.out.trans (hb3.mono H2.out.size))
    clear hb3
    have hll := HLOG.out
    generalize logN N1 = l1 at hll ⊢
    generalize logN N2 = l2 at hll ⊢
    go_wp2
    go_ret
    exact ⟨rfl, H3.out⟩
end Go.Proofs.Ytcddfmeehehjgaa.Fx
