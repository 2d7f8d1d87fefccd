/-
  Own texts, laid together: Sf.
-/
import Derived.Test.YtplfcncibmgllaaDoorSe
/- Sf -/
namespace Go.Proofs.YtplfcncibmgllaaDoor.Fx
open Go.RowKit
/-- a remainder that is brought up -/
theorem rem_up (x : Int) (M : Nat) (hM : 1 ≤ M) : ∃ (t : Int) (s : Nat), x.tmod (M : Int) = t ∧ -(M : Int) < t ∧ t < (M : Int) ∧ (t + (M : Int)).tmod (M : Int) = (s : Int) ∧ s < M := by
  have h := (tdm x (M : Int) (by omega)).2
  generalize x.tmod (M : Int) = t at h
  refine ⟨t, (t + (M : Int)).toNat % M, rfl, by omega, by omega, ?_, Nat.mod_lt _ hM⟩
  rw [Int.tmod_eq_emod_of_nonneg (by omega)]
  have : t + (M : Int) = ((t + (M : Int)).toNat : Int) := by omega
  rw [this]
  simp
theorem bwN_up (s : Nat) (h : s < 62) : bwN ((s : Int) + 1) = s := by unfold bwN holdI; omega
theorem satI_up (v : Int) (s P : Nat) (h : s < 62) (hP : 2 ^ s = P) : satI v ((s : Int) + 1) = holdI v (-(P : Int)) ((P : Int) - 1) := by
  unfold satI; rw [bwN_up s h, hP]
theorem satI_up' (v : Int) (s P : Nat) (h : s < 62) (hP : 2 ^ s = P) : satI v (1 + (s : Int)) = holdI v (-(P : Int)) ((P : Int) - 1) := by
  rw [Int.add_comm]; exact satI_up v s P h hP
theorem logN_mono {n m : Nat} (h : n ≤ m) : logN n ≤ logN m := by
  unfold logN
  rcases Nat.eq_zero_or_pos n with h0 | h0
  · subst h0; simp
  · have h1 := (log2_in (Nat.pow_pos (n := 8) h0)).1
    exact (Nat.le_log2 (by have : 0 < m ^ 8 := Nat.pow_pos (by omega); omega)).2 (Nat.le_trans h1 (Nat.pow_le_pow_left h 8))
theorem wrap64_in {x : Int} (h1 : -9223372036854775808 ≤ x) (h2 : x ≤ 9223372036854775807) : wrap64 x = x := by unfold wrap64; omega
theorem min_cast (n m : Nat) : min (n : Int) (m : Int) = ((min n m : Nat) : Int) := by omega
theorem max_cast (n m : Nat) : max (n : Int) (m : Int) = ((max n m : Nat) : Int) := by omega
theorem holdI_in (v a b : Int) (h : a ≤ b) : a ≤ holdI v a b ∧ holdI v a b ≤ b := by unfold holdI; omega
theorem holdI_again (v a b : Int) (h1 : a ≤ v) (h2 : v ≤ b) : holdI v a b = v := by unfold holdI; omega
theorem holdI_mono {v u : Int} (a b : Int) (h : v ≤ u) : holdI v a b ≤ holdI u a b := by unfold holdI; omega
theorem holdI_cases (v a b : Int) (h : a ≤ b) : (v ≤ b ∧ a ≤ v ∧ holdI v a b = v) ∨ (b < v ∧ holdI v a b = b) ∨ (v < a ∧ holdI v a b = a) := by unfold holdI; omega
end Go.Proofs.YtplfcncibmgllaaDoor.Fx
