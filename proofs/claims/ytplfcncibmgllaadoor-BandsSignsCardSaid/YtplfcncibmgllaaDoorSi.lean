/-
  Own texts, laid together: Si.
-/
import Derived.Test.YtplfcncibmgllaaDoorSg
/- Si -/
namespace Go.Proofs.YtplfcncibmgllaaDoor.Fx
open Go.RowKit
theorem hold_flip (v a b : Int) (h : a ≤ b) : min (max v a) b = holdI v a b := by unfold holdI; omega
theorem hold_bits (b : Int) : min (max b 1) 62 = (bwN b : Int) + 1 := by
  have h1 := bwN_is b
  have h2 := hold_flip b 1 62 (by omega)
  omega
/-- the bit that falls off first -/
theorem half_bit (v : Int) (P : Nat) (p1 : 1 ≤ P) : v / (P : Int) % 2 = if (P : Int) ≤ v - v / (2 * (P : Int)) * (2 * (P : Int)) then 1 else 0 := by
  have e2 : v / (2 * (P : Int)) = v / (P : Int) / 2 := by rw [Int.mul_comm, Int.ediv_ediv_of_nonneg (by omega)]
  rw [e2]
  have e3 := Int.mul_ediv_add_emod v (P : Int)
  have e4 := Int.emod_nonneg v (show (P : Int) ≠ 0 by omega)
  have e5 := Int.emod_lt_of_pos v (show 0 < (P : Int) by omega)
  generalize v / (P : Int) = d at *
  generalize v % (P : Int) = ρ at *
  obtain ⟨f, hf⟩ : ∃ f, d / 2 = f := ⟨_, rfl⟩
  rw [hf]
  have e6 : f * (2 * (P : Int)) = (P : Int) * (2 * f) := by rw [Int.mul_comm f, Int.mul_assoc, Int.mul_left_comm]
  rw [e6]
  rcases (show d % 2 = 0 ∨ d % 2 = 1 by omega) with g | g
  · have hd : 2 * f = d := by omega
    rw [g, hd, if_neg (by omega)]
  · have hd : d = 2 * f + 1 := by omega
    rw [hd, Int.mul_add, Int.mul_one] at e3
    rw [g, if_pos (by omega)]
theorem floor_in (v : Int) (k Q : Nat) (hk : k ≤ 62) (hQ : 2 ^ k = Q) (hv : -9223372036854775808 ≤ v ∧ v ≤ 9223372036854775807) : ∃ x y : Int, v / (Q : Int) = x ∧ x * (Q : Int) = y ∧ -9223372036854775808 ≤ y ∧ y ≤ v ∧ v - y < (Q : Int) := by
  have q1 : 1 ≤ Q := by rw [← hQ]; exact Nat.pow_pos (by omega)
  have e3 := Int.mul_ediv_add_emod v (Q : Int)
  have e4 := Int.emod_nonneg v (show (Q : Int) ≠ 0 by omega)
  have e5 := Int.emod_lt_of_pos v (show 0 < (Q : Int) by omega)
  have e6 : v / (Q : Int) * (Q : Int) = (Q : Int) * (v / (Q : Int)) := Int.mul_comm _ _
  refine ⟨_, _, rfl, rfl, ?_, by omega, by omega⟩
  have hd : (2 ^ (63 - k) : Nat) * Q = 9223372036854775808 := by rw [← hQ, ← Nat.pow_add, show 63 - k + k = 63 by omega]
  have hd' : ((2 ^ (63 - k) : Nat) : Int) * (Q : Int) = 9223372036854775808 := by rw [← Int.natCast_mul, hd]; rfl
  have h1 : -((2 ^ (63 - k) : Nat) : Int) ≤ v / (Q : Int) := Int.le_ediv_of_mul_le (by omega) (by rw [Int.neg_mul, hd']; exact hv.1)
  have h2 := Int.mul_le_mul_of_nonneg_right h1 (show 0 ≤ (Q : Int) by omega)
  rw [Int.neg_mul, hd'] at h2
  exact h2
end Go.Proofs.YtplfcncibmgllaaDoor.Fx
