/-
  Own texts, laid together: Sg.
-/
import Derived.Test.YtplfcncibmgllaaDoorSf
/- Sg -/
namespace Go.Proofs.YtplfcncibmgllaaDoor.Fx
open Go.RowKit
theorem logN_twice (n : Nat) (h : 0 < n) : logN (2 * n) = logN n + 8 := by
  unfold logN
  have h8 : 0 < n ^ 8 := Nat.pow_pos h
  have := log2_shift (x := n ^ 8) (s := 8) (r := 0) h8 (by omega)
  rw [Nat.zero_add] at this
  rw [Nat.mul_pow, this]
  omega
theorem logN_square (n : Nat) (h : 0 < n) : logN (n * n) = 2 * logN n ∨ logN (n * n) = 2 * logN n + 1 := by
  unfold logN
  have h8 : 0 < n ^ 8 := Nat.pow_pos h
  rw [Nat.mul_pow]
  obtain ⟨h1, h2⟩ := log2_in h8
  generalize n ^ 8 = x at h8 h1 h2
  have h3 := Nat.mul_le_mul h1 h1
  have h4 : x * x < 2 ^ (x.log2 + 1) * 2 ^ (x.log2 + 1) := Nat.mul_lt_mul'' h2 h2
  rw [← Nat.pow_add] at h3 h4
  have hp : 0 < x * x := Nat.mul_pos h8 h8
  have h5 : 2 * x.log2 ≤ (x * x).log2 := (Nat.le_log2 (by omega)).2 (by rw [Nat.two_mul]; exact h3)
  have h6 : (x * x).log2 < 2 * x.log2 + 2 := (Nat.log2_lt (by omega)).2 (by rw [show 2 * x.log2 + 2 = x.log2 + 1 + (x.log2 + 1) by omega]; exact h4)
  omega
theorem log_anyI (z : Int) (n : Nat) (hz : z = (n : Int)) (w : World) (hn : n < 18446744073709551616) : Calls Tryd.prog 33 #[.int .u64 z] w fun e w' => e = .returned (.int .i64 (logN n : Int)) ∧ Below w.heap.size w w' := by
  subst hz; exact log_any n w hn
/-- what a root is, in whole numbers -/
theorem root_int {n r : Nat} (h : IsRt n r) (hn : n < 18446744073709551616) : ∃ x y q z : Int, (r : Int) = x ∧ 0 ≤ x ∧ x ≤ 4294967295 ∧ x * x = y ∧ 0 ≤ y ∧ y ≤ (n : Int) ∧ x + 1 = q ∧ q * q = z ∧ (n : Int) < z ∧ (x < 4294967295 → z < 18446744073709551616) := by
  have r2 := h.lt hn
  refine ⟨_, ((r * r : Nat) : Int), ((r + 1 : Nat) : Int), (((r + 1) * (r + 1) : Nat) : Int), rfl, by omega, by omega, by simp, by omega, ?_, by simp, by simp, ?_, ?_⟩
  · exact Int.ofNat_le.2 h.1
  · exact Int.ofNat_lt.2 h.2
  · intro hx
    have := Nat.mul_le_mul (show r + 1 ≤ 4294967295 by omega) (show r + 1 ≤ 4294967295 by omega)
    omega
end Go.Proofs.YtplfcncibmgllaaDoor.Fx
