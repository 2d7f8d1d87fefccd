/-
  Own texts, laid together: Sb.
-/
import Derived.Test.YtplfcncibmgllaaDoorSa
/- Sb -/
namespace Go.Proofs.YtplfcncibmgllaaDoor.Fx
open Go.RowKit
/-- a by b, to the nearest, halves away from 0 -/
def divI (a b : Int) : Int :=
  if 0 < a.tmod b ∧ b - a.tmod b ≤ a.tmod b then a.tdiv b + 1 else if a.tmod b < 0 ∧ b + a.tmod b ≤ -(a.tmod b) then a.tdiv b - 1 else a.tdiv b
def divV (a b : Int) : Value := if b < 1 then .tuple #[.int .i64 0, .int .i64 1] else .tuple #[.int .i64 (divI a b), .int .i64 0]
theorem tdm_nn (a b : Int) (ha : 0 ≤ a) (hb : 1 ≤ b) : b * a.tdiv b + a.tmod b = a ∧ a.tmod b < b ∧ 0 ≤ a.tmod b ∧ 0 ≤ a.tdiv b ∧ a.tdiv b ≤ a :=
  ⟨Int.mul_tdiv_add_tmod a b, Int.tmod_lt_of_pos a (by omega), Int.tmod_nonneg b ha, by rw [Int.tdiv_eq_ediv_of_nonneg ha]; exact Int.ediv_nonneg ha (by omega), by
    rw [Int.tdiv_eq_ediv_of_nonneg ha]; exact Int.ediv_le_self b ha⟩
/-- the quotient and what is left: both have the number's sign -/
def TD (a b q r : Int) : Prop := b * q + r = a ∧ ((0 ≤ a ∧ 0 ≤ r ∧ r < b ∧ 0 ≤ q ∧ q ≤ a) ∨ (a ≤ 0 ∧ r ≤ 0 ∧ -b < r ∧ q ≤ 0 ∧ a ≤ q))
theorem tdm (a b : Int) (hb : 1 ≤ b) : TD a b (a.tdiv b) (a.tmod b) := by
  rcases Int.le_total 0 a with h | h
  · obtain ⟨h1, h2, h3, h4, h5⟩ := tdm_nn a b h hb
    exact ⟨h1, Or.inl ⟨h, h3, h2, h4, h5⟩⟩
  · obtain ⟨h1, h2, h3, h4, h5⟩ := tdm_nn (-a) b (by omega) hb
    rw [Int.neg_tmod] at h2 h3
    rw [Int.neg_tdiv] at h4 h5
    exact ⟨Int.mul_tdiv_add_tmod a b, Or.inr ⟨h, by omega, by omega, by omega, by omega⟩⟩
def divQ (b q r : Int) : Int := if 0 < r ∧ b - r ≤ r then q + 1 else if r < 0 ∧ b + r ≤ -r then q - 1 else q
/-- a number's root, rounded down -/
def IsRt (n r : Nat) : Prop := r * r ≤ n ∧ n < (r + 1) * (r + 1)
theorem IsRt.uniq {n r s : Nat} (h1 : IsRt n r) (h2 : IsRt n s) : r = s := by
  rcases Nat.lt_trichotomy r s with h | h | h
  · have := Nat.mul_le_mul (show r + 1 ≤ s from h) (show r + 1 ≤ s from h)
    have := h1.2; have := h2.1; omega
  · exact h
  · have := Nat.mul_le_mul (show s + 1 ≤ r from h) (show s + 1 ≤ r from h)
    have := h2.2; have := h1.1; omega
theorem IsRt.mono {n m r s : Nat} (h1 : IsRt n r) (h2 : IsRt m s) (h : n ≤ m) : r ≤ s := by
  rcases Nat.lt_or_ge s r with g | g
  · have := Nat.mul_le_mul (show s + 1 ≤ r from g) (show s + 1 ≤ r from g)
    have := h2.2; have := h1.1; omega
  · exact g
theorem IsRt.lt {n r : Nat} (h1 : IsRt n r) (h : n < 18446744073709551616) : r < 4294967296 := by
  rcases Nat.lt_or_ge r 4294967296 with g | g
  · exact g
  · have := Nat.mul_le_mul g g
    have := h1.1; omega
/-- on the way: k bits are still to come -/
def RtS (n k r : Nat) : Prop := r * r ≤ n ∧ n < (r + 2 ^ k) * (r + 2 ^ k) ∧ r + 2 ^ k ≤ 4294967296
theorem RtS.take {n k r : Nat} (h : RtS n (k + 1) r) (h2 : (r + 2 ^ k) * (r + 2 ^ k) ≤ n) : RtS n k (r + 2 ^ k) := by
  have e : r + 2 ^ k + 2 ^ k = r + 2 ^ (k + 1) := by rw [Nat.pow_succ]; omega
  exact ⟨h2, by rw [e]; exact h.2.1, by rw [e]; exact h.2.2⟩
theorem RtS.leave {n k r : Nat} (h : RtS n (k + 1) r) (h2 : ¬ (r + 2 ^ k) * (r + 2 ^ k) ≤ n) : RtS n k r := by
  have e : 2 ^ (k + 1) = 2 ^ k + 2 ^ k := by rw [Nat.pow_succ]; omega
  exact ⟨h.1, by omega, by have := h.2.2; have : 1 ≤ 2 ^ k := Nat.pow_pos (by omega); omega⟩
theorem half_pow (k : Nat) : 2 ^ (k + 1) / 2 = 2 ^ k := by rw [Nat.pow_succ]; omega
def RtP (n : Nat) (w : World) (e : Ending) (w' : World) : Prop := ∃ r : Nat, e = .returned (.int .u64 (r : Int)) ∧ IsRt n r ∧ w = w'
end Go.Proofs.YtplfcncibmgllaaDoor.Fx
