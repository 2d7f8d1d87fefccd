/-
  Own texts, laid together: Ga.
-/
import Derived.Test.YtgelgbfnioagbaaCb
/- Ga -/
namespace Go.Proofs.Ytgelgbfnioagbaa.Cd
open Go.RowKit
def ivV (low high : Nat) : Value := .agg #[.int .u32 (low : Int), .int .u32 (high : Int)]
theorem whole_any (w : World) : Calls Try.prog 47 #[] w fun e w' => e = .returned (ivV 0 4294967295) ∧ Below w.heap.size w w' := by
  go_enter Try.func47, Try.ntmps47
  go_wp2
  exact bodyPost_ret (v := ivV 0 4294967295) (by simp [results, Try.results47, go_sem, ivV]) rfl ⟨rfl, (Below.refl w.heap.size w).alloc (Nat.le_refl _) _⟩
/-- what is taken ahead of doubling, and whether it is needed -/
def excT (k : Nat) : Value := .tuple #[.int .u32 (takeK k : Int), .bool (decide (k ≠ 3))]
theorem excT_3 : excT 3 = .tuple #[.int .u32 0, .bool false] := rfl
theorem excT_0 : excT 0 = .tuple #[.int .u32 0, .bool true] := rfl
theorem excT_1 : excT 1 = .tuple #[.int .u32 2147483648, .bool true] := rfl
theorem excT_2 : excT 2 = .tuple #[.int .u32 1073741824, .bool true] := rfl
theorem excess_any (low high k : Nat) (w : World) (hk : kind low high = k) :
    Calls Try.prog 65 #[.agg #[.int .u32 (low : Int), .int .u32 (high : Int)]] w fun e w' => e = .returned (excT k) ∧ Below w.heap.size w w' := by
  subst hk
  rcases kind_cases low high with ⟨hk, k1⟩ | ⟨hk, k1, k2⟩ | ⟨hk, k1, k2, k3, k4⟩ | ⟨hk, k1, k2, k3⟩
  · rw [hk, excT_0]
    have d3 : decide ((high : Int) < 2147483648) = true := by simp; omega
    clear hk
    go_enter Try.func65, Try.ntmps65
    go_wp2
    go_ret2
    exact ⟨rfl, (Below.refl _ _).alloc (Nat.le_refl _) _⟩
  · rw [hk, excT_1]
    have d3 : decide ((high : Int) < 2147483648) = false := by simp; omega
    have d4 : decide (2147483648 ≤ (low : Int)) = true := by simp; omega
    clear hk
    go_enter Try.func65, Try.ntmps65
    go_wp2
    go_ret2
    exact ⟨rfl, (Below.refl _ _).alloc (Nat.le_refl _) _⟩
  · rw [hk, excT_2]
    have d3 : decide ((high : Int) < 2147483648) = false := by simp; omega
    have d4 : decide (2147483648 ≤ (low : Int)) = false := by simp; omega
    have d5 : decide (1073741824 ≤ (low : Int)) = true := by simp; omega
    have d6 : decide ((high : Int) < 3221225472) = true := by simp; omega
    clear hk
    go_enter Try.func65, Try.ntmps65
    go_wp2
    go_ret2
    exact ⟨rfl, (Below.refl _ _).alloc (Nat.le_refl _) _⟩
  · rw [hk, excT_3]
    have d3 : decide ((high : Int) < 2147483648) = false := by simp; omega
    have d4 : decide (2147483648 ≤ (low : Int)) = false := by simp; omega
    clear hk
    by_cases k5 : 1073741824 ≤ low
    · have d5 : decide (1073741824 ≤ (low : Int)) = true := by simp; omega
      have d6 : decide ((high : Int) < 3221225472) = false := by simp; omega
      go_enter Try.func65, Try.ntmps65
      go_wp2
      go_ret2
      exact ⟨rfl, (Below.refl _ _).alloc (Nat.le_refl _) _⟩
    · have d5 : decide (1073741824 ≤ (low : Int)) = false := by simp; omega
      go_enter Try.func65, Try.ntmps65
      go_wp2
      go_ret2
      exact ⟨rfl, (Below.refl _ _).alloc (Nat.le_refl _) _⟩
theorem size_any (low high W : Nat) (w : World) (h1 : low ≤ high) (h2 : high < 4294967296) (hW : Hid (W = high - low + 1)) :
    Calls Try.prog 71 #[.agg #[.int .u32 (low : Int), .int .u32 (high : Int)]] w fun e w' => e = .returned (.int .u64 (W : Int)) ∧ Below w.heap.size w w' := by
  have e1 : ((high : Int) - (low : Int) + 1) = (W : Int) := by have := hW.out; omega
  have HE := Lib.hid e1
  clear e1
  go_enter Try.func71, Try.ntmps71
  go_wp2
  go_ret
  exact ⟨by rw [← HE.out]; rfl, (Below.refl _ _).alloc (Nat.le_refl _) _⟩
/-- both ends doubled -/
theorem double_any (p low high t lo hi : Nat) (w : World) (h1 : t ≤ low) (h2 : t ≤ high) (h3 : lo = 2 * (low - t)) (h4 : hi = 2 * (high - t) + 1) (h5 : lo < 4294967296) (h6 : hi < 4294967296) (hlow : low < 4294967296) (_hhigh : high < 4294967296)
    (c0 : w.cell? ⟨p, 0, none⟩ = some (.int .u32 (low : Int))) (c1 : w.cell? ⟨p, 1, none⟩ = some (.int .u32 (high : Int))) (f0 : w.frozen? ⟨p, 0, none⟩ = false) (f1 : w.frozen? ⟨p, 1, none⟩ = false) :
    Calls Try.prog 80 #[.pointer (some ⟨p, 0, none⟩), .int .u32 (t : Int)] w fun e w' => e = .returned (.tuple #[]) ∧ (w.setCell ⟨p, 0, none⟩ (.int .u32 (lo : Int))).setCell ⟨p, 1, none⟩ (.int .u32 (hi : Int)) = w' := by
  have e1 := Lib.hid (show ((low : Int) - (t : Int)) * 2 = (lo : Int) by omega)
  have e2 := Lib.hid (show ((high : Int) - (t : Int)) * 2 + 1 = (hi : Int) by omega)
  have b1 : ((low : Int) - (t : Int)) * 2 < 4294967296 := by omega
  have b2 : ((high : Int) - (t : Int)) * 2 < 4294967295 := by omega
  have b3 : (t : Int) ≤ (low : Int) := by omega
  have b4 : (t : Int) ≤ (high : Int) := by omega
  clear h3 h4
  go_enter Try.func80, Try.ntmps80
  go_wp2
  go_end0
  exact ⟨rfl, by rw [← e1.out, ← e2.out]⟩
end Go.Proofs.Ytgelgbfnioagbaa.Cd
