/-
  What the arguments of the statements on tables are, as the walks want them.
-/
import Derived.Test.YtlmkcipcclomdaaRows
import Derived.Test.YtlmkcipcclomdaaFm
import Derived.WalkKit
import Derived.ProofKit
import Derived.OpenShut
import Derived.Lib.SmallJoins
import Derived.Deep.Slices
namespace Go.Proofs.Ytlmkcipcclomdaa.Fq
open Go.ChangeShapes Go.WideShapes Go.ChangeAt Go.RowKit Go.Joins Go.Deep

theorem laidOut : laidOutB Try.prog = true := by kernel_rfl
theorem own : ownKnob Try.prog.godebug = none := by kernel_rfl
theorem cells_int : Try.prog.cellsOf 3 = 1 := by kernel_rfl
theorem cells_freq : Try.prog.cellsOf 24 = 1 := by kernel_rfl
section
variable {H : Type} {enc : TypeId × Value → H} {W : World} {base : Nat} {spare : Nat → Bool} {held : Bool}
/-- a slice of ints that was read -/
theorem open_il {fuel : Nat} {v : Value} {y : DataW H × List MemPlace} (h : DataW.trod enc Try.prog W base spare held fuel 22 [v] = some y) :
    ∃ A n c zs, v = .slice A n c ∧ RdI W A n zs ∧ n ≤ maxLen := by
  rcases open_ints Try.underlying22 Try.underlying3 cells_int h with ⟨hcs, _⟩ | ⟨x, l, c, zs, hcs, _, hl, hm, hz, _, hcell, hwz⟩
  · simp only [List.cons.injEq, and_true] at hcs
    exact ⟨none, 0, 0, [], hcs, RdI.none_, by unfold maxLen; omega⟩
  · simp only [List.cons.injEq, and_true] at hcs
    have hlen : l ≤ zs.length := by rw [hz]; split <;> omega
    refine ⟨some x, l, c, zs.take l, hcs, ⟨by rw [List.length_take]; omega, fun _ => ⟨x, rfl, ?_⟩⟩, by omega⟩
    intro j y hy
    obtain ⟨hj, e⟩ := List.getElem?_eq_some_iff.1 hy
    rw [List.length_take] at hj
    rw [List.getElem_take] at e
    rw [hcell j (by omega)]
    have e2 : zs.getD j 0 = y := by rw [← e]; simp [List.getD_eq_getElem?_getD, show j < zs.length by omega]
    rw [e2]
/-- a table that was read -/
theorem open_fr {b0 : Nat} {r : Reach} {v : Value} {d : DataW H} {p : List MemPlace} (hv : Value.okWide Try.prog W r b0 24 v) (h : DataW.Trod enc Try.prog W base spare held 24 v d p) :
    ∃ A n c zs, v = .agg #[.slice A n c] ∧ RdI W A n zs ∧ n ≤ maxLen := by
  obtain ⟨cs, rfl, hsz⟩ := okWide_struct Try.underlying24 hv
  have h1 : cs.size = 1 := hsz.trans cells_freq
  obtain ⟨c0, rfl⟩ : ∃ c0, cs = #[c0] := by
    cases cs with
    | mk l =>
      match l, h1 with
      | [a], _ => exact ⟨a, rfl⟩
  obtain ⟨fuel, hf⟩ := h
  obtain ⟨y0, m, hx, _, h0⟩ := trod_struct1 Try.underlying24 hf
  have h0' : DataW.trod enc Try.prog W base spare held m 22 [c0] = some y0 := h0
  obtain ⟨A, n, c, zs, rfl, hr, hn⟩ := open_il h0'
  exact ⟨A, n, c, zs, rfl, hr, hn⟩
end
end Go.Proofs.Ytlmkcipcclomdaa.Fq
