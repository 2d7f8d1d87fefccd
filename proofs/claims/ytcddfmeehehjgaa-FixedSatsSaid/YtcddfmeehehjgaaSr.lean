/-
  Own texts, laid together: Sr.
-/
import Derived.Test.YtcddfmeehehjgaaRows
import Derived.Test.YtcddfmeehehjgaaBa
import Derived.WalkKit
import Derived.ProofKit
import Derived.OpenShut
import Derived.Lib.SmallJoins
import Derived.Deep.Slices
/- Sr -/
namespace Go.Proofs.Ytcddfmeehehjgaa.Fx
open Go.ChangeShapes Go.WideShapes Go.ChangeAt Go.RowKit Go.Joins Go.Deep
theorem laidOut : laidOutB Try.prog = true := by kernel_rfl
theorem own : ownKnob Try.prog.godebug = none := by kernel_rfl
theorem cells_int : Try.prog.cellsOf 3 = 1 := by kernel_rfl
section
variable {H : Type} {enc : TypeId × Value → H} {W : World} {base : Nat} {spare : Nat → Bool} {held : Bool}
/-- a slice of ints that was read -/
theorem open_il {fuel : Nat} {v : Value} {y : DataW H × List MemPlace} (h : DataW.trod enc Try.prog W base spare held fuel 22 [v] = some y) :
    ∃ A n c zs, v = .slice A n c ∧ Fq.RdI W A n zs ∧ n ≤ maxLen := by
  rcases open_ints Try.underlying22 Try.underlying3 cells_int h with ⟨hcs, _⟩ | ⟨x, l, c, zs, hcs, _, hl, hm, hz, _, hcell, hwz⟩
  · simp only [List.cons.injEq, and_true] at hcs
    exact ⟨none, 0, 0, [], hcs, Fq.RdI.none_, by unfold maxLen; omega⟩
  · simp only [List.cons.injEq, and_true] at hcs
    have hlen : l ≤ zs.length := by rw [hz]; split <;> omega
    refine ⟨some x, l, c, zs.take l, hcs, ⟨by rw [List.length_take]; omega, fun _ => ⟨x, rfl, ?_⟩⟩, by omega⟩
    intro j y hy
    obtain ⟨hj, e⟩ := List.getElem?_eq_some_iff.1 hy
    rw [List.length_take] at hj
    rw [List.getElem_take] at e
    rw [hcell j (by omega)]
    have e2 : zs.getD j 0 = y := by rw [← e]; simp [List.getD_eq_getElem?_getD, show j < zs.length by omega]
    rw [e2]
theorem open_ilV {b0 : Nat} {r : Reach} {v : Value} {d : DataW H} {p : List MemPlace} (hv : Value.okWide Try.prog W r b0 22 v) (h : DataW.Trod enc Try.prog W base spare held 22 v d p) :
    ∃ A n c zs, v = .slice A n c ∧ Fq.RdI W A n zs ∧ n ≤ maxLen := by
  obtain ⟨a0, len0, cap0, rfl⟩ := okWide_slice Try.underlying22 hv
  obtain ⟨fuel, hf⟩ := h
  exact open_il hf
end
end Go.Proofs.Ytcddfmeehehjgaa.Fx
