/-
  Ints that were read as an argument.
-/
import Derived.Test.YtffapinabidkiaaU5
set_option linter.unusedSimpArgs false
set_option linter.unusedVariables false
/- V9 -/
namespace Go.Proofs.Ytffapinabidkiaa.Lp
open Go.ChangeShapes Go.WideShapes Go.ChangeAt Go.RowKit Go.Joins Go.Deep Go.Proofs.Ytffapinabidkiaa.Fq
theorem cells_int : Try.prog.cellsOf 3 = 1 := by kernel_rfl
section
variable {H : Type} {enc : TypeId × Value → H} {W : World} {base : Nat} {spare : Nat → Bool} {held : Bool}
theorem open_iv {b0 : Nat} {r : Reach} {v : Value} {d : DataW H} {p : List MemPlace} (hv : Value.okWide Try.prog W r b0 35 v) (h : DataW.Trod enc Try.prog W base spare held 35 v d p) :
    ∃ A n c zs, v = .slice A n c ∧ RdI W A n zs ∧ ∀ z ∈ zs, -9223372036854775808 ≤ z ∧ z ≤ 9223372036854775807 := by
  obtain ⟨a0, len0, cap0, rfl⟩ := okWide_slice Try.underlying35 hv
  obtain ⟨fuel, h⟩ := h
  rcases open_ints Try.underlying35 Try.underlying3 cells_int h with ⟨hcs, _⟩ | ⟨x, l, c, zs, hcs, _, hl, hm, hz, _, hcell, hwz⟩
  · refine ⟨none, 0, 0, [], by simpa [Value.cells] using hcs, ⟨rfl, fun h => absurd h (by omega)⟩, fun z hz => (nomatch hz)⟩
  · have hlen : l ≤ zs.length := by rw [hz]; split <;> omega
    refine ⟨some x, l, c, zs.take l, by simpa [Value.cells] using hcs, ⟨by rw [List.length_take]; omega, fun _ => ⟨x, rfl, fun j y hy => ?_⟩⟩, fun z hz => bounds_i64 (hwz z (List.mem_of_mem_take hz))⟩
    obtain ⟨hj, e⟩ := List.getElem?_eq_some_iff.1 hy
    rw [List.length_take] at hj
    rw [List.getElem_take] at e
    rw [hcell j (by omega)]
    rw [← e]
    simp [List.getD_eq_getElem?_getD, show j < zs.length by omega]
end
end Go.Proofs.Ytffapinabidkiaa.Lp
