/-
  Own texts, laid together: Open.
-/
import Derived.Test.YtgelgbfnioagbaaRows
import Derived.Test.YtgelgbfnioagbaaBa
import Derived.WalkKit
import Derived.ProofKit
import Derived.OpenShut
import Derived.Lib.SmallJoins
import Derived.Deep.Slices
/- Open -/
namespace Go.Proofs.Ytgelgbfnioagbaa
open Go.ChangeShapes Go.WideShapes Go.ChangeAt Go.RowKit Go.Joins Go.Deep
theorem laidOut : laidOutB Try.prog = true := by kernel_rfl
theorem own : ownKnob Try.prog.godebug = none := by kernel_rfl
theorem cells_u8 : Try.prog.cellsOf 5 = 1 := by kernel_rfl
theorem cells_bits : Try.prog.cellsOf 25 = 2 := by kernel_rfl
section
variable {H : Type} {enc : TypeId × Value → H} {W : World} {base : Nat} {spare : Nat → Bool} {held : Bool}
/-- a slice of bytes that was read -/
theorem open_bytes {fuel : Nat} {v : Value} {y : DataW H × List MemPlace} (h : DataW.trod enc Try.prog W base spare held fuel 23 [v] = some y) :
    ∃ A n c bs, v = .slice A n c ∧ Rd W A n bs ∧ n ≤ maxLen := by
  rcases open_ints Try.underlying23 Try.underlying5 cells_u8 h with ⟨hcs, _⟩ | ⟨x, l, c, zs, hcs, _, hl, hm, hz, _, hcell, hwz⟩
  · simp only [List.cons.injEq, and_true] at hcs
    exact ⟨none, 0, 0, [], hcs, Rd.none_, by unfold maxLen; omega⟩
  · simp only [List.cons.injEq, and_true] at hcs
    have hlen : l ≤ zs.length := by rw [hz]; split <;> omega
    have hb : ∀ z ∈ zs, 0 ≤ z ∧ z ≤ 255 := fun z hz => bounds_u8 (hwz z hz)
    refine ⟨some x, l, c, (zs.take l).map Int.toNat, hcs, ⟨by rw [List.length_map, List.length_take]; omega, ?_, fun _ => ⟨x, rfl, ?_⟩⟩, by omega⟩
    · intro y hy
      obtain ⟨z, hz', rfl⟩ := List.mem_map.1 hy
      have := hb z (List.mem_of_mem_take hz')
      omega
    · intro j y hy
      rw [List.getElem?_map] at hy
      obtain ⟨z, hz', rfl⟩ := Option.map_eq_some_iff.1 hy
      obtain ⟨hj, e⟩ := List.getElem?_eq_some_iff.1 hz'
      rw [List.length_take] at hj
      rw [List.getElem_take] at e
      have hm' : z ∈ zs := by rw [← e]; exact List.getElem_mem _
      have := hb z hm'
      rw [hcell j (by omega)]
      have e2 : zs.getD j 0 = z := by rw [← e]; simp [List.getD_eq_getElem?_getD, show j < zs.length by omega]
      rw [e2, byteV, Int.toNat_of_nonneg this.1]
set_option maxRecDepth 100000 in
/-- bits that were read -/
theorem open_bits {b0 : Nat} {r : Reach} {v : Value} {d : DataW H} {p : List MemPlace} (hv : Value.okWide Try.prog W r b0 25 v) (h : DataW.Trod enc Try.prog W base spare held 25 v d p) :
    ∃ A n c N bs, v = .agg #[.slice A n c, .int .i64 N] ∧ Rd W A n bs ∧ n ≤ maxLen ∧ -9223372036854775808 ≤ N ∧ N ≤ 9223372036854775807 := by
  obtain ⟨v0, v1, y0, y1, m, rfl, _, _, h0, h1⟩ := open_agg2 Try.underlying25 (by kernel_rfl) cells_bits hv h
  obtain ⟨A, n, c, bs, rfl, hr, hn⟩ := open_bytes h0
  obtain ⟨N, e, _, hw⟩ := DataW.trod_int Try.underlying3 h1
  simp only [List.cons.injEq, and_true] at e
  subst e
  exact ⟨A, n, c, N, bs, rfl, hr, hn, bounds_i64 hw⟩
end
end Go.Proofs.Ytgelgbfnioagbaa
