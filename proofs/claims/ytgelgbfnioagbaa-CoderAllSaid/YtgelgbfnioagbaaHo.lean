/-
  Own texts, laid together: Ho.
-/
import Derived.Test.YtgelgbfnioagbaaRows
import Derived.Test.YtgelgbfnioagbaaGi
import Derived.Test.YtgelgbfnioagbaaOpen
import Derived.WalkKit
import Derived.ProofKit
import Derived.OpenShut
import Derived.Lib.SmallJoins
import Derived.Deep.Slices
/- Ho -/
namespace Go.Proofs.Ytgelgbfnioagbaa.Cd
open Go.ChangeShapes Go.WideShapes Go.ChangeAt Go.RowKit Go.Joins Go.Deep
theorem cells_int : Try.prog.cellsOf 3 = 1 := by kernel_rfl
theorem cells_freq : Try.prog.cellsOf 30 = 1 := by kernel_rfl
section
variable {H : Type} {enc : TypeId × Value → H} {W : World} {base : Nat} {spare : Nat → Bool} {held : Bool}
/-- a slice of ints that was read -/
theorem open_il {fuel : Nat} {v : Value} {y : DataW H × List MemPlace} (h : DataW.trod enc Try.prog W base spare held fuel 28 [v] = some y) :
    ∃ A n c zs, v = .slice A n c ∧ Fq.RdI W A n zs ∧ n ≤ maxLen := by
  rcases open_ints Try.underlying28 Try.underlying3 cells_int h with ⟨hcs, _⟩ | ⟨x, l, c, zs, hcs, _, hl, hm, hz, _, hcell, hwz⟩
  · simp only [List.cons.injEq, and_true] at hcs
    exact ⟨none, 0, 0, [], hcs, Fq.RdI.none_, by unfold maxLen; omega⟩
  · simp only [List.cons.injEq, and_true] at hcs
    have hlen : l ≤ zs.length := by rw [hz]; split <;> omega
    refine ⟨some x, l, c, zs.take l, hcs, ⟨by rw [List.length_take]; omega, fun _ => ⟨x, rfl, ?_⟩⟩, by omega⟩
    intro j y hy
    obtain ⟨hj, e⟩ := List.getElem?_eq_some_iff.1 hy
    rw [List.length_take] at hj
    rw [List.getElem_take] at e
    rw [hcell j (by omega)]
    have e2 : zs.getD j 0 = y := by rw [← e]; simp [List.getD_eq_getElem?_getD, show j < zs.length by omega]
    rw [e2]
set_option maxRecDepth 100000 in
/-- a table's cell that was read -/
theorem open_tc {fuel : Nat} {cs : List Value} {y : DataW H × List MemPlace} (h : DataW.trod enc Try.prog W base spare held fuel 30 cs = some y) :
    ∃ t : Tb, cs = [.slice t.C t.m t.d] ∧ Fq.RdI W t.C t.m t.xs ∧ t.m ≤ maxLen := by
  obtain ⟨y0, m, hx, hl, h0⟩ := trod_struct1 Try.underlying30 h
  rw [cells_freq] at hl
  match cs, hl with
  | [c0], _ =>
    have h0' : DataW.trod enc Try.prog W base spare held m 28 [c0] = some y0 := h0
    obtain ⟨A, n, c, zs, rfl, hr, hn⟩ := open_il h0'
    exact ⟨⟨A, n, c, zs⟩, rfl, hr, hn⟩
theorem list_ofT {n : Nat} {P : Nat → Tb → Prop} (h : ∀ i, i < n → ∃ x, P i x) : ∃ xs : List Tb, xs.length = n ∧ ∀ i x, xs[i]? = some x → P i x := by
  induction n with
  | zero => exact ⟨[], rfl, fun i x hx => by simp at hx⟩
  | succ n ih =>
    obtain ⟨xs, hl, hp⟩ := ih fun i hi => h i (by omega)
    obtain ⟨y, hy⟩ := h n (by omega)
    refine ⟨xs ++ [y], by simp [hl], fun i x hx => ?_⟩
    rcases Nat.lt_or_ge i xs.length with hi | hi
    · rw [List.getElem?_append_left hi] at hx
      exact hp i x hx
    · rw [List.getElem?_append_right hi] at hx
      have e : i - xs.length = 0 := by
        rcases Nat.eq_zero_or_pos (i - xs.length) with e | e
        · exact e
        · rw [List.getElem?_eq_none (by simp; omega)] at hx; cases hx
      rw [e] at hx
      simp only [List.getElem?_cons_zero, Option.some.injEq] at hx
      subst hx
      have : i = n := by omega
      subst this
      exact hy
set_option maxRecDepth 100000 in
/-- a list of tables that was read -/
theorem open_tl {fuel : Nat} {cs : List Value} {y : DataW H × List MemPlace} (h : DataW.trod enc Try.prog W base spare held fuel 33 cs = some y) :
    ∃ L n cap ts, cs = [.slice L n cap] ∧ RdT W L n ts ∧ n ≤ maxLen ∧ n ≤ cap := by
  rcases open_slice Try.underlying33 h with ⟨rfl, _⟩ | ⟨a, len, cap, m, k, D, Pl, rfl, _, hl, hm, hmm, _, hi⟩
  · exact ⟨none, 0, 0, [], rfl, RdT.none_, by unfold maxLen; omega, Nat.le_refl _⟩
  · have hlm : len ≤ m := by rw [hmm]; split <;> omega
    rw [cells_freq] at hi
    obtain ⟨ts, hxl, hxs⟩ := list_ofT (n := len) (P := fun i t => W.cell? (a.add i) = some (.slice t.C t.m t.d) ∧ Fq.RdI W t.C t.m t.xs ∧ t.m ≤ maxLen) (fun i hi' => by
      obtain ⟨cs', hc, ht⟩ := hi i (by omega)
      obtain ⟨t, rfl, hr, hn⟩ := open_tc ht
      obtain ⟨_, _, hat⟩ := World.cells?_some hc
      have c0 := hat 0 (by omega)
      rw [Nat.mul_one] at c0
      exact ⟨t, c0, hr, hn⟩)
    exact ⟨some a, len, cap, ts, rfl, ⟨hxl, fun _ => ⟨a, rfl, hxs⟩⟩, by omega, hl⟩
set_option maxRecDepth 100000 in
/-- by value -/
theorem open_ilV {b0 : Nat} {r : Reach} {v : Value} {d : DataW H} {p : List MemPlace} (hv : Value.okWide Try.prog W r b0 28 v) (h : DataW.Trod enc Try.prog W base spare held 28 v d p) :
    ∃ A n c zs, v = .slice A n c ∧ Fq.RdI W A n zs ∧ n ≤ maxLen := by
  obtain ⟨a0, len0, cap0, rfl⟩ := okWide_slice Try.underlying28 hv
  obtain ⟨fuel, hf⟩ := h
  exact open_il hf
set_option maxRecDepth 100000 in
theorem open_tlV {b0 : Nat} {r : Reach} {v : Value} {d : DataW H} {p : List MemPlace} (hv : Value.okWide Try.prog W r b0 33 v) (h : DataW.Trod enc Try.prog W base spare held 33 v d p) :
    ∃ L n c ts, v = .slice L n c ∧ RdT W L n ts ∧ n ≤ maxLen ∧ n ≤ c := by
  obtain ⟨a0, len0, cap0, rfl⟩ := okWide_slice Try.underlying33 hv
  obtain ⟨fuel, hf⟩ := h
  obtain ⟨L, n, cap, ts, e, hR, hn⟩ := open_tl hf
  simp only [Value.cells, List.cons.injEq, and_true] at e
  exact ⟨L, n, cap, ts, e, hR, hn⟩
end
end Go.Proofs.Ytgelgbfnioagbaa.Cd
