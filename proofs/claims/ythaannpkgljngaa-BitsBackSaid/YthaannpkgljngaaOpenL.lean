/-
  A list of bits that was read out of memory, as the walks want it.
-/
import Derived.Test.YthaannpkgljngaaOpen
import Derived.Test.YthaannpkgljngaaWd
namespace Go.Proofs.Ythaannpkgljngaa
open Go.ChangeShapes Go.WideShapes Go.ChangeAt Go.RowKit Go.Joins Go.Deep

theorem cells_slice : Try.prog.cellsOf 22 = 1 := by kernel_rfl
theorem cells_int : Try.prog.cellsOf 3 = 1 := by kernel_rfl
section
variable {H : Type} {enc : TypeId × Value → H} {W : World} {base : Nat} {spare : Nat → Bool} {held : Bool}
/-- two cells that were read as bits -/
theorem open_pair {fuel : Nat} {cs : List Value} {y : DataW H × List MemPlace} (h : DataW.trod enc Try.prog W base spare held fuel 24 cs = some y) :
    ∃ A n c N bs, cs = [.slice A n c, .int .i64 N] ∧ Rd W A n bs ∧ n ≤ maxLen := by
  obtain ⟨y0, y1, m, _, hl, h0, h1⟩ := trod_struct2 Try.underlying24 h
  rw [cells_bits] at hl
  match cs, hl with
  | [c0, c1], _ =>
    have h0' : DataW.trod enc Try.prog W base spare held m 22 [c0] = some y0 := h0
    have h1' : DataW.trod enc Try.prog W base spare held m 3 [c1] = some y1 := h1
    obtain ⟨A, n, c, bs, rfl, hr, hn⟩ := open_bytes h0'
    obtain ⟨N, e, _, _⟩ := DataW.trod_int Try.underlying3 h1'
    simp only [List.cons.injEq, and_true] at e
    subst e
    exact ⟨A, n, c, N, bs, rfl, hr, hn⟩
theorem list_of {n : Nat} {P : Nat → It → Prop} (h : ∀ i, i < n → ∃ x, P i x) : ∃ xs : List It, xs.length = n ∧ ∀ i x, xs[i]? = some x → P i x := by
  induction n with
  | zero => exact ⟨[], rfl, fun i x hx => by simp at hx⟩
  | succ n ih =>
    obtain ⟨xs, hl, hp⟩ := ih fun i hi => h i (by omega)
    obtain ⟨y, hy⟩ := h n (by omega)
    refine ⟨xs ++ [y], by simp [hl], fun i x hx => ?_⟩
    rcases Nat.lt_or_ge i xs.length with hi | hi
    · rw [List.getElem?_append_left hi] at hx
      exact hp i x hx
    · rw [List.getElem?_append_right hi] at hx
      have e : i - xs.length = 0 := by
        rcases Nat.eq_zero_or_pos (i - xs.length) with e | e
        · exact e
        · rw [List.getElem?_eq_none (by simp; omega)] at hx; cases hx
      rw [e] at hx
      simp only [List.getElem?_cons_zero, Option.some.injEq] at hx
      subst hx
      have : i = n := by omega
      subst this
      exact hy
theorem open_list {fuel : Nat} {cs : List Value} {y : DataW H × List MemPlace} (h : DataW.trod enc Try.prog W base spare held fuel 37 cs = some y) :
    ∃ AL n cap xs, cs = [.slice AL n cap] ∧ RdL W AL n xs ∧ n ≤ maxLen := by
  rcases open_slice Try.underlying37 h with ⟨rfl, _⟩ | ⟨a, len, cap, m, k, D, Pl, rfl, _, hl, hm, hmm, _, hi⟩
  · exact ⟨none, 0, 0, [], rfl, ⟨rfl, fun h => by omega⟩, by unfold maxLen; omega⟩
  · have hlm : len ≤ m := by rw [hmm]; split <;> omega
    rw [cells_bits] at hi
    obtain ⟨xs, hxl, hxs⟩ := list_of (n := len) (P := fun i x => W.cell? (a.add (i * 2)) = some (.slice x.A x.n x.c) ∧ W.cell? ⟨(a.add (i * 2)).block, (a.add (i * 2)).off + 1, none⟩ = some (.int .i64 x.N) ∧ Rd W x.A x.n x.bs) (fun i hi' => by
      obtain ⟨cs', hc, ht⟩ := hi i (by omega)
      obtain ⟨A, n, c, N, bs, rfl, hr, _⟩ := open_pair ht
      obtain ⟨_, _, hat⟩ := World.cells?_some hc
      have c0 := hat 0 (by omega)
      have c1 := hat 1 (by omega)
      refine ⟨⟨A, n, c, N, bs⟩, ?_, ?_, hr⟩
      · exact c0
      · exact c1)
    exact ⟨some a, len, cap, xs, rfl, ⟨hxl, fun _ => ⟨a, rfl, hxs⟩⟩, by omega⟩
end
end Go.Proofs.Ythaannpkgljngaa
