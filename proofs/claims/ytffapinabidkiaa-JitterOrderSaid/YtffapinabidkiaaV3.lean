/-
  Steps, each with packets and how often it is pulled: in memory, and read as an argument.
-/
import Derived.Test.YtffapinabidkiaaU5
import Derived.Test.YtffapinabidkiaaV2
set_option linter.unusedSimpArgs false
set_option linter.unusedVariables false
/- V3 -/
namespace Go.Proofs.Ytffapinabidkiaa.Lp
open Go.ChangeShapes Go.WideShapes Go.ChangeAt Go.RowKit Go.Joins Go.Deep Go.Proofs.Ytffapinabidkiaa.Fq
/-- a step as it lies: its packets, and how often it is pulled -/
structure Opk where
  A : Option Addr
  n : Nat
  c : Nat
  ls : List Pk
  p : Int
abbrev opV (x : Opk) : Value := .agg #[.slice x.A x.n x.c, .int .i64 x.p]
/-- a slice of steps reads as these -/
def RdO (w : World) (AL : Option Addr) (n : Nat) (os : List Opk) : Prop :=
  os.length = n ∧ (0 < n → ∃ L, AL = some L ∧ ∀ j x, os[j]? = some x → w.cell? (L.add (j * 2)) = some (.slice x.A x.n x.c) ∧ w.cell? ⟨(L.add (j * 2)).block, (L.add (j * 2)).off + 1, none⟩ = some (.int .i64 x.p) ∧ RdP w x.A x.n x.ls ∧ (x.n * 32 ≤ 140737488355328 ∧ x.n ≤ x.c) ∧ -9223372036854775808 ≤ x.p ∧ x.p ≤ 9223372036854775807)
theorem RdO.none_ {w : World} : RdO w none 0 [] := ⟨rfl, fun h => by omega⟩
theorem RdO.keep {w w' : World} {AL : Option Addr} {n : Nat} {os : List Opk} (h : RdO w AL n os) (hb : Below w.heap.size w w') : RdO w' AL n os := by
  refine ⟨h.1, fun hn => ?_⟩
  obtain ⟨L, e, hc⟩ := h.2 hn
  refine ⟨L, e, fun j x hx => ?_⟩
  obtain ⟨h1, h2, h3, h4⟩ := hc j x hx
  exact ⟨(hb.cell (World.block_lt_of_cell? _ _ h1)).trans h1, (hb.cell (World.block_lt_of_cell? _ _ h2)).trans h2, h3.keep hb, h4⟩
theorem RdO.at_ {w : World} {AL : Option Addr} {n k : Nat} {os : List Opk} (h : RdO w AL n os) (hk : k < n) :
    ∃ L x, AL = some L ∧ L.block < w.heap.size ∧ os[k]? = some x ∧ w.cell? (L.add (k * 2)) = some (.slice x.A x.n x.c) ∧ w.cell? ⟨(L.add (k * 2)).block, (L.add (k * 2)).off + 1, none⟩ = some (.int .i64 x.p) ∧ RdP w x.A x.n x.ls ∧ (x.n * 32 ≤ 140737488355328 ∧ x.n ≤ x.c) ∧ -9223372036854775808 ≤ x.p ∧ x.p ≤ 9223372036854775807 := by
  obtain ⟨L, e, hc⟩ := h.2 (by omega)
  have hl : k < os.length := by have := h.1; omega
  obtain ⟨h1, h2, h3⟩ := hc k _ (List.getElem?_eq_getElem hl)
  have hb := World.block_lt_of_cell? _ _ h1
  rw [block_of_add] at hb
  exact ⟨L, os[k], e, hb, List.getElem?_eq_getElem hl, h1, h2, h3⟩
theorem rowOp : RowT 34 2 #[.slice none 0 0, .int .i64 0] := rowT_of (by kernel_rfl) (by kernel_rfl)
theorem Put_no (on : Bool) (nx dp dr : Int) (A : Option Addr) (n c : Nat) (ls : List Pk) (A2 : Option Addr) (n2 c2 : Nat) (lp : List Pk) (w : World) (h : Hid (RdP w A n ls)) (h2 : Hid (RdP w A2 n2 lp)) (hn2 : n2 ≤ 1000) (hn : n ≤ 281474976710656) (hb : Hid (¬ goodL (lp.map pl) = true)) :
    Calls Try.prog 16 #[jtV on nx dp dr A n c, .slice A2 n2 c2] w fun e w' => e = .returned (.tuple #[zeroJ, .slice none 0 0, .int .i64 1]) ∧ Below w.heap.size w w' := by
  refine (Put_any on nx dp dr A n c ls A2 n2 c2 lp w h hn h2 hn2).mono ?_
  intro e w' hP
  unfold PutQ at hP
  rwa [if_neg (fun k => hb.out k.2)] at hP
theorem cells_op : Try.prog.cellsOf 34 = 2 := by kernel_rfl
section
variable {H : Type} {enc : TypeId × Value → H} {W : World} {base : Nat} {spare : Nat → Bool} {held : Bool}
theorem weightsAll_mem {P : Program} {e : TypeId} : ∀ {l : List (DataW H)} {d : DataW H}, d ∈ l → ∀ n ∈ d.weights P e, n ∈ DataW.weightsAll P e l
  | d' :: r, d, hd, n, hn => by
    simp only [DataW.weightsAll, List.mem_append]
    rcases List.mem_cons.1 hd with rfl | h
    · exact Or.inl hn
    · exact Or.inr (weightsAll_mem h n hn)
theorem pks_cap {fuel : Nat} {A : Option Addr} {n c : Nat} {y : DataW H × List MemPlace} (h : DataW.trod enc Try.prog W base spare held fuel 22 [.slice A n c] = some y) : n ≤ c := by
  rcases open_slice Try.underlying22 h with ⟨e, _⟩ | ⟨a, len, cap, m, k, D, Pl, e, _, hl, _⟩
  · simp only [List.cons.injEq, and_true] at e
    injection e with e1 e2 e3
    omega
  · simp only [List.cons.injEq, and_true] at e
    injection e with e1 e2 e3
    omega
/-- two cells that were read as a step -/
theorem open_op {fuel : Nat} {cs : List Value} {y : DataW H × List MemPlace} (h : DataW.trod enc Try.prog W base spare held fuel 34 cs = some y) :
    ∃ x : Opk, cs = [.slice x.A x.n x.c, .int .i64 x.p] ∧ RdP W x.A x.n x.ls ∧ (x.n = 0 ∨ ∃ z ∈ DataW.weights Try.prog 34 y.1, x.n * 32 ≤ z) ∧ x.n ≤ x.c ∧ -9223372036854775808 ≤ x.p ∧ x.p ≤ 9223372036854775807 := by
  obtain ⟨y0, y1, m, hy, hl, h0, h1⟩ := trod_struct2 Try.underlying34 h
  rw [cells_op] at hl
  match cs, hl with
  | [c0, c1], _ =>
    have h0' : DataW.trod enc Try.prog W base spare held m 22 [c0] = some y0 := h0
    have h1' : DataW.trod enc Try.prog W base spare held m 3 [c1] = some y1 := h1
    obtain ⟨A, n, c, ls, e, hr, _, hw⟩ := open_pks h0'
    simp only [List.cons.injEq, and_true] at e
    subst e
    have hcap := pks_cap h0'
    obtain ⟨N, e, _, hb⟩ := DataW.trod_int Try.underlying3 h1'
    simp only [List.cons.injEq, and_true] at e
    subst e
    refine ⟨⟨A, n, c, ls, N⟩, rfl, hr, ?_, hcap, bounds_i64 hb⟩
    rcases hw with hw | ⟨z, hz, hz2⟩
    · exact .inl hw
    · refine .inr ⟨z, ?_, hz2⟩
      have hd : y.1 = .agg [y0.1, y1.1] := congrArg Prod.fst hy
      rw [hd]
      simp only [DataW.weights, Try.underlying34]
      exact DataW.weights_mem_each (j := 0) rfl rfl z hz
theorem open_ops {b0 : Nat} {r : Reach} {v : Value} {d : DataW H} {p : List MemPlace} (hv : Value.okWide Try.prog W r b0 25 v) (h : DataW.Trod enc Try.prog W base spare held 25 v d p) (hsz : ∀ z ∈ DataW.weights Try.prog 25 d, z ≤ reachBytes) :
    ∃ A n c os, v = .slice A n c ∧ RdO W A n os := by
  obtain ⟨a0, len0, cap0, rfl⟩ := okWide_slice Try.underlying25 hv
  obtain ⟨fuel, h⟩ := h
  rcases open_slice Try.underlying25 h with ⟨e, _⟩ | ⟨a, len, cap, m, k, D, Pl, e, _, hl, hm, hmm, hy, hi⟩
  · exact ⟨none, 0, 0, [], by simpa [Value.cells] using e, RdO.none_⟩
  · have hlm : len ≤ m := by rw [hmm]; split <;> omega
    rw [cells_op] at hi
    obtain ⟨xs, hxl, hxs⟩ := list_of (α := Opk) (n := len) (P := fun i x => W.cell? (a.add (i * 2)) = some (.slice x.A x.n x.c) ∧ W.cell? ⟨(a.add (i * 2)).block, (a.add (i * 2)).off + 1, none⟩ = some (.int .i64 x.p) ∧ RdP W x.A x.n x.ls ∧ (x.n * 32 ≤ 140737488355328 ∧ x.n ≤ x.c) ∧ -9223372036854775808 ≤ x.p ∧ x.p ≤ 9223372036854775807) (fun i hi' => by
      obtain ⟨cs', hc, ht⟩ := hi i (by omega)
      obtain ⟨x, rfl, hr, hw, hcap, hb⟩ := open_op ht
      obtain ⟨_, _, hat⟩ := World.cells?_some hc
      have c0 := hat 0 (by omega)
      have c1 := hat 1 (by omega)
      refine ⟨x, c0, c1, hr, ⟨?_, hcap⟩, hb⟩
      rcases hw with hw | ⟨z, hz, hz2⟩
      · omega
      · have hz9 := hsz z (by
          have hd : d = .slice ((List.range len).map D) ((List.range (m - len)).map fun j => D (len + j)) := congrArg Prod.fst hy
          rw [hd]
          simp only [DataW.weights, Try.underlying25, List.mem_cons, List.mem_append]
          exact .inr (.inl (weightsAll_mem (List.mem_map.2 ⟨i, List.mem_range.2 hi', rfl⟩) z hz)))
        have h7 : reachBytes = 140737488351232 := by decide
        omega)
    exact ⟨some a, len, cap, xs, by simpa [Value.cells] using e, hxl, fun _ => ⟨a, rfl, hxs⟩⟩
end
end Go.Proofs.Ytffapinabidkiaa.Lp
