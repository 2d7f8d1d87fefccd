/-
  Packets, and what waits, that were read as arguments.
-/
import Derived.Test.YtffapinabidkiaaU4
import Derived.Test.YtffapinabidkiaaRows
import Derived.WalkKit
import Derived.ProofKit
import Derived.OpenShut
import Derived.SizedLaws
import Derived.Lib.SmallJoins
import Derived.Deep.Slices
set_option linter.unusedSimpArgs false
set_option linter.unusedVariables false
/- U5 -/
namespace Go.Proofs.Ytffapinabidkiaa.Lp
open Go.ChangeShapes Go.WideShapes Go.ChangeAt Go.RowKit Go.Joins Go.Deep Go.Proofs.Ytffapinabidkiaa.Fq
theorem laidOut : laidOutB Try.prog = true := by kernel_rfl
theorem own0 : ownKnob Try.prog.godebug = none := by kernel_rfl
theorem cells_u8 : Try.prog.cellsOf 5 = 1 := by kernel_rfl
theorem cells_pk : Try.prog.cellsOf 46 = 2 := by kernel_rfl
theorem cells_jt : Try.prog.cellsOf 24 = 5 := by kernel_rfl
theorem bytes_pk : Try.prog.bytesOf 46 = 32 := by kernel_rfl
theorem list_of {α : Type} {n : Nat} {P : Nat → α → Prop} (h : ∀ i, i < n → ∃ x, P i x) : ∃ xs : List α, xs.length = n ∧ ∀ i x, xs[i]? = some x → P i x := by
  induction n with
  | zero => exact ⟨[], rfl, fun i x hx => by simp at hx⟩
  | succ n ih =>
    obtain ⟨xs, hl, hp⟩ := ih fun i hi => h i (by omega)
    obtain ⟨y, hy⟩ := h n (by omega)
    refine ⟨xs ++ [y], by simp [hl], fun i x hx => ?_⟩
    rcases Nat.lt_or_ge i xs.length with hi | hi
    · rw [List.getElem?_append_left hi] at hx
      exact hp i x hx
    · rw [List.getElem?_append_right hi] at hx
      have e : i - xs.length = 0 := by
        rcases Nat.eq_zero_or_pos (i - xs.length) with e | e
        · exact e
        · rw [List.getElem?_eq_none (by simp; omega)] at hx; cases hx
      rw [e] at hx
      simp only [List.getElem?_cons_zero, Option.some.injEq] at hx
      subst hx
      have : i = n := by omega
      subst this
      exact hy
section
variable {H : Type} {enc : TypeId × Value → H} {W : World} {base : Nat} {spare : Nat → Bool} {held : Bool}
/-- a slice of bytes that was read -/
theorem open_by {fuel : Nat} {v : Value} {y : DataW H × List MemPlace} (h : DataW.trod enc Try.prog W base spare held fuel 41 [v] = some y) :
    ∃ A n c bs, v = .slice A n c ∧ Rd W A n bs ∧ n ≤ maxLen := by
  rcases open_ints Try.underlying41 Try.underlying5 cells_u8 h with ⟨hcs, _⟩ | ⟨x, l, c, zs, hcs, _, hl, hm, hz, _, hcell, hwz⟩
  · simp only [List.cons.injEq, and_true] at hcs
    exact ⟨none, 0, 0, [], hcs, Rd.none_, by unfold maxLen; omega⟩
  · simp only [List.cons.injEq, and_true] at hcs
    have hlen : l ≤ zs.length := by rw [hz]; split <;> omega
    have hb : ∀ z ∈ zs, 0 ≤ z ∧ z ≤ 255 := fun z hz => bounds_u8 (hwz z hz)
    refine ⟨some x, l, c, (zs.take l).map Int.toNat, hcs, ⟨by rw [List.length_map, List.length_take]; omega, ?_, fun _ => ⟨x, rfl, ?_⟩⟩, by omega⟩
    · intro y hy
      obtain ⟨z, hz', rfl⟩ := List.mem_map.1 hy
      have := hb z (List.mem_of_mem_take hz')
      omega
    · intro j y hy
      rw [List.getElem?_map] at hy
      obtain ⟨z, hz', rfl⟩ := Option.map_eq_some_iff.1 hy
      obtain ⟨hj, e⟩ := List.getElem?_eq_some_iff.1 hz'
      rw [List.length_take] at hj
      rw [List.getElem_take] at e
      have hm' : z ∈ zs := by rw [← e]; exact List.getElem_mem _
      have := hb z hm'
      rw [hcell j (by omega)]
      have e2 : zs.getD j 0 = z := by rw [← e]; simp [List.getD_eq_getElem?_getD, show j < zs.length by omega]
      rw [e2, byteV, Int.toNat_of_nonneg this.1]
/-- two cells that were read as a packet -/
theorem open_pk {fuel : Nat} {cs : List Value} {y : DataW H × List MemPlace} (h : DataW.trod enc Try.prog W base spare held fuel 46 cs = some y) :
    ∃ x : Pk, cs = [.int .i64 x.s, .slice x.A x.n x.c] ∧ Rd W x.A x.n x.bs ∧ x.n ≤ maxLen ∧ -9223372036854775808 ≤ x.s ∧ x.s ≤ 9223372036854775807 := by
  obtain ⟨y0, y1, m, _, hl, h0, h1⟩ := trod_struct2 Try.underlying46 h
  rw [cells_pk] at hl
  match cs, hl with
  | [c0, c1], _ =>
    have h0' : DataW.trod enc Try.prog W base spare held m 3 [c0] = some y0 := h0
    have h1' : DataW.trod enc Try.prog W base spare held m 41 [c1] = some y1 := h1
    obtain ⟨N, e, _, hw⟩ := DataW.trod_int Try.underlying3 h0'
    simp only [List.cons.injEq, and_true] at e
    subst e
    obtain ⟨A, n, c, bs, rfl, hr, hn⟩ := open_by h1'
    exact ⟨⟨N, A, n, c, bs⟩, rfl, hr, hn, bounds_i64 hw⟩
/-- packets that were read; their weight is told -/
theorem open_pks {fuel : Nat} {cs : List Value} {y : DataW H × List MemPlace} (h : DataW.trod enc Try.prog W base spare held fuel 22 cs = some y) :
    ∃ A n c ls, cs = [.slice A n c] ∧ RdP W A n ls ∧ (∀ x ∈ ls, -9223372036854775808 ≤ x.s ∧ x.s ≤ 9223372036854775807) ∧ (n = 0 ∨ ∃ z ∈ DataW.weights Try.prog 22 y.1, n * 32 ≤ z) := by
  rcases open_slice Try.underlying22 h with ⟨rfl, _⟩ | ⟨a, len, cap, m, k, D, Pl, rfl, _, hl, hm, hmm, hy, hi⟩
  · exact ⟨none, 0, 0, [], rfl, RdP.none_, fun x hx => (nomatch hx), .inl rfl⟩
  · have hlm : len ≤ m := by rw [hmm]; split <;> omega
    rw [cells_pk] at hi
    obtain ⟨xs, hxl, hxs⟩ := list_of (α := Pk) (n := len) (P := fun i x => (W.cell? (a.add (i * 2)) = some (.int .i64 x.s) ∧ W.cell? ⟨(a.add (i * 2)).block, (a.add (i * 2)).off + 1, none⟩ = some (.slice x.A x.n x.c) ∧ Rd W x.A x.n x.bs ∧ x.n ≤ maxLen) ∧ -9223372036854775808 ≤ x.s ∧ x.s ≤ 9223372036854775807) (fun i hi' => by
      obtain ⟨cs', hc, ht⟩ := hi i (by omega)
      obtain ⟨x, rfl, hr, hn, hb⟩ := open_pk ht
      obtain ⟨_, _, hat⟩ := World.cells?_some hc
      have c0 := hat 0 (by omega)
      have c1 := hat 1 (by omega)
      exact ⟨x, ⟨c0, c1, hr, hn⟩, hb⟩)
    refine ⟨some a, len, cap, xs, rfl, ⟨hxl, fun _ => ⟨a, rfl, fun j x hx => (hxs j x hx).1⟩⟩, fun x hx => ?_, .inr ?_⟩
    · obtain ⟨j, hj⟩ := List.mem_iff_getElem?.1 hx
      exact (hxs j x hj).2
    · rw [hy]
      refine ⟨_, by simp only [DataW.weights, Try.underlying22]; exact List.mem_cons_self, ?_⟩
      rw [bytes_pk, List.length_map, List.length_range]
      omega
set_option maxRecDepth 100000 in
theorem open_jt {b0 : Nat} {r : Reach} {v : Value} {d : DataW H} {p : List MemPlace} (hv : Value.okWide Try.prog W r b0 24 v) (h : DataW.Trod enc Try.prog W base spare held 24 v d p) :
    ∃ on nx dp dr A n c ls, v = jtV on nx dp dr A n c ∧ RdP W A n ls ∧ (n = 0 ∨ ∃ z ∈ DataW.weights Try.prog 24 d, n * 32 ≤ z) := by
  obtain ⟨cs, rfl, hsz⟩ := okWide_struct Try.underlying24 hv
  obtain ⟨l⟩ := cs
  match l, hsz.trans cells_jt with
  | [c0, c1, c2, c3, c4], _ =>
    obtain ⟨fuel, hf⟩ := h
    obtain ⟨xs, n, _, hx, _, hlen, hg⟩ := DataW.trod_struct Try.underlying24 hf
    match xs, hlen with
    | [y0, y1, y2, y3, y4], _ =>
      have h0 : DataW.trod enc Try.prog W base spare held n 4 [c0] = some y0 := hg 0 _ rfl
      have h1 : DataW.trod enc Try.prog W base spare held n 3 [c1] = some y1 := hg 1 _ rfl
      have h2 : DataW.trod enc Try.prog W base spare held n 3 [c2] = some y2 := hg 2 _ rfl
      have h3 : DataW.trod enc Try.prog W base spare held n 3 [c3] = some y3 := hg 3 _ rfl
      have h4 : DataW.trod enc Try.prog W base spare held n 22 [c4] = some y4 := hg 4 _ rfl
      obtain ⟨b, e, _⟩ := DataW.trod_bool Try.underlying4 h0
      simp only [List.cons.injEq, and_true] at e
      subst e
      obtain ⟨nx, e, _, _⟩ := DataW.trod_int Try.underlying3 h1
      simp only [List.cons.injEq, and_true] at e
      subst e
      obtain ⟨dp, e, _, _⟩ := DataW.trod_int Try.underlying3 h2
      simp only [List.cons.injEq, and_true] at e
      subst e
      obtain ⟨dr, e, _, _⟩ := DataW.trod_int Try.underlying3 h3
      simp only [List.cons.injEq, and_true] at e
      subst e
      obtain ⟨A, m, c, ls, e, hr, _, hw⟩ := open_pks h4
      simp only [List.cons.injEq, and_true] at e
      subst e
      refine ⟨b, nx, dp, dr, A, m, c, ls, rfl, hr, ?_⟩
      rcases hw with hw | ⟨z, hz, hz2⟩
      · exact .inl hw
      · refine .inr ⟨z, ?_, hz2⟩
        have hd : d = .agg ([y0, y1, y2, y3, y4].map (·.1)) := congrArg Prod.fst hx
        rw [hd]
        simp only [DataW.weights, Try.underlying24]
        exact DataW.weights_mem_each (j := 4) rfl rfl z hz
end
end Go.Proofs.Ytffapinabidkiaa.Lp
