/-
  Own texts, laid together: Ly.
-/
import Derived.Test.YtplfcncibmgllaaLs
import Derived.Test.YtplfcncibmgllaaLo
/- Ly -/
namespace Go.Proofs.Ytplfcncibmgllaa.Lp
open Go.ChangeShapes Go.WideShapes Go.ChangeAt Go.RowKit Go.Joins Go.Deep Go.Proofs.Ytplfcncibmgllaa.Fx Go.Proofs.Ytplfcncibmgllaa.Fq Go.Proofs.Ytplfcncibmgllaa.Tb
theorem fold_set : ∀ (l : List Value) (k : Nat) (cs : Array Value), k + l.length = cs.size → ((l.zipIdx k).foldl (fun cs (p : Value × Nat) => cs.setIfInBounds p.2 p.1) cs) = (cs.toList.take k ++ l).toArray
  | [], k, cs, h => by
    have : cs.toList.take k = cs.toList := List.take_of_length_le (by simp at h ⊢; omega)
    simp [this]
  | v :: l, k, cs, h => by
    rw [List.zipIdx_cons, List.foldl_cons, fold_set l (k + 1) _ (by simp at h ⊢; omega)]
    simp only [Array.toList_setIfInBounds]
    congr 1
    rw [List.take_succ_eq_append_getElem (by simp at h ⊢; omega), List.getElem_set_self, List.take_set_of_le (by omega)]
    simp
theorem run_build_one (xs : List Int) (hl : xs.length = 16) (w : World) :
    (Instr.buildSlice 32 1 #[(0, .agg (icells xs))]).run Try.prog w = .ok (.slice (some ⟨w.heap.size, 0, none⟩) 1 1) (w.alloc (.cells (icells xs) 28)) := by
  have hz := arrPcm.zero w
  have hs : (sizeOf 28).run Try.prog w = .ok 16 w := by
    have h := arrPcm.size
    cases hq : Try.prog.info? 28 with
    | none => simp [hq] at h
    | some i => simp [hq] at h; simp [sizeOf, typeInfo, hq, h]
  have hc : (icells xs).size = 16 := by rw [icells_size, hl]
  have hm : ((Array.range (1 * 16)).map ((icells (zr 16))[· % (icells (zr 16)).size]!)) = icells (zr 16) := madeCells_zr 16
  have hf : (icells xs).zipIdx.foldl (fun cs (p : Value × Nat) => cs.setIfInBounds (0 * 16 + p.2) p.1) (icells (zr 16)) = icells xs := by
    rw [← Array.foldl_toList]
    have := fold_set (icells xs).toList 0 (icells (zr 16)) (by simp [icells, hl, zr_length])
    simpa using this
  have hfill : Instr.fill (fun i => some (i * 16, 16)) (icells (zr 16)) [(0, Value.agg (icells xs))] = some (icells xs) := by
    have hz16 : (icells (zr 16)).size = 16 := by rw [icells_size, zr_length]
    simp only [Instr.fill, Value.cells, hc, hz16]
    simpa using hf
  simp only [Instr.buildSlice, Sem.run_bind, run_underlying Try.underlying32 w, Result.andThen_ok, hs]
  rw [if_neg (by decide), if_neg (by decide)]
  simp only [Sem.run_bind, hz, Result.andThen_ok, Sem.run_pure, Value.cells, hm, hfill, newRow]
  rfl
section
variable {H : Type} {enc : TypeId × Value → H} {W : World} {base : Nat} {spare : Nat → Bool} {held : Bool}
theorem cells_spec : Try.prog.cellsOf 37 = 16 := by kernel_rfl
theorem list_of {P : Nat → List Int → Prop} : ∀ n : Nat, (∀ i, i < n → ∃ x, P i x) → ∃ xs : List (List Int), xs.length = n ∧ ∀ i x, xs[i]? = some x → P i x
  | 0, _ => ⟨[], rfl, fun i x h => by simp at h⟩
  | n + 1, h => by
    obtain ⟨xs, hl, hp⟩ := list_of n fun i hi => h i (by omega)
    obtain ⟨y, hy⟩ := h n (by omega)
    refine ⟨xs ++ [y], by simp [hl], fun i x hx => ?_⟩
    rcases Nat.lt_or_ge i xs.length with hi | hi
    · rw [List.getElem?_append_left hi] at hx
      exact hp i x hx
    · have hi2 := (List.getElem?_eq_some_iff.1 hx).1
      rw [List.length_append, List.length_singleton] at hi2
      obtain rfl : i = n := by omega
      rw [List.getElem?_append_right hi, show i - xs.length = 0 by omega] at hx
      simp only [List.getElem?_cons_zero, Option.some.injEq] at hx
      subst hx
      exact hy
theorem open_rows {fuel : Nat} {cs : List Value} {y : DataW H × List MemPlace} (h : DataW.trod enc Try.prog W base spare held fuel 26 cs = some y) :
    ∃ A n c xs, cs = [.slice A n c] ∧ RdA W A n xs ∧ n ≤ maxLen := by
  rcases open_slice Try.underlying26 h with ⟨rfl, _⟩ | ⟨a, len, cap, m, k, D, Pl, rfl, _, hl, hm, hmm, _, hi⟩
  · exact ⟨none, 0, 0, [], rfl, ⟨rfl, fun f hf => (by cases hf), fun h => by omega⟩, by unfold maxLen; omega⟩
  · have hlm : len ≤ m := by rw [hmm]; split <;> omega
    rw [cells_spec] at hi
    obtain ⟨xs, hxl, hxs⟩ := list_of (P := fun i f => f.length = 16 ∧ ∀ j v, (ic f)[j]? = some v → W.cell? ((a.add (i * 16)).add j) = some v) len (fun i hi' => by
      obtain ⟨cs', hc, ht⟩ := hi i (by omega)
      obtain ⟨hsz, _, hat⟩ := World.cells?_some hc
      obtain ⟨es, m', rfl, _, hcl, hn, hel⟩ := DataW.trod_array (n := 16) (e := 3) (by kernel_rfl) ht
      rw [cells_spec] at hcl
      obtain ⟨zs, hz, e⟩ := ints_of 16 cs' hcl fun i hi => by
        have hi' := hel i hi
        rw [cells_int, Nat.mul_one] at hi'
        have hx : es[i]? = some es[i] := List.getElem?_eq_getElem (by omega)
        rw [hx] at hi'
        obtain ⟨z, hz, _⟩ := DataW.trod_int Try.underlying3 hi'
        exact ⟨z, hz⟩
      refine ⟨zs, hz, fun j v hv => ?_⟩
      have hj : j < 16 := by
        have := (List.getElem?_eq_some_iff.1 hv).1
        rw [ic_length] at this; omega
      rw [hat j hj]
      rw [← hv, e]; rfl)
    exact ⟨some a, len, cap, xs, rfl, ⟨hxl, fun f hf => by
      obtain ⟨i, hi⟩ := List.mem_iff_getElem?.1 hf
      exact (hxs i f hi).1, fun _ => ⟨a, rfl, fun i f hf => (hxs i f hf).2⟩⟩, by omega⟩
theorem open_rowsV {b0 : Nat} {r : Reach} {v : Value} {d : DataW H} {p : List MemPlace} (hv : Value.okWide Try.prog W r b0 26 v) (h : DataW.Trod enc Try.prog W base spare held 26 v d p) :
    ∃ A n c xs, v = .slice A n c ∧ RdA W A n xs ∧ n ≤ maxLen := by
  obtain ⟨a0, len0, cap0, rfl⟩ := okWide_slice Try.underlying26 hv
  obtain ⟨fuel, hf⟩ := h
  obtain ⟨A, n, c, xs, e, h1, h2⟩ := open_rows hf
  simp only [Value.cells, List.cons.injEq, and_true] at e
  exact ⟨A, n, c, xs, by simpa using e, h1, h2⟩
end
end Go.Proofs.Ytplfcncibmgllaa.Lp
