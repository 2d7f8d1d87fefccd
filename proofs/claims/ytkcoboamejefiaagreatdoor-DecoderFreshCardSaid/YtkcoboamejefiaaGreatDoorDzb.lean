/-
  A slice of frames that is an argument.
-/
import Derived.Test.YtkcoboamejefiaaGreatDoorFre
import Derived.Test.YtkcoboamejefiaaGreatDoorK6
set_option maxHeartbeats 8000000
set_option linter.unusedSimpArgs false
set_option linter.unusedVariables false
set_option maxRecDepth 100000
/- Dzb -/
namespace Go.Proofs.YtkcoboamejefiaaGreatDoor.Lp
open Go.ChangeShapes Go.WideShapes Go.ChangeAt Go.RowKit Go.Joins Go.Deep Fq
theorem list_fr {n : Nat} {P : Nat → List Int → Prop} (h : ∀ i, i < n → ∃ x, P i x) : ∃ xs : List (List Int), xs.length = n ∧ ∀ i x, xs[i]? = some x → P i x := by
 induction n with
 | zero => exact ⟨[], rfl, fun i x hx => by simp at hx⟩
 | succ n ih =>
  obtain ⟨xs, hl, hp⟩ := ih fun i hi => h i (by omega)
  obtain ⟨y, hy⟩ := h n (by omega)
  refine ⟨xs ++ [y], by simp [hl], fun i x hx => ?_⟩
  rcases Nat.lt_or_ge i xs.length with hi | hi
  ·rw [List.getElem?_append_left hi] at hx
   exact hp i x hx
  ·have hi2 := (List.getElem?_eq_some_iff.1 hx).1
   rw [List.length_append, List.length_singleton] at hi2
   obtain rfl : i = n := by omega
   rw [List.getElem?_append_right hi, show i - xs.length = 0 by omega] at hx
   simp only [List.getElem?_cons_zero, Option.some.injEq] at hx
   subst hx
   exact hy
section
variable {H : Type} {enc : TypeId × Value → H} {W : World} {base : Nat} {spare : Nat → Bool} {held : Bool}
set_option maxRecDepth 20000 in
theorem fr_cells {fuel : Nat} {cs : List Value} {x : DataW H × List MemPlace} (hf : DataW.trod enc Tryz.prog W base spare held fuel 49 cs = some x) (hcl : cs.length = 23) : ∃ zs : List Int, zs.length = 23 ∧ cs = zs.map fun x => Value.int .i64 x := by
 obtain ⟨xs, m, rfl, _, _, hn, hel⟩ := DataW.trod_struct und_frame hf
 have hfl := flds_frame
 generalize Tryz.prog.fieldsOf 49 = fs at hel hn hfl
 obtain ⟨f1, s1, e0, e1, hfl⟩ := List.map_eq_cons_iff.1 hfl
 obtain ⟨f2, s2, rfl, e2, hfl⟩ := List.map_eq_cons_iff.1 hfl
 obtain ⟨f3, s3, rfl, e3, hfl⟩ := List.map_eq_cons_iff.1 hfl
 obtain rfl := List.map_eq_nil_iff.1 hfl
 simp only [Prod.mk.injEq] at e1 e2 e3
 have hl3 : fs.size = 3 := by rw [← Array.length_toList, e0]; rfl
 have g1 : fs[0]? = some f1 := by rw [← Array.getElem?_toList, e0]; rfl
 have g2 : fs[1]? = some f2 := by rw [← Array.getElem?_toList, e0]; rfl
 have g3 : fs[2]? = some f3 := by rw [← Array.getElem?_toList, e0]; rfl
 have h1 := hel 0 f1 g1
 have h2 := hel 1 f2 g2
 have h3 := hel 2 f3 g3
 rw [e1.2.1, e1.2.2, cells_int, List.getElem?_eq_getElem (by omega)] at h1
 rw [e2.2.1, e2.2.2, cells_lev, List.getElem?_eq_getElem (by omega)] at h2
 rw [e3.2.1, e3.2.2, cells_hop, List.getElem?_eq_getElem (by omega)] at h3
 obtain ⟨z, hz, _⟩ := DataW.trod_int Tryz.underlying3 h1
 obtain ⟨l2, hl2, q2⟩ := trod_ints (n := 6) (by kernel_rfl) h2 (by rw [List.length_take, List.length_drop, hcl]; rfl)
 obtain ⟨l3, hl3', q3⟩ := trod_ints (n := 16) (by kernel_rfl) h3 (by rw [List.length_take, List.length_drop, hcl]; rfl)
 refine ⟨z :: (l2 ++ l3), by rw [List.length_cons, List.length_append, hl2, hl3'], ?_⟩
 rw [List.map_cons, List.map_append, ← q2, ← q3]
 have a1 : cs = cs.take 1 ++ cs.drop 1 := (List.take_append_drop 1 _).symm
 have a2 : cs.drop 1 = (cs.drop 1).take 6 ++ (cs.drop 1).drop 6 := (List.take_append_drop 6 _).symm
 have a3 : (cs.drop 7).take 16 = cs.drop 7 := List.take_of_length_le (by rw [List.length_drop, hcl]; omega)
 rw [List.drop_drop] at a2
 have a4 : cs.take 1 = [.int .i64 z] := by simpa using hz
 rw [a3]
 conv => lhs; rw [a1, a4, a2]
 rfl
theorem open_frs {b0 : Nat} {r : Reach} {v : Value} {d : DataW H} {p : List MemPlace} (hv : Value.okWide Tryz.prog W r b0 50 v) (h : DataW.Trod enc Tryz.prog W base spare held 50 v d p) :
  ∃ A n c fs, v = .slice A n c ∧ RdFr W A n fs ∧ n ≤ maxLen := by
 obtain ⟨a0, len0, cap0, rfl⟩ := okWide_slice Tryz.underlying50 hv
 obtain ⟨fuel, hf⟩ := h
 rcases open_slice Tryz.underlying50 hf with ⟨e, _⟩ | ⟨a, len, cap, m, k, D, Pl, e, _, hl, hm, hmm, _, hi⟩
 ·simp only [Value.cells, List.cons.injEq, and_true] at e
  exact ⟨none, 0, 0, [], by simpa using e, ⟨rfl, fun f hf => (by cases hf), fun h => by omega⟩, by unfold maxLen; omega⟩
 ·simp only [Value.cells, List.cons.injEq, and_true] at e
  have hlm : len ≤ m := by rw [hmm]; split <;> omega
  rw [cells_frame] at hi
  obtain ⟨xs, hxl, hxs⟩ := list_fr (n := len) (P := fun i f => f.length = 23 ∧ ∀ j v, (ic f)[j]? = some v → W.cell? ((a.add (i * 23)).add j) = some v) (fun i hi' => by
   obtain ⟨cs', hc, ht⟩ := hi i (by omega)
   obtain ⟨_, hlen, hat⟩ := World.cells?_some hc
   obtain ⟨zs, hz, e2⟩ := fr_cells ht hlen
   refine ⟨zs, hz, fun j v hv => ?_⟩
   have hj := (List.getElem?_eq_some_iff.1 hv).1
   rw [ic_length, hz] at hj
   rw [hat j (by omega)]
   rw [← hv, e2]
   rfl)
  refine ⟨some a, len, cap, xs, by simpa using e, ⟨hxl, fun f hf => ?_, fun _ => ⟨a, rfl, fun i f hf => (hxs i f hf).2⟩⟩, by omega⟩
  obtain ⟨j, hj⟩ := List.mem_iff_getElem?.1 hf
  exact (hxs j f hj).1
end
end Go.Proofs.YtkcoboamejefiaaGreatDoor.Lp
