/-
  Words for memory: blocks of one's own, whatever their cells; laws of a walk over them.
-/
import Derived.Test.YtffapinabidkiaaChecked
import Derived.Test.YtffapinabidkiaaBa
import Derived.WalkKit
import Derived.WalkSpells
import Derived.WalkLawsBesides
import Derived.Lib.Small
import Derived.Lib.Walk
import Derived.Lib.Hide
import Derived.Deep.QuietTactic
import Derived.BigQuiet
import Derived.Deep.MidRow
import Derived.Deep.WholeRow
import Derived.Laws.ResultCell
import Derived.Deep.RegionHeld3
import Derived.Laws.CopyOwn
import Derived.Laws.StructEq
import Derived.IntWalk
set_option linter.unusedSimpArgs false
set_option linter.unusedVariables false
/- U1 -/
namespace Go.Proofs.Ytffapinabidkiaa.Lp
open Go.RowKit Go.Proofs.Ytffapinabidkiaa.Fq
theorem below_grown {B g : Nat} {w w1 w2 : World} (h : Below B w w1) (k : w1.grownBy w2 (some g)) (hg : B ≤ g) (hB : B ≤ w1.heap.size) : Below B w w2 :=
  ⟨k.os.trans h.os, k.tape.trans h.tape, k.output.trans h.output, Nat.le_trans h.size k.size, fun i hi => (k.block i (by omega) (fun e => by injection e; omega)).trans (h.block i hi)⟩
section
variable {w0 w w' : World} {L : List (Nat × TypeId × List Int)} {g : Nat} {T : TypeId} {xs : List Int}
theorem grown_set (w : World) (g j : Nat) (v : Value) : w.grownBy (w.setCell ⟨g, j, none⟩ v) (some g) := only_setCell (only_of_below (Below.refl _ _) _) (.inl rfl) _
theorem grown_row (w : World) (g : Nat) (cs : Array Value) : w.grownBy (w.setRow g cs) (some g) :=
  ⟨rfl, rfl, rfl, by simp, fun i _ hne => setRow_other w g i cs (fun e => hne (by rw [e]))⟩
end
/-- n zeros -/
def zr (n : Nat) : List Int := List.replicate n 0
theorem zr_length (n : Nat) : (zr n).length = n := List.length_replicate
/-- T is a type of n ints, laid one behind the other -/
def Arr (T : TypeId) (n : Nat) : Prop :=
  (∃ d, Try.prog.underlying T = some d ∧ d.isRow = true) ∧ (Try.prog.info? T).map (fun i => (i.zero, i.size)) = some (some (.agg (icells (zr n))), n)
theorem Arr.size {T : TypeId} {n : Nat} (h : Arr T n) : (Try.prog.info? T).map (·.size) = some n := by
  obtain ⟨_, h⟩ := h
  cases hq : Try.prog.info? T with
  | none => simp [hq] at h
  | some i => simp [hq] at h; simp [h.2]
theorem Arr.zero {T : TypeId} {n : Nat} (h : Arr T n) (w : World) : (zeroValue T).run Try.prog w = .ok (.agg (icells (zr n))) w := by
  obtain ⟨_, h⟩ := h
  cases hq : Try.prog.info? T with
  | none => simp [hq] at h
  | some i => simp [hq] at h; simp [zeroValue, typeInfo, hq, h.1]
theorem icells_one (xs : List Int) : (icells xs).all (·.oneCell') = true :=
  Array.all_eq_true_iff_forall_mem.2 (fun v hv => by
    simp only [icells, List.mem_toArray, List.mem_map] at hv
    obtain ⟨x, -, rfl⟩ := hv
    rfl)
section
variable {ops : Array Oper} {rest : List Oper} {o : Oper} {a : Act} {w w0 : World} {Q : Exit → Act → World → Prop} {L : List (Nat × TypeId × List Int)}
theorem wl_step (hgd : Region.wanted o (yielded ops a.tmps) = true) (h : ∀ K : Act → World → Prop, (∀ a w, wpList Try.prog ops Q rest a w → K a w) → o.wp Try.prog a w K Q) : wpList Try.prog ops Q (o :: rest) a w :=
  wpList_step fun K hK => by rw [if_pos hgd]; exact h K hK
end
section
variable {ops : Array Oper} {rest : List Oper} {o : Oper} {a : Act} {w w0 : World} {Q : Exit → Act → World → Prop} {L : List (Nat × TypeId × List Int)}
end
theorem arn_elem (w : World) : (sizeOf 3).run Try.prog w = .ok 1 w := by kernel_rfl
section
variable {ops : Array Oper} {rest : List Oper} {o : Oper} {a : Act} {w w0 : World} {Q : Exit → Act → World → Prop} {L : List (Nat × TypeId × List Int)}
end
theorem rd_sub {w : World} {g : Nat} {T : TypeId} {xs : List Int} (h : Blk w g T (icells xs)) (o n : Nat) (hn : (xs.drop o).length = n) : RdI w (some ⟨g, o, none⟩) n (xs.drop o) := by
  refine ⟨hn, fun _ => ⟨_, rfl, fun j x hx => ?_⟩⟩
  rw [Addr.add_mid, h.cell]
  rw [List.getElem?_drop] at hx
  simp [icells, hx]
/-- two arrays that are values, compared -/
theorem getD_ext {xs ys : List Int} (h : xs.length = ys.length) (hk : ∀ k, k < xs.length → xs.getD k 0 = ys.getD k 0) : xs = ys := by
  refine List.ext_getElem h fun k h1 h2 => ?_
  have := hk k h1
  simpa [List.getD_eq_getElem?_getD, h1, h2] using this
/-- the cells of ints -/
def ic (xs : List Int) : List Value := xs.map fun x => Value.int .i64 x
theorem ic_length (xs : List Int) : (ic xs).length = xs.length := by rw [ic, List.length_map]
theorem ic_one (xs : List Int) : ∀ v ∈ ic xs, v.oneCell' = true := fun v hv => by
  rw [ic, List.mem_map] at hv
  obtain ⟨x, -, rfl⟩ := hv
  rfl
theorem ic_arr (xs : List Int) : (ic xs).toArray = icells xs := rfl
section
variable {w0 w : World} {L : List (Nat × TypeId × List Int)} {g n : Nat} {T : TypeId} {xs : List Int}
end
section
variable {ops : Array Oper} {o : Oper} {a : Act} {w w0 : World} {Q : Exit → Act → World → Prop} {K : Act → World → Prop} {L : List (Nat × TypeId × List Int)} {S : World → Prop}
/-- a load of one element -/
theorem yi_cell (hw : Region.wanted o (yielded ops a.tmps) = true) (x : Operand) (ho : o.op = .load 3 x) {ad : Addr} (hx : a.eval x = .pointer (some ad)) {v : Int}
    (hS : ∀ u, S u → u.cell? ad = some (.int .i64 v)) : YieldsIf Try.prog ops S o (.int .i64 v) a :=
  .inl ⟨hw, fun u hu => by
    have hg : (isAgg 3).run Try.prog u = .ok false u := by kernel_rfl
    unfold execOp
    simp only [ho, hx, Instr.loadAt, Instr.sureAddr, Sem.run_bind, Sem.run_pure, Result.andThen_ok, loadVar, hg, run_load, hS u hu, Bool.false_eq_true, if_false]⟩
/-- what needs no memory -/
theorem yi_free (hw : Region.wanted o (yielded ops a.tmps) = true) {v : Value} (h : ∀ u, (execOp a.eval o).run Try.prog u = .ok (.value v) u) : YieldsIf Try.prog ops S o v a := .inl ⟨hw, fun u _ => h u⟩
theorem wa_take {md : Region.Mode} {i d : Nat} {oi : Oper} {v : Value} {fuel : Nat} {listed : Array Bool} (hi : ops[i]? = some oi)
    (hs : Region.noSelect ops = true) (hf : Region.free md ops listed i = true) (hr : (Region.ready md ops listed).contains i = true)
    (hQ : ∀ c a w, Q (.panic c) (a.put oi.dst v) w → Q (.panic c) a w) (hy : YieldsIf Try.prog ops S oi v a) (hS : S w) (hd : oi.dst = some d)
    (h : wpAnyH Try.prog md ops Q S fuel (listed.setIfInBounds i true) (a.put (some d) v) w) : wpAnyH Try.prog md ops Q S (fuel + 1) listed a w :=
  wpAnyH_take hi hs hf hr hQ hy hS (by rw [hd]; exact h)
end
abbrev Ent := Nat × TypeId × Array Value
/-- all that was there in w1, but for these blocks, is as it was -/
def MF (w1 : World) (L : List Ent) (w : World) : Prop := w1.heap.size ≤ w.heap.size ∧ ∀ b, b < w1.heap.size → (∀ e ∈ L, e.1 ≠ b) → w.heap[b]? = w1.heap[b]?
/-- blocks made since w0, each with its cells; what else was there in w1 is as it was -/
def MV (w0 w1 : World) (L : List Ent) (w : World) : Prop :=
  Below w0.heap.size w0 w ∧ (∀ e ∈ L, Blk w e.1 e.2.1 e.2.2) ∧ (∀ e ∈ L, w0.heap.size ≤ e.1) ∧ L.Pairwise (fun a b => a.1 ≠ b.1) ∧ MF w1 L w
section
variable {w0 w1 w w' : World} {L : List Ent} {g : Nat} {T : TypeId} {cs : Array Value}
theorem MF.refl (w : World) (L : List Ent) : MF w L w := ⟨Nat.le_refl _, fun _ _ _ => rfl⟩
theorem MV.start (w : World) : MV w w [] w := ⟨Below.refl _ _, by simp, by simp, .nil, MF.refl w []⟩
theorem MV.base (h : MV w0 w1 L w) : MV w0 w L w := ⟨h.1, h.2.1, h.2.2.1, h.2.2.2.1, MF.refl w L⟩
theorem MV.get (h : MV w0 w1 L w) (hm : (g, T, cs) ∈ L) : Blk w g T cs := h.2.1 _ hm
theorem MV.alloc (h : MV w0 w1 L w) (T : TypeId) (cs : Array Value) : MV w0 w1 ((w.heap.size, T, cs) :: L) (w.alloc (.cells cs T)) := by
  obtain ⟨h1, h2, h3, h4, h5, h6⟩ := h
  refine ⟨h1.alloc h1.size _, fun e he => ?_, fun e he => ?_, .cons (fun e he => Nat.ne_of_gt (h2 e he).lt) h4, by simp; omega, fun b hb hn => ?_⟩
  · rcases List.mem_cons.1 he with rfl | he
    · exact Blk.new w _ _
    · exact (h2 e he).alloc _
  · rcases List.mem_cons.1 he with rfl | he
    · exact h1.size
    · exact h3 e he
  · rw [((Below.refl w.heap.size w).alloc (Nat.le_refl _) (.cells cs T)).block b (by omega)]
    exact h6 b hb fun e he => hn e (.tail _ he)
theorem MV.below (h : MV w0 w1 L w) (hb : Below w.heap.size w w') : MV w0 w1 L w' :=
  ⟨h.1.trans (hb.mono h.1.size), fun e he => (h.2.1 e he).below hb (h.2.1 e he).lt, h.2.2.1, h.2.2.2.1, Nat.le_trans h.2.2.2.2.1 hb.size, fun b hb' hn => by
    have := h.2.2.2.2.1
    rw [hb.block b (by omega)]
    exact h.2.2.2.2.2 b hb' hn⟩
theorem MV.skip (h : MV w0 w1 L w) (o : Obj) : MV w0 w1 L (w.alloc o) := h.below ((Below.refl w.heap.size w).alloc (Nat.le_refl _) o)
theorem MV.drew (h : MV w0 w1 L w) : MV w0 w1 L w.drew := h.below (Below.drew (Below.refl _ _))
theorem MV.sub {L' : List Ent} (h : MV w0 w1 L w) (hs : L'.Sublist L) : MV w0 w L' w :=
  ⟨h.1, fun e he => h.2.1 e (hs.mem he), fun e he => h.2.2.1 e (hs.mem he), h.2.2.2.1.sublist hs, MF.refl w L'⟩
theorem MV.root {L' : List Ent} (h : MV w0 w1 L w) (hs : L'.Sublist L) : MV w0 w0 L' w :=
  ⟨h.1, fun e he => h.2.1 e (hs.mem he), fun e he => h.2.2.1 e (hs.mem he), h.2.2.2.1.sublist hs, h.1.size, fun b hb _ => h.1.block b hb⟩
theorem subOf {L L' : List Ent} (h : List.Sublist L L' := by repeat' first | exact List.nil_sublist _ | exact .slnil | refine List.Sublist.cons_cons _ ?_ | refine List.Sublist.cons _ ?_) : List.Sublist L L' := h
theorem pwv_ne {i j : Nat} {a b : Ent} (h : L.Pairwise (fun a b => a.1 ≠ b.1)) (hi : L[i]? = some a) (hj : L[j]? = some b) (hij : i ≠ j) : a.1 ≠ b.1 := by
  obtain ⟨hi1, hi2⟩ := List.getElem?_eq_some_iff.1 hi
  obtain ⟨hj1, hj2⟩ := List.getElem?_eq_some_iff.1 hj
  rw [List.pairwise_iff_getElem] at h
  rcases Nat.lt_or_gt_of_ne hij with k | k
  · have := h i j hi1 hj1 k
    rwa [hi2, hj2] at this
  · have := h j i hj1 hi1 k
    rw [hi2, hj2] at this; exact this.symm
theorem set_fst (L : List Ent) (i : Nat) (hi : L[i]? = some (g, T, cs)) (ds : Array Value) : (L.set i (g, T, ds)).map (·.1) = L.map (·.1) := by
  refine List.ext_getElem? fun j => ?_
  rw [List.getElem?_map, List.getElem?_map, List.getElem?_set]
  by_cases k : i = j
  · subst k
    have hl := (List.getElem?_eq_some_iff.1 hi).1
    rw [if_pos rfl, if_pos hl, hi]
    rfl
  · rw [if_neg k]
/-- another world in which block g alone holds other cells -/
theorem MV.turn (h : MV w0 w1 L w) (i : Nat) (hi : L[i]? = some (g, T, cs)) (ds : Array Value) (hb : w.grownBy w' (some g)) (hg : Blk w' g T ds) : MV w0 w1 (L.set i (g, T, ds)) w' := by
  obtain ⟨h1, h2, h3, h4, h5, h6⟩ := h
  have hmem : (g, T, cs) ∈ L := List.mem_of_getElem? hi
  have hil := (List.getElem?_eq_some_iff.1 hi).1
  have hfst := set_fst L i hi ds
  refine ⟨below_grown h1 hb (h3 _ hmem) h1.size, fun e he => ?_, fun e he => ?_, ?_, Nat.le_trans h5 hb.size, fun b hb' hn => ?_⟩
  · obtain ⟨j, hj⟩ := List.mem_iff_getElem?.1 he
    rw [List.getElem?_set] at hj
    by_cases hij : i = j
    · rw [if_pos hij, if_pos (by omega)] at hj
      injection hj with hj
      subst hj
      exact hg
    · rw [if_neg hij] at hj
      have hm := List.mem_of_getElem? hj
      exact (h2 e hm).only hb (fun k => pwv_ne h4 hi hj hij k.symm)
  · rcases List.mem_or_eq_of_mem_set he with he | rfl
    · exact h3 e he
    · show w0.heap.size ≤ g; exact h3 _ hmem
  · have h7 : (L.map (·.1)).Pairwise (· ≠ ·) := List.pairwise_map.2 h4
    rw [← hfst] at h7
    exact List.pairwise_map.1 h7
  · have hm2 : ∀ e ∈ L, e.1 ≠ b := fun e he => by
      have : e.1 ∈ (L.set i (g, T, ds)).map (·.1) := by rw [hfst]; exact List.mem_map.2 ⟨e, he, rfl⟩
      obtain ⟨e', he', e2⟩ := List.mem_map.1 this
      rw [← e2]
      exact hn e' he'
    rw [hb.block b (by omega) (fun e => by injection e with e; exact hm2 _ hmem e.symm)]
    exact h6 b hb' hm2
theorem MV.put (h : MV w0 w1 L w) (i : Nat) (hi : L[i]? = some (g, T, cs)) (j : Nat) (v : Value) : MV w0 w1 (L.set i (g, T, cs.setIfInBounds j v)) (w.setCell ⟨g, j, none⟩ v) :=
  h.turn i hi _ (grown_set w g j _) ((h.get (List.mem_of_getElem? hi)).set_ j v)
theorem MV.row (h : MV w0 w1 L w) (i : Nat) (hi : L[i]? = some (g, T, cs)) (ds : Array Value) : MV w0 w1 (L.set i (g, T, ds)) (w.setRow g ds) :=
  h.turn i hi _ (grown_row w g _) (setRow_heap w g _ _ T _ (h.get (List.mem_of_getElem? hi)))
theorem MV.cell (h : MV w0 w1 L w) (hm : (g, T, cs) ∈ L) {k : Nat} {v : Value} (hk : cs[k]? = some v) : w.cell? ⟨g, k, none⟩ = some v := ((h.get hm).cell k).trans hk
theorem MV.free (h : MV w0 w1 L w) (hm : (g, T, cs) ∈ L) (k : Nat) : w.frozen? ⟨g, k, none⟩ = false := (h.get hm).frozen k
theorem MV.lt (h : MV w0 w1 L w) (hm : (g, T, cs) ∈ L) : g < w.heap.size := (h.get hm).lt
/-- bytes that lie elsewhere are as they were -/
theorem MV.rd (h : MV w0 w1 L w) {A : Option Addr} {n : Nat} {bs : List Nat} (hr : Rd w1 A n bs) (hA : ∀ ad, A = some ad → 0 < n → ∀ e ∈ L, e.1 ≠ ad.block) : Rd w A n bs :=
  ⟨hr.1, hr.2.1, fun hn => by
    obtain ⟨ad, e, hc⟩ := hr.2.2 hn
    refine ⟨ad, e, fun j x hx => ?_⟩
    have h1 := hc j x hx
    have hl := World.block_lt_of_cell? _ _ h1
    rw [block_of_add] at hl
    refine (World.cell?_of_block ?_).trans h1
    rw [block_of_add]
    exact h.2.2.2.2.2 _ hl (hA ad e hn)⟩
end
/-- an address lies in none of these blocks -/
def Apt (A : Option Addr) (n : Nat) (gs : List Nat) : Prop := ∀ ad, A = some ad → 0 < n → ∀ g ∈ gs, g ≠ ad.block
section
variable {w0 w1 w : World} {L : List Ent} {A : Option Addr} {n g : Nat} {gs : List Nat}
theorem MV.rdA (h : MV w0 w1 L w) {bs : List Nat} (hr : Rd w1 A n bs) (ha : Apt A n (L.map (·.1))) : Rd w A n bs :=
  h.rd hr fun ad e hn x hx => ha ad e hn _ (List.mem_map.2 ⟨x, hx, rfl⟩)
theorem MV.rdI (h : MV w0 w1 L w) {zs : List Int} (hr : RdI w1 A n zs) (ha : Apt A n (L.map (·.1))) : RdI w A n zs :=
  ⟨hr.1, fun hn => by
    obtain ⟨ad, e, hc⟩ := hr.2 hn
    refine ⟨ad, e, fun j x hx => ?_⟩
    have h1 := hc j x hx
    have hl := World.block_lt_of_cell? _ _ h1
    rw [block_of_add] at hl
    refine (World.cell?_of_block ?_).trans h1
    rw [block_of_add]
    exact h.2.2.2.2.2 _ hl fun x hx => ha ad e hn _ (List.mem_map.2 ⟨x, hx, rfl⟩)⟩
theorem Apt.old (h : MV w0 w1 L w) (hf : ∀ ad, A = some ad → 0 < n → w.heap.size ≤ ad.block) : Apt A n (L.map (·.1)) := fun ad e hn g hg => by
  obtain ⟨x, hx, rfl⟩ := List.mem_map.1 hg
  have := (h.2.1 x hx).lt
  have := hf ad e hn
  omega
theorem Apt.cons (ha : Apt A n gs) (hl : ∀ ad, A = some ad → 0 < n → ad.block < w.heap.size) (hg : w.heap.size ≤ g) : Apt A n (g :: gs) := fun ad e hn x hx => by
  rcases List.mem_cons.1 hx with rfl | hx
  · have := hl ad e hn
    omega
  · exact ha ad e hn x hx
theorem Apt.sub (ha : Apt A n gs) {hs : List Nat} (h : hs.Sublist gs) : Apt A n hs := fun ad e hn x hx => ha ad e hn x (h.mem hx)
theorem rd_lt {bs : List Nat} (hr : Rd w A n bs) : ∀ ad, A = some ad → 0 < n → ad.block < w.heap.size := fun ad e hn => by
  obtain ⟨ad', e', h, -⟩ := hr.at_ hn
  rw [e] at e'
  injection e' with e'
  subst e'
  exact h
theorem rdI_lt {zs : List Int} (hr : RdI w A n zs) : ∀ ad, A = some ad → 0 < n → ad.block < w.heap.size := fun ad e hn => by
  obtain ⟨ad', e', h, -⟩ := hr.at_ hn
  rw [e] at e'
  injection e' with e'
  subst e'
  exact h
end
/-- T is a type of n cells in a row, whose zero is z -/
def RowT (T : TypeId) (n : Nat) (z : Array Value) : Prop :=
  (∃ d, Try.prog.underlying T = some d ∧ d.isRow = true) ∧ (Try.prog.info? T).map (fun i => (i.zero, i.size)) = some (some (.agg z), n)
theorem Arr.row {T : TypeId} {n : Nat} (h : Arr T n) : RowT T n (icells (zr n)) := h
theorem rowT_of {T : TypeId} {n : Nat} {z : Array Value} (h1 : (Try.prog.underlying T).any TypeDesc.isRow = true) (h2 : (Try.prog.info? T).map (fun i => (i.zero, i.size)) = some (some (.agg z), n)) : RowT T n z := by
  refine ⟨?_, h2⟩
  cases hq : Try.prog.underlying T with
  | none => rw [hq] at h1; cases h1
  | some d => exact ⟨d, rfl, by rw [hq] at h1; exact h1⟩
theorem RowT.size {T : TypeId} {n : Nat} {z : Array Value} (h : RowT T n z) : (Try.prog.info? T).map (·.size) = some n := by
  obtain ⟨_, h⟩ := h
  cases hq : Try.prog.info? T with
  | none => simp [hq] at h
  | some i => simp [hq] at h; simp [h.2]
theorem RowT.zero {T : TypeId} {n : Nat} {z : Array Value} (h : RowT T n z) (w : World) : (zeroValue T).run Try.prog w = .ok (.agg z) w := by
  obtain ⟨_, h⟩ := h
  cases hq : Try.prog.info? T with
  | none => simp [hq] at h
  | some i => simp [hq] at h; simp [zeroValue, typeInfo, hq, h.1]
theorem run_load_blk {w : World} {g n : Nat} {T T0 : TypeId} {z cs : Array Value} (ha : RowT T n z) (h : Blk w g T0 cs) (hl : cs.size = n) : (loadVar T ⟨g, 0, none⟩).run Try.prog w = .ok (.agg cs) w := by
  obtain ⟨d, h1, h2⟩ := ha.1
  exact run_loadVar_row w g T0 T cs (0, 0) d h h1 (by cases d <;> first | rfl | cases h2) (by rw [ha.size, hl])
theorem run_store_blk {w : World} {g n : Nat} {T T0 : TypeId} {z cs ds : Array Value} (ha : RowT T n z) (h : Blk w g T0 cs) (hl : cs.size = n) (hl' : ds.size = n) (h1 : ds.all (·.oneCell') = true) : (storeVar T ⟨g, 0, none⟩ (.agg ds)).run Try.prog w = .ok () (w.setRow g ds) :=
  run_storeVar_row w g T0 T cs ds h (by rw [ha.size, hl']) (by rw [hl, hl']) h1
/-- a part of a row, loaded: a field that is an array of ints -/
theorem run_load_part {w : World} {g o n : Nat} {T T0 : TypeId} {z cs : Array Value} {ys : List Int} (ha : RowT T n z) (h : Blk w g T0 cs) (hy : ∀ j, j < n → cs[o + j]? = some (.int .i64 (ys.getD j 0))) (hl : ys.length = n) : (loadVar T ⟨g, o, none⟩).run Try.prog w = .ok (.agg (icells ys)) w := by
  obtain ⟨d, h1, h2⟩ := ha.1
  refine run_loadVar_mid w g o T (ys.map fun x => Value.int .i64 x) d (fun j v hv => ?_) h1 h2 (by rw [ha.size, List.length_map, hl])
  rw [List.getElem?_map] at hv
  cases hx : ys[j]? with
  | none => rw [hx] at hv; cases hv
  | some x =>
    rw [hx] at hv
    injection hv with hv
    subst hv
    have hj := (List.getElem?_eq_some_iff.1 hx).1
    rw [h.cell, hy j (by omega), List.getD_eq_getElem?_getD, hx]
    rfl
theorem vmemOf {e : Ent} {L : List Ent} (h : e ∈ L := by repeat' (first | exact .head _ | refine .tail _ ?_)) : e ∈ L := h
theorem voneOf {cs : Array Value} (h : cs.all (·.oneCell') = true := by first | exact icells_one _ | rfl | (simp; done) | simp [Value.oneCell']) : cs.all (·.oneCell') = true := h
def VNth (L : List Ent) (i : Nat) (e : Ent) : Prop := L[i]? = some e
theorem VNth.hd {e : Ent} {L : List Ent} : VNth (e :: L) 0 e := rfl
theorem VNth.tl {e x : Ent} {L : List Ent} {i : Nat} (h : VNth L i e) : VNth (x :: L) (i + 1) e := by
  unfold VNth at h ⊢; rw [List.getElem?_cons_succ]; exact h
theorem vidxOf {L : List Ent} {i : Nat} {e : Ent} (h : VNth L i e := by first | exact VNth.hd | exact VNth.tl VNth.hd | exact VNth.tl (VNth.tl VNth.hd) | exact VNth.tl (VNth.tl (VNth.tl VNth.hd)) | exact VNth.tl (VNth.tl (VNth.tl (VNth.tl VNth.hd))) | exact VNth.tl (VNth.tl (VNth.tl (VNth.tl (VNth.tl VNth.hd)))) | exact VNth.tl (VNth.tl (VNth.tl (VNth.tl (VNth.tl (VNth.tl VNth.hd))))) | exact VNth.tl (VNth.tl (VNth.tl (VNth.tl (VNth.tl (VNth.tl (VNth.tl VNth.hd)))))) | exact VNth.tl (VNth.tl (VNth.tl (VNth.tl (VNth.tl (VNth.tl (VNth.tl (VNth.tl VNth.hd)))))))) : VNth L i e := h
def dV {w0 w1 w : World} {L : List Ent} (_ : Hid (MV w0 w1 L w)) : Nat := L.length
section
variable {ops : Array Oper} {rest : List Oper} {o : Oper} {a : Act} {w w0 w1 : World} {Q : Exit → Act → World → Prop} {L : List Ent}
theorem wv_alloc (hgd : Region.wanted o (yielded ops a.tmps) = true) (T : TypeId) (ho : o.op = .alloc T) {n : Nat} {z : Array Value} (ha : RowT T n z) (hm : Hid (MV w0 w1 L w))
    (h : ∀ g w', Hid (w1.heap.size ≤ g) → Hid (MV w0 w1 ((g, T, z) :: L) w') → wpList Try.prog ops Q rest (a.put o.dst (.pointer (some ⟨g, 0, none⟩))) w') : wpList Try.prog ops Q (o :: rest) a w :=
  wl_step hgd fun K hK => by
    have hz := ha.zero w
    have := hK _ _ (h w.heap.size _ (Lib.hid hm.out.2.2.2.2.1) (Lib.hid (hm.out.alloc T z)))
    unfold Oper.wp execOp
    simp only [ho, Instr.alloc, newVar, newRow, Sem.run_bind, hz, Result.andThen, Value.cells, Sem.run_pure]
    exact this
theorem wv_box (hgd : Region.wanted o (yielded ops a.tmps) = true) (T : TypeId) (x : Operand) (ho : o.op = .box T x) {cs : Array Value} (hx : a.eval x = .agg cs) (hm : Hid (MV w0 w1 L w))
    (h : ∀ g w', Hid (w1.heap.size ≤ g) → Hid (MV w0 w1 ((g, T, cs) :: L) w') → wpList Try.prog ops Q rest (a.put o.dst (.pointer (some ⟨g, 0, none⟩))) w') : wpList Try.prog ops Q (o :: rest) a w :=
  wl_step hgd fun K hK => by
    have := hK _ _ (h w.heap.size _ (Lib.hid hm.out.2.2.2.2.1) (Lib.hid (hm.out.alloc T cs)))
    unfold Oper.wp execOp
    simp only [ho, Instr.box, newVar, newRow, Sem.run_bind, hx, Result.andThen, Value.cells, Sem.run_pure]
    exact this
theorem wv_load (hgd : Region.wanted o (yielded ops a.tmps) = true) (T : TypeId) (x : Operand) (ho : o.op = .load T x) {g n : Nat} (hx : a.eval x = .pointer (some ⟨g, 0, none⟩)) {z : Array Value} (ha : RowT T n z) {cs : Array Value} {T0 : TypeId}
    (hm : Hid (MV w0 w1 L w)) (hin : (g, T0, cs) ∈ L) (hl : Hid (cs.size = n)) (h : wpList Try.prog ops Q rest (a.put o.dst (.agg cs)) w) : wpList Try.prog ops Q (o :: rest) a w :=
  wl_step hgd fun K hK => by
    have := hK _ _ h
    unfold Oper.wp execOp
    simp only [ho, hx, Instr.loadAt, Instr.sureAddr, Sem.run_bind, Sem.run_pure, Result.andThen_ok, run_load_blk ha (hm.out.get hin) hl.out]
    exact this
/-- a load whose run is known -/
theorem wv_loadE (hgd : Region.wanted o (yielded ops a.tmps) = true) (T : TypeId) (x : Operand) (ho : o.op = .load T x) {ad : Addr} (hx : a.eval x = .pointer (some ad)) {v : Value}
    (hv : Hid ((loadVar T ad).run Try.prog w = .ok v w)) (h : wpList Try.prog ops Q rest (a.put o.dst v) w) : wpList Try.prog ops Q (o :: rest) a w :=
  wl_step hgd fun K hK => by
    have := hK _ _ h
    unfold Oper.wp execOp
    simp only [ho, hx, Instr.loadAt, Instr.sureAddr, Sem.run_bind, Sem.run_pure, Result.andThen_ok, hv.out]
    exact this
theorem wv_store (hgd : Region.wanted o (yielded ops a.tmps) = true) (T : TypeId) (x y : Operand) (ho : o.op = .store T x y) {g n : Nat} (hx : a.eval x = .pointer (some ⟨g, 0, none⟩)) {ds : Array Value} (hy : a.eval y = .agg ds) {z : Array Value} (ha : RowT T n z) {cs : Array Value} {T0 : TypeId}
    (hm : Hid (MV w0 w1 L w)) {i : Nat} (hi : VNth L i (g, T0, cs)) (hl : Hid (cs.size = n)) (hl' : Hid (ds.size = n)) (h1 : ds.all (·.oneCell') = true)
    (h : ∀ w', Hid (MV w0 w1 (L.set i (g, T0, ds)) w') → wpList Try.prog ops Q rest (a.put o.dst undef) w') : wpList Try.prog ops Q (o :: rest) a w :=
  wl_step hgd fun K hK => by
    have := hK _ _ (h _ (Lib.hid (hm.out.row i hi ds)))
    unfold Oper.wp execOp
    simp only [ho, hx, hy, Instr.storeAt, Instr.sureAddr, Sem.run_bind, Sem.run_pure, Result.andThen_ok, run_store_blk ha (hm.out.get (List.mem_of_getElem? hi)) hl.out hl'.out h1]
    exact this
end
section
variable {ops : Array Oper} {o : Oper} {a : Act} {w w0 w1 : World} {Q : Exit → Act → World → Prop} {K : Act → World → Prop} {L : List Ent} {S : World → Prop}
/-- a load whose run is known in every world that S allows: it may be taken first -/
theorem yv_load (hw : Region.wanted o (yielded ops a.tmps) = true) (T : TypeId) (x : Operand) (ho : o.op = .load T x) {ad : Addr} (hx : a.eval x = .pointer (some ad)) {v : Value}
    (hS : ∀ u, S u → (loadVar T ad).run Try.prog u = .ok v u) : YieldsIf Try.prog ops S o v a :=
  .inl ⟨hw, fun u hu => by
    unfold execOp
    simp only [ho, hx, Instr.loadAt, Instr.sureAddr, Sem.run_bind, Sem.run_pure, Result.andThen_ok, hS u hu]⟩
theorem ov_load (T : TypeId) (x : Operand) (ho : o.op = .load T x) {ad : Addr} (hx : a.eval x = .pointer (some ad)) {v : Value} (hv : (loadVar T ad).run Try.prog w = .ok v w) (h : K (a.put o.dst v) w) : o.wp Try.prog a w K Q := by
  unfold Oper.wp execOp
  simp only [ho, hx, Instr.loadAt, Instr.sureAddr, Sem.run_bind, Sem.run_pure, Result.andThen_ok, hv]
  exact h
theorem ov_alloc (T : TypeId) (ho : o.op = .alloc T) {d : Nat} (hd : o.dst = some d) {n : Nat} {z : Array Value} (ha : RowT T n z) (hm : Hid (MV w0 w1 L w))
    (h : ∀ g w', Hid (MV w0 w1 ((g, T, z) :: L) w') → Hid (Below w.heap.size w w') → Hid (w.heap.size ≤ g) → K (a.put (some d) (.pointer (some ⟨g, 0, none⟩))) w') : o.wp Try.prog a w K Q := by
  rw [← hd] at h
  have hz := ha.zero w
  have := h w.heap.size _ (Lib.hid (hm.out.alloc T z)) (Lib.hid ((Below.refl w.heap.size w).alloc (Nat.le_refl _) _)) (Lib.hid (Nat.le_refl _))
  unfold Oper.wp execOp
  simp only [ho, Instr.alloc, newVar, newRow, Sem.run_bind, hz, Result.andThen, Value.cells, Sem.run_pure]
  exact this
theorem ov_store (T : TypeId) (x y : Operand) (ho : o.op = .store T x y) {g n : Nat} (hx : a.eval x = .pointer (some ⟨g, 0, none⟩)) {ds : Array Value} (hy : a.eval y = .agg ds) {z : Array Value} (ha : RowT T n z) {cs : Array Value} {T0 : TypeId}
    (hm : Hid (MV w0 w1 L w)) {i : Nat} (hi : VNth L i (g, T0, cs)) (hl : Hid (cs.size = n)) (hl' : Hid (ds.size = n)) (h1 : ds.all (·.oneCell') = true)
    (hd : o.dst = none) (h : ∀ w', Hid (MV w0 w1 (L.set i (g, T0, ds)) w') → K (a.put none undef) w') : o.wp Try.prog a w K Q := by
  rw [← hd] at h
  have := h _ (Lib.hid (hm.out.row i hi ds))
  unfold Oper.wp execOp
  simp only [ho, hx, hy, Instr.storeAt, Instr.sureAddr, Sem.run_bind, Sem.run_pure, Result.andThen_ok, run_store_blk ha (hm.out.get (List.mem_of_getElem? hi)) hl.out hl'.out h1]
  exact this
end
theorem run_store_int {w : World} {ad : Addr} {old : Value} {x : Int} (hc : w.cell? ad = some old) (hf : w.frozen? ad = false) : (storeVar 3 ad (.int .i64 x)).run Try.prog w = .ok () (w.setCell ad (.int .i64 x)) := by
  have h1 := arn_elem w
  simp [storeVar, storeCells, Value.cells, go_sem, h1, run_store, Value.oneCell', hc, hf]
theorem run_load_int {w : World} {ad : Addr} {v : Int} (hc : w.cell? ad = some (.int .i64 v)) : (loadVar 3 ad).run Try.prog w = .ok (.int .i64 v) w := by
  have hg : (isAgg 3).run Try.prog w = .ok false w := by kernel_rfl
  simp only [loadVar, hg, Sem.run_bind, Result.andThen_ok, run_load, hc, Bool.false_eq_true, if_false]
section
variable {ops : Array Oper} {rest : List Oper} {o : Oper} {a : Act} {w w0 w1 : World} {Q : Exit → Act → World → Prop} {L : List Ent}
/-- an element of a row of ints, loaded -/
theorem wv_elem (hgd : Region.wanted o (yielded ops a.tmps) = true) (x : Operand) (ho : o.op = .load 3 x) {g k : Nat} (hx : a.eval x = .pointer (some ⟨g, k, none⟩)) (hm : Hid (MV w0 w1 L w)) {T : TypeId} {xs : List Int} (hin : (g, T, icells xs) ∈ L) {v : Int} (hv : Hid (k < xs.length ∧ xs.getD k 0 = v))
    (h : wpList Try.prog ops Q rest (a.put o.dst (.int .i64 v)) w) : wpList Try.prog ops Q (o :: rest) a w :=
  wl_step hgd fun K hK => by
    have := hK _ _ h
    have hc := blk_at (hm.out.get hin) hv.out.1
    rw [hv.out.2] at hc
    unfold Oper.wp execOp
    simp only [ho, hx, Instr.loadAt, Instr.sureAddr, Sem.run_bind, Sem.run_pure, Result.andThen_ok, run_load_int hc]
    exact this
/-- an element of a row of ints, stored -/
theorem wv_put (hgd : Region.wanted o (yielded ops a.tmps) = true) (x y : Operand) (ho : o.op = .store 3 x y) {g k : Nat} (hx : a.eval x = .pointer (some ⟨g, k, none⟩)) {v : Int} (hy : a.eval y = .int .i64 v) (hm : Hid (MV w0 w1 L w)) {i : Nat} {T : TypeId} {xs : List Int} (hi : VNth L i (g, T, icells xs)) (hv : Hid (k < xs.length))
    (h : ∀ w', Hid (MV w0 w1 (L.set i (g, T, icells (xs.set k v))) w') → wpList Try.prog ops Q rest (a.put o.dst undef) w') : wpList Try.prog ops Q (o :: rest) a w :=
  wl_step hgd fun K hK => by
    have hb := hm.out.get (List.mem_of_getElem? hi)
    have h2 := hm.out.put i hi k (.int .i64 v)
    rw [icells_set] at h2
    have := hK _ _ (h _ (Lib.hid h2))
    unfold Oper.wp execOp
    simp only [ho, hx, hy, Instr.storeAt, Instr.sureAddr, Sem.run_bind, Sem.run_pure, Result.andThen_ok, run_store_int (blk_at hb hv.out) (hb.frozen k)]
    exact this
end
theorem vres_two {fn : Func} {p u : Tmp} {ty : TypeId} (h : fn.results = #[.cell p ty, .tmp u]) (tmps : Array Value) {w w0 w1 : World} {L : List Ent} {g n : Nat} {z cs : Array Value} {T0 : TypeId} {v : Value}
    (hp : tmps.getD p undef = .pointer (some ⟨g, 0, none⟩)) (hv : tmps.getD u undef = v) (ha : RowT ty n z) (hm : Hid (MV w0 w1 L w)) (hin : (g, T0, cs) ∈ L) (hl : Hid (cs.size = n)) :
    (results fn tmps).run Try.prog w = .ok (.tuple #[.agg cs, v]) w := by
  rw [results_cell_tmp h, hp, hv]
  simp only [asAddr, Sem.run_pure, Result.andThen_ok, run_load_blk ha (hm.out.get hin) hl.out]
theorem velOf {xs : List Int} {k : Nat} {v : Int} (h : Hid (k < xs.length ∧ xs.getD k 0 = v) := by with_reducible assumption) : Hid (k < xs.length ∧ xs.getD k 0 = v) := h
theorem vltOf {k n : Nat} (h : Hid (k < n) := by with_reducible assumption) : Hid (k < n) := h
/-- values of T lie in one cell -/
def OneT (T : TypeId) : Prop := (∀ w, (isAgg T).run Try.prog w = .ok false w) ∧ ∀ w, (sizeOf T).run Try.prog w = .ok 1 w
theorem oneInt : OneT 3 := ⟨fun w => by kernel_rfl, fun w => by kernel_rfl⟩
theorem oneBool : OneT 4 := ⟨fun w => by kernel_rfl, fun w => by kernel_rfl⟩
theorem onePacks : OneT 22 := ⟨fun w => by kernel_rfl, fun w => by kernel_rfl⟩
theorem oneBytes : OneT 41 := ⟨fun w => by kernel_rfl, fun w => by kernel_rfl⟩
theorem oneInts : OneT 35 := ⟨fun w => by kernel_rfl, fun w => by kernel_rfl⟩
theorem oneOf {T : TypeId} (h : OneT T := by first | exact oneInt | exact oneBool | exact onePacks | exact oneBytes | exact oneInts) : OneT T := h
theorem rowPk : RowT 46 2 #[.int .i64 0, .slice none 0 0] := rowT_of (by kernel_rfl) (by kernel_rfl)
theorem rowJt : RowT 24 5 #[.bool false, .int .i64 0, .int .i64 0, .int .i64 0, .slice none 0 0] := rowT_of (by kernel_rfl) (by kernel_rfl)
theorem rowNum : RowT 54 3 #[.int .i64 0, .int .i64 0, .int .i64 0] := rowT_of (by kernel_rfl) (by kernel_rfl)
theorem rowOf {T : TypeId} {n : Nat} {z : Array Value} (h : RowT T n z := by first | exact rowPk | exact rowJt | exact rowNum) : RowT T n z := h
theorem vsizOf {cs : Array Value} {n : Nat} (h : Hid (cs.size = n) := by first | exact Lib.hid rfl | with_reducible assumption) : Hid (cs.size = n) := h
theorem run_load_one {w : World} {T : TypeId} {ad : Addr} {v : Value} (hT : OneT T) (hc : w.cell? ad = some v) : (loadVar T ad).run Try.prog w = .ok v w := by
  simp only [loadVar, hT.1 w, Sem.run_bind, Result.andThen_ok, run_load, hc, Bool.false_eq_true, if_false]
theorem run_store_one {w : World} {T : TypeId} {ad : Addr} {old v : Value} (hT : OneT T) (hv : v.cells = #[v]) (h1 : v.oneCell' = true) (hc : w.cell? ad = some old) (hf : w.frozen? ad = false) : (storeVar T ad v).run Try.prog w = .ok () (w.setCell ad v) := by
  have h1' := hT.2 w
  unfold storeVar
  rw [hv]
  simp [storeCells, go_sem, h1', run_store, h1, hc, hf]
theorem vgetOf {cs : Array Value} {k : Nat} {v : Value} (h : cs[k]? = some v := by first | rfl | with_reducible assumption) : cs[k]? = some v := h
section
variable {ops : Array Oper} {rest : List Oper} {o : Oper} {a : Act} {w w0 w1 : World} {Q : Exit → Act → World → Prop} {L : List Ent}
/-- one cell of a block, loaded -/
theorem wv_ldC (hgd : Region.wanted o (yielded ops a.tmps) = true) (T : TypeId) (x : Operand) (ho : o.op = .load T x) {g k : Nat} (hx : a.eval x = .pointer (some ⟨g, k, none⟩)) (hT : OneT T) (hm : Hid (MV w0 w1 L w)) {T0 : TypeId} {cs : Array Value} (hin : (g, T0, cs) ∈ L) {v : Value} (hv : cs[k]? = some v)
    (h : wpList Try.prog ops Q rest (a.put o.dst v) w) : wpList Try.prog ops Q (o :: rest) a w :=
  wl_step hgd fun K hK => by
    have := hK _ _ h
    unfold Oper.wp execOp
    simp only [ho, hx, Instr.loadAt, Instr.sureAddr, Sem.run_bind, Sem.run_pure, Result.andThen_ok, run_load_one hT (hm.out.cell hin hv)]
    exact this
/-- one cell of a block, stored -/
theorem wv_stC (hgd : Region.wanted o (yielded ops a.tmps) = true) (T : TypeId) (x y : Operand) (ho : o.op = .store T x y) {g k : Nat} (hx : a.eval x = .pointer (some ⟨g, k, none⟩)) {v : Value} (hy : a.eval y = v) (hT : OneT T) (hvc : v.cells = #[v]) (hv1 : v.oneCell' = true) (hm : Hid (MV w0 w1 L w)) {i : Nat} {T0 : TypeId} {cs : Array Value} (hi : VNth L i (g, T0, cs)) {u : Value} (hk : cs[k]? = some u)
    (h : ∀ w', Hid (MV w0 w1 (L.set i (g, T0, cs.setIfInBounds k v)) w') → wpList Try.prog ops Q rest (a.put o.dst undef) w') : wpList Try.prog ops Q (o :: rest) a w :=
  wl_step hgd fun K hK => by
    have hb := hm.out.get (List.mem_of_getElem? hi)
    have := hK _ _ (h _ (Lib.hid (hm.out.put i hi k v)))
    unfold Oper.wp execOp
    simp only [ho, hx, hy, Instr.storeAt, Instr.sureAddr, Sem.run_bind, Sem.run_pure, Result.andThen_ok, run_store_one hT hvc hv1 ((hb.cell k).trans hk) (hb.frozen k)]
    exact this
theorem wv_stI (hgd : Region.wanted o (yielded ops a.tmps) = true) (T : TypeId) (x y : Operand) (ho : o.op = .store T x y) {g k : Nat} (hx : a.eval x = .pointer (some ⟨g, k, none⟩)) {k0 : IntKind} {v : Int} (hy : a.eval y = .int k0 v) (hT : OneT T) (hm : Hid (MV w0 w1 L w)) {i : Nat} {T0 : TypeId} {cs : Array Value} (hi : VNth L i (g, T0, cs)) {u : Value} (hk : cs[k]? = some u)
    (h : ∀ w', Hid (MV w0 w1 (L.set i (g, T0, cs.setIfInBounds k (.int k0 v))) w') → wpList Try.prog ops Q rest (a.put o.dst undef) w') : wpList Try.prog ops Q (o :: rest) a w :=
  wv_stC hgd T x y ho hx hy hT rfl rfl hm hi hk h
theorem wv_stB (hgd : Region.wanted o (yielded ops a.tmps) = true) (T : TypeId) (x y : Operand) (ho : o.op = .store T x y) {g k : Nat} (hx : a.eval x = .pointer (some ⟨g, k, none⟩)) {v : Bool} (hy : a.eval y = .bool v) (hT : OneT T) (hm : Hid (MV w0 w1 L w)) {i : Nat} {T0 : TypeId} {cs : Array Value} (hi : VNth L i (g, T0, cs)) {u : Value} (hk : cs[k]? = some u)
    (h : ∀ w', Hid (MV w0 w1 (L.set i (g, T0, cs.setIfInBounds k (.bool v))) w') → wpList Try.prog ops Q rest (a.put o.dst undef) w') : wpList Try.prog ops Q (o :: rest) a w :=
  wv_stC hgd T x y ho hx hy hT rfl rfl hm hi hk h
theorem wv_stS (hgd : Region.wanted o (yielded ops a.tmps) = true) (T : TypeId) (x y : Operand) (ho : o.op = .store T x y) {g k : Nat} (hx : a.eval x = .pointer (some ⟨g, k, none⟩)) {A : Option Addr} {n c : Nat} (hy : a.eval y = .slice A n c) (hT : OneT T) (hm : Hid (MV w0 w1 L w)) {i : Nat} {T0 : TypeId} {cs : Array Value} (hi : VNth L i (g, T0, cs)) {u : Value} (hk : cs[k]? = some u)
    (h : ∀ w', Hid (MV w0 w1 (L.set i (g, T0, cs.setIfInBounds k (.slice A n c))) w') → wpList Try.prog ops Q rest (a.put o.dst undef) w') : wpList Try.prog ops Q (o :: rest) a w :=
  wv_stC hgd T x y ho hx hy hT rfl rfl hm hi hk h
/-- a value of one cell, boxed -/
theorem wv_boxV (hgd : Region.wanted o (yielded ops a.tmps) = true) (T : TypeId) (x : Operand) (ho : o.op = .box T x) {v : Value} (hx : a.eval x = v) (hv : v.cells = #[v]) (hm : Hid (MV w0 w1 L w))
    (h : ∀ g w', Hid (w1.heap.size ≤ g) → Hid (MV w0 w1 ((g, T, #[v]) :: L) w') → wpList Try.prog ops Q rest (a.put o.dst (.pointer (some ⟨g, 0, none⟩))) w') : wpList Try.prog ops Q (o :: rest) a w :=
  wl_step hgd fun K hK => by
    have := hK _ _ (h w.heap.size _ (Lib.hid hm.out.2.2.2.2.1) (Lib.hid (hm.out.alloc T #[v])))
    unfold Oper.wp execOp
    simp only [ho, Instr.box, newVar, newRow, Sem.run_bind, hx, hv, Result.andThen, Sem.run_pure]
    exact this
end
theorem vres_one {fn : Func} {p : Tmp} {ty : TypeId} (h : fn.results = #[.cell p ty]) (tmps : Array Value) {w w0 w1 : World} {L : List Ent} {g n : Nat} {z cs : Array Value} {T0 : TypeId}
    (hp : tmps.getD p undef = .pointer (some ⟨g, 0, none⟩)) (ha : RowT ty n z) (hm : Hid (MV w0 w1 L w)) (hin : (g, T0, cs) ∈ L) (hl : Hid (cs.size = n)) : (results fn tmps).run Try.prog w = .ok (.agg cs) w := by
  obtain ⟨d, h1, h2⟩ := ha.1
  exact results_cell_row h tmps w g T0 cs (0, 0) d hp (hm.out.get hin) h1 (by cases d <;> first | rfl | cases h2) (by rw [ha.size, hl.out])
theorem vres_three {fn : Func} {p u v : Tmp} {ty : TypeId} (h : fn.results = #[.cell p ty, .tmp u, .tmp v]) (tmps : Array Value) {w w0 w1 : World} {L : List Ent} {g n : Nat} {z cs : Array Value} {T0 : TypeId} {x y : Value}
    (hp : tmps.getD p undef = .pointer (some ⟨g, 0, none⟩)) (hu : tmps.getD u undef = x) (hv : tmps.getD v undef = y) (ha : RowT ty n z) (hm : Hid (MV w0 w1 L w)) (hin : (g, T0, cs) ∈ L) (hl : Hid (cs.size = n)) :
    (results fn tmps).run Try.prog w = .ok (.tuple #[.agg cs, x, y]) w := by
  have hp' : tmps[p]?.getD undef = .pointer (some ⟨g, 0, none⟩) := by simpa using hp
  have hu' : tmps[u]?.getD undef = x := by simpa using hu
  have hv' : tmps[v]?.getD undef = y := by simpa using hv
  simp [results, h, hp', hu', hv', asAddr, Sem.run_bind, Result.andThen, run_load_blk ha (hm.out.get hin) hl.out]
theorem vres_four {fn : Func} {p u v t : Tmp} {ty : TypeId} (h : fn.results = #[.cell p ty, .tmp u, .tmp v, .tmp t]) (tmps : Array Value) {w w0 w1 : World} {L : List Ent} {g n : Nat} {z cs : Array Value} {T0 : TypeId} {x y q : Value}
    (hp : tmps.getD p undef = .pointer (some ⟨g, 0, none⟩)) (hu : tmps.getD u undef = x) (hv : tmps.getD v undef = y) (ht : tmps.getD t undef = q) (ha : RowT ty n z) (hm : Hid (MV w0 w1 L w)) (hin : (g, T0, cs) ∈ L) (hl : Hid (cs.size = n)) :
    (results fn tmps).run Try.prog w = .ok (.tuple #[.agg cs, x, y, q]) w := by
  have hp' : tmps[p]?.getD undef = .pointer (some ⟨g, 0, none⟩) := by simpa using hp
  have hu' : tmps[u]?.getD undef = x := by simpa using hu
  have hv' : tmps[v]?.getD undef = y := by simpa using hv
  have ht' : tmps[t]?.getD undef = q := by simpa using ht
  simp [results, h, hp', hu', hv', ht', asAddr, Sem.run_bind, Result.andThen, run_load_blk ha (hm.out.get hin) hl.out]
/-- a load, a store, a new block: each a law with a default script; what is left is the rest of the walk -/
theorem jL {r p : Prop} (k : r) (h : Arm r → p := by intro hk; show wpList _ _ _ ({ dst := _, op := Op.load _ _, type := _, pos := _, after := _, guard := _ } :: _) _ _; (first | (refine wv_load (by rfl) _ _ rfl rfl (by exact rowOf) HM (by exact vmemOf) (by exact vsizOf) ?_) | (refine wv_ldC (by rfl) _ _ rfl rfl (by exact oneOf) HM (by exact vmemOf) (by exact vgetOf) ?_)); exact hk.out) : p := h ⟨k⟩
theorem jS {r p : Prop} (k : r) (h : Arm r → p := by intro hk; show wpList _ _ _ ({ dst := _, op := Op.store _ _ _, type := _, pos := _, after := _, guard := _ } :: _) _ _; (first | (refine wv_store (by rfl) _ _ _ rfl rfl rfl (by exact rowOf) HM (by exact vidxOf) (by exact vsizOf) (by exact vsizOf) (by exact voneOf) ?_) | (refine wv_stI (by rfl) _ _ _ rfl rfl rfl (by exact oneOf) HM (by exact vidxOf) (by exact vgetOf) ?_) | (refine wv_stB (by rfl) _ _ _ rfl rfl rfl (by exact oneOf) HM (by exact vidxOf) (by exact vgetOf) ?_) | (refine wv_stS (by rfl) _ _ _ rfl rfl rfl (by exact oneOf) HM (by exact vidxOf) (by exact vgetOf) ?_)); exact hk.out) : p := h ⟨k⟩
theorem jN {r p : Prop} (k : r) (h : Arm r → p := by intro hk; (first | (refine wv_box (by rfl) _ _ rfl rfl HM ?_) | (refine wv_alloc (by rfl) _ rfl (by exact rowOf) HM ?_) | (refine wv_boxV (v := .int .i64 _) (by rfl) _ _ rfl rfl rfl HM ?_)); exact hk.out) : p := h ⟨k⟩
end Go.Proofs.Ytffapinabidkiaa.Lp
