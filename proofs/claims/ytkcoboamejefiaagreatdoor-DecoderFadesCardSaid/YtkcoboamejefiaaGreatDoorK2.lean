/-
  Own texts, laid together: ML, MN, Cm, Bb, Ca, Cb, Cd, Ce, CG, Gj, Fb.
-/
import Derived.Test.YtkcoboamejefiaaGreatDoorK1
set_option maxHeartbeats 8000000
set_option linter.unusedSimpArgs false
set_option linter.unusedVariables false
set_option maxRecDepth 100000
namespace Go.Proofs.YtkcoboamejefiaaGreatDoor.Lp
open Go.RowKit Fx Fq Tb
def Mem (w0 : World) (L : List (Nat × TypeId × List Int)) (w : World) : Prop :=
 Below w0.heap.size w0 w ∧ (∀ e ∈ L, Blk w e.1 e.2.1 (icells e.2.2)) ∧ (∀ e ∈ L, w0.heap.size ≤ e.1) ∧ L.Pairwise (fun a b => a.1 ≠ b.1)
section
variable {w0 w w' : World} {L : List (Nat × TypeId × List Int)} {g : Nat} {T : TypeId} {xs : List Int}
theorem Mem.start (w : World) : Mem w [] w := ⟨Below.refl _ _, by simp, by simp, .nil⟩
theorem Mem.get (h : Mem w0 L w) (hm : (g, T, xs) ∈ L) : Blk w g T (icells xs) := h.2.1 _ hm
theorem Mem.alloc (h : Mem w0 L w) (T : TypeId) (xs : List Int) : Mem w0 ((w.heap.size, T, xs) :: L) (w.alloc (.cells (icells xs) T)) := by
 obtain ⟨h1, h2, h3, h4⟩ := h
 refine ⟨h1.alloc h1.size _, fun e he => ?_, fun e he => ?_, .cons (fun e he => Nat.ne_of_gt (h2 e he).lt) h4⟩
 ·rcases List.mem_cons.1 he with rfl | he
  ·exact Blk.new w _ _
  ·exact (h2 e he).alloc _
 ·rcases List.mem_cons.1 he with rfl | he
  ·exact h1.size
  ·exact h3 e he
theorem Mem.below (h : Mem w0 L w) (hb : Below w.heap.size w w') : Mem w0 L w' :=
 ⟨h.1.trans (hb.mono h.1.size), fun e he => (h.2.1 e he).below hb (h.2.1 e he).lt, h.2.2.1, h.2.2.2⟩
theorem Mem.drew (h : Mem w0 L w) : Mem w0 L w.drew := ⟨⟨h.1.os, h.1.tape, h.1.output, h.1.size, h.1.block⟩, h.2.1, h.2.2⟩
theorem Mem.drewN (h : Mem w0 L w) (n : Nat) : Mem w0 L (w.drewN n) := ⟨below_drewN h.1 n, h.2.1, h.2.2⟩
theorem Mem.tail {e : Nat × TypeId × List Int} (h : Mem w0 (e :: L) w) : Mem w0 L w :=
 ⟨h.1, fun e he => h.2.1 e (.tail _ he), fun e he => h.2.2.1 e (.tail _ he), (List.pairwise_cons.1 h.2.2.2).2⟩
theorem Mem.sub {L' : List (Nat × TypeId × List Int)} (h : Mem w0 L w) (hs : L'.Sublist L) : Mem w0 L' w :=
 ⟨h.1, fun e he => h.2.1 e (hs.mem he), fun e he => h.2.2.1 e (hs.mem he), h.2.2.2.sublist hs⟩
theorem pw_ne {i j : Nat} {a b : Nat × TypeId × List Int} (h : L.Pairwise (fun a b => a.1 ≠ b.1)) (hi : L[i]? = some a) (hj : L[j]? = some b) (hij : i ≠ j) : a.1 ≠ b.1 := by
 obtain ⟨hi1, hi2⟩ := List.getElem?_eq_some_iff.1 hi
 obtain ⟨hj1, hj2⟩ := List.getElem?_eq_some_iff.1 hj
 rw [List.pairwise_iff_getElem] at h
 rcases Nat.lt_or_gt_of_ne hij with k | k
 ·have := h i j hi1 hj1 k
  rwa [hi2, hj2] at this
 ·have := h j i hj1 hi1 k
  rw [hi2, hj2] at this; exact this.symm
theorem Mem.turn (h : Mem w0 L w) (i : Nat) (hi : L[i]? = some (g, T, xs)) (ys : List Int) (hb : w.grownBy w' (some g)) (hg : Blk w' g T (icells ys)) : Mem w0 (L.set i (g, T, ys)) w' := by
 obtain ⟨h1, h2, h3, h4⟩ := h
 have hmem : (g, T, xs) ∈ L := List.mem_of_getElem? hi
 have hil := (List.getElem?_eq_some_iff.1 hi).1
 refine ⟨below_grown h1 hb (h3 _ hmem) h1.size, fun e he => ?_, fun e he => ?_, ?_⟩
 ·obtain ⟨j, hj⟩ := List.mem_iff_getElem?.1 he
  rw [List.getElem?_set] at hj
  by_cases hij : i = j
  ·rw [if_pos hij, if_pos (by omega)] at hj
   injection hj with hj
   subst hj
   exact hg
  ·rw [if_neg hij] at hj
   have hm := List.mem_of_getElem? hj
   exact (h2 e hm).only hb (fun k => pw_ne h4 hi hj hij k.symm)
 ·rcases List.mem_or_eq_of_mem_set he with he | rfl
  ·exact h3 e he
  ·show w0.heap.size ≤ g; exact h3 _ hmem
 ·rw [List.pairwise_iff_getElem] at h4 ⊢
  intro a b ha hb' hab
  have e1 : ((L.set i (g, T, ys))[a]).1 = (L[a]'(by simpa using ha)).1 := by
   rw [List.getElem_set]
   by_cases k : i = a
   ·subst k
    rw [if_pos rfl]
    have := (List.getElem?_eq_some_iff.1 hi).2
    rw [this]
   ·rw [if_neg k]
  have e2 : ((L.set i (g, T, ys))[b]).1 = (L[b]'(by simpa using hb')).1 := by
   rw [List.getElem_set]
   by_cases k : i = b
   ·subst k
    rw [if_pos rfl]
    have := (List.getElem?_eq_some_iff.1 hi).2
    rw [this]
   ·rw [if_neg k]
  rw [e1, e2]
  exact h4 a b _ _ hab
theorem grown_set (w : World) (g j : Nat) (v : Value) : w.grownBy (w.setCell ⟨g, j, none⟩ v) (some g) := only_setCell (only_of_below (Below.refl _ _) _) (.inl rfl) _
theorem grown_row (w : World) (g : Nat) (cs : Array Value) : w.grownBy (w.setRow g cs) (some g) :=
 ⟨rfl, rfl, rfl, by simp, fun i _ hne => setRow_other w g i cs (fun e => hne (by rw [e]))⟩
theorem Mem.put (h : Mem w0 L w) (i : Nat) (hi : L[i]? = some (g, T, xs)) (j : Nat) (v : Int) : Mem w0 (L.set i (g, T, xs.set j v)) (w.setCell ⟨g, j, none⟩ (.int .i64 v)) :=
 h.turn i hi _ (grown_set w g j _) (blk_put (h.get (List.mem_of_getElem? hi)) j v)
theorem Mem.row (h : Mem w0 L w) (i : Nat) (hi : L[i]? = some (g, T, xs)) (ys : List Int) : Mem w0 (L.set i (g, T, ys)) (w.setRow g (icells ys)) :=
 h.turn i hi _ (grown_row w g _) (setRow_heap w g _ _ T _ (h.get (List.mem_of_getElem? hi)))
theorem Mem.rd (h : Mem w0 L w) (hm : (g, T, xs) ∈ L) {n : Nat} (hn : xs.length = n) : RdI w (some ⟨g, 0, none⟩) n xs := RdI.of_blk (h.get hm) hn
theorem Mem.cell (h : Mem w0 L w) (hm : (g, T, xs) ∈ L) {k : Nat} (hk : k < xs.length) : w.cell? ⟨g, k, none⟩ = some (.int .i64 (xs.getD k 0)) := blk_at (h.get hm) hk
theorem Mem.free (h : Mem w0 L w) (hm : (g, T, xs) ∈ L) (k : Nat) : w.frozen? ⟨g, k, none⟩ = false := (h.get hm).frozen k
end
def zr (n : Nat) : List Int := List.replicate n 0
theorem zr_length (n : Nat) : (zr n).length = n := List.length_replicate
def Arr (T : TypeId) (n : Nat) : Prop :=
 (∃ d, Tryz.prog.underlying T = some d ∧ d.isRow = true) ∧ (Tryz.prog.info? T).map (fun i => (i.zero, i.size)) = some (some (.agg (icells (zr n))), n)
theorem Arr.size {T : TypeId} {n : Nat} (h : Arr T n) : (Tryz.prog.info? T).map (·.size) = some n := by
 obtain ⟨_, h⟩ := h
 cases hq : Tryz.prog.info? T with
 | none => simp [hq] at h
 | some i => simp [hq] at h; simp [h.2]
theorem Arr.zero {T : TypeId} {n : Nat} (h : Arr T n) (w : World) : (zeroValue T).run Tryz.prog w = .ok (.agg (icells (zr n))) w := by
 obtain ⟨_, h⟩ := h
 cases hq : Tryz.prog.info? T with
 | none => simp [hq] at h
 | some i => simp [hq] at h; simp [zeroValue, typeInfo, hq, h.1]
theorem icells_one (xs : List Int) : (icells xs).all (·.oneCell') = true :=
 Array.all_eq_true_iff_forall_mem.2 (fun v hv => by
  simp only [icells, List.mem_toArray, List.mem_map] at hv
  obtain ⟨x, -, rfl⟩ := hv
  rfl)
theorem arrPcm : Arr 41 16 := ⟨⟨.array 16 3, by kernel_rfl, rfl⟩, by kernel_rfl⟩
theorem arrSpec : Arr 89 16 := ⟨⟨.array 16 3, by kernel_rfl, rfl⟩, by kernel_rfl⟩
theorem arrTail : Arr 23 16 := ⟨⟨.array 16 3, by kernel_rfl, rfl⟩, by kernel_rfl⟩
theorem arrWave : Arr 85 32 := ⟨⟨.array 32 3, by kernel_rfl, rfl⟩, by kernel_rfl⟩
theorem arrRound : Arr 172 256 := by
 have h : (Tryz.prog.underlying 172).any TypeDesc.isRow = true := by kernel_rfl
 refine ⟨?_, by kernel_rfl⟩
 cases hq : Tryz.prog.underlying 172 with
 | none => rw [hq] at h; cases h
 | some d => exact ⟨d, rfl, by rw [hq] at h; exact h⟩
section
variable {ops : Array Oper} {rest : List Oper} {o : Oper} {a : Act} {w w0 : World} {Q : Exit → Act → World → Prop} {L : List (Nat × TypeId × List Int)}
theorem wl_step (hgd : Region.wanted o (yielded ops a.tmps) = true) (h : ∀ K : Act → World → Prop, (∀ a w, wpList Tryz.prog ops Q rest a w → K a w) → o.wp Tryz.prog a w K Q) : wpList Tryz.prog ops Q (o :: rest) a w :=
 wpList_step fun K hK => by rw [if_pos hgd]; exact h K hK
theorem wl_alloc (hgd : Region.wanted o (yielded ops a.tmps) = true) (T : TypeId) (ho : o.op = .alloc T) {n : Nat} (ha : Arr T n) (hm : Hid (Mem w0 L w))
  (h : ∀ g w', Hid (Mem w0 ((g, T, zr n) :: L) w') → wpList Tryz.prog ops Q rest (a.put o.dst (.pointer (some ⟨g, 0, none⟩))) w') : wpList Tryz.prog ops Q (o :: rest) a w :=
 wl_step hgd fun K hK => by
  have hz := ha.zero w
  have := hK _ _ (h w.heap.size _ (Lib.hid (hm.out.alloc T (zr n))))
  unfold Oper.wp execOp
  simp only [ho, Instr.alloc, newVar, newRow, Sem.run_bind, hz, Result.andThen, Value.cells, Sem.run_pure]
  exact this
theorem wl_box (hgd : Region.wanted o (yielded ops a.tmps) = true) (T : TypeId) (x : Operand) (ho : o.op = .box T x) {xs : List Int} (hx : a.eval x = .agg (icells xs)) (hm : Hid (Mem w0 L w))
  (h : ∀ g w', Hid (Mem w0 ((g, T, xs) :: L) w') → wpList Tryz.prog ops Q rest (a.put o.dst (.pointer (some ⟨g, 0, none⟩))) w') : wpList Tryz.prog ops Q (o :: rest) a w :=
 wl_step hgd fun K hK => by
  have := hK _ _ (h w.heap.size _ (Lib.hid (hm.out.alloc T xs)))
  unfold Oper.wp execOp
  simp only [ho, Instr.box, newVar, newRow, Sem.run_bind, hx, Result.andThen, Value.cells, Sem.run_pure]
  exact this
theorem run_load_mem {g n : Nat} {T : TypeId} {xs : List Int} (ha : Arr T n) (hm : Mem w0 L w) (hin : (g, T, xs) ∈ L) (hl : xs.length = n) : (loadVar T ⟨g, 0, none⟩).run Tryz.prog w = .ok (.agg (icells xs)) w := by
 obtain ⟨d, h1, h2⟩ := ha.1
 exact run_loadVar_row w g T T (icells xs) (0, 0) d (hm.get hin) h1 (by cases d <;> first | rfl | cases h2) (by rw [ha.size, icells_size, hl])
theorem wl_load (hgd : Region.wanted o (yielded ops a.tmps) = true) (T : TypeId) (x : Operand) (ho : o.op = .load T x) {g n : Nat} (hx : a.eval x = .pointer (some ⟨g, 0, none⟩)) (ha : Arr T n) {xs : List Int} (hm : Hid (Mem w0 L w))
  (hin : (g, T, xs) ∈ L) (hl : Hid (xs.length = n)) (h : wpList Tryz.prog ops Q rest (a.put o.dst (.agg (icells xs))) w) : wpList Tryz.prog ops Q (o :: rest) a w :=
 wl_step hgd fun K hK => by
  have := hK _ _ h
  unfold Oper.wp execOp
  simp only [ho, hx, Instr.loadAt, Instr.sureAddr, Sem.run_bind, Sem.run_pure, Result.andThen_ok, run_load_mem ha hm.out hin hl.out]
  exact this
theorem run_store_mem {g n : Nat} {T : TypeId} {xs ys : List Int} (ha : Arr T n) (hm : Mem w0 L w) (hin : (g, T, xs) ∈ L) (hl : xs.length = n) (hl' : ys.length = n) : (storeVar T ⟨g, 0, none⟩ (.agg (icells ys))).run Tryz.prog w = .ok () (w.setRow g (icells ys)) :=
 run_storeVar_row w g T T (icells xs) (icells ys) (hm.get hin) (by rw [ha.size, icells_size, hl']) (by rw [icells_size, icells_size, hl, hl']) (icells_one ys)
theorem wl_store (hgd : Region.wanted o (yielded ops a.tmps) = true) (T : TypeId) (x y : Operand) (ho : o.op = .store T x y) {g n : Nat} (hx : a.eval x = .pointer (some ⟨g, 0, none⟩)) {ys : List Int} (hy : a.eval y = .agg (icells ys)) (ha : Arr T n) {xs : List Int}
  (hm : Hid (Mem w0 L w)) (i : Nat) (hi : L[i]? = some (g, T, xs)) (hl : Hid (xs.length = n)) (hl' : Hid (ys.length = n))
  (h : ∀ w', Hid (Mem w0 (L.set i (g, T, ys)) w') → wpList Tryz.prog ops Q rest (a.put o.dst undef) w') : wpList Tryz.prog ops Q (o :: rest) a w :=
 wl_step hgd fun K hK => by
  have := hK _ _ (h _ (Lib.hid (hm.out.row i hi ys)))
  unfold Oper.wp execOp
  simp only [ho, hx, hy, Instr.storeAt, Instr.sureAddr, Sem.run_bind, Sem.run_pure, Result.andThen_ok, run_store_mem ha hm.out (List.mem_of_getElem? hi) hl.out hl'.out]
  exact this
end
/- short words for the arms: the premises find themselves -/
theorem q7a {T : TypeId} {n : Nat} (h : Arr T n := by first | exact arrPcm | exact arrSpec | exact arrTail | exact arrWave | exact arrRound | exact arrLev | exact arrAll | exact arrHop | exact arrSix | exact arrFr) : Arr T n := h
theorem q7e {e : Nat × TypeId × List Int} {L : List (Nat × TypeId × List Int)} (h : e ∈ L := by repeat' (first | exact .head _ | refine .tail _ ?_)) : e ∈ L := h
theorem q7l {xs : List Int} {n : Nat} (h : Hid (xs.length = n) := by with_reducible first | assumption | exact Lib.hid (zr_length _) | exact Lib.hid (tab_length _ _)) : Hid (xs.length = n) := h
theorem q7u {L L' : List (Nat × TypeId × List Int)} (h : List.Sublist L L' := by repeat' first | exact List.nil_sublist _ | exact .slnil | refine List.Sublist.cons_cons _ ?_ | refine List.Sublist.cons _ ?_) : List.Sublist L L' := h
def Nth (L : List (Nat × TypeId × List Int)) (i : Nat) (e : Nat × TypeId × List Int) : Prop := L[i]? = some e
theorem Nth.hd {e : Nat × TypeId × List Int} {L : List (Nat × TypeId × List Int)} : Nth (e :: L) 0 e := rfl
theorem Nth.tl {e x : Nat × TypeId × List Int} {L : List (Nat × TypeId × List Int)} {i : Nat} (h : Nth L i e) : Nth (x :: L) (i + 1) e := by
 unfold Nth at h ⊢; rw [List.getElem?_cons_succ]; exact h
theorem q7x {L : List (Nat × TypeId × List Int)} {i : Nat} {e : Nat × TypeId × List Int} (h : Nth L i e := by first | exact Nth.hd | exact Nth.tl (Nth.hd) | exact Nth.tl (Nth.tl (Nth.hd)) | exact Nth.tl (Nth.tl (Nth.tl (Nth.hd))) | exact Nth.tl (Nth.tl (Nth.tl (Nth.tl (Nth.hd)))) | exact Nth.tl (Nth.tl (Nth.tl (Nth.tl (Nth.tl (Nth.hd))))) | exact Nth.tl (Nth.tl (Nth.tl (Nth.tl (Nth.tl (Nth.tl (Nth.hd)))))) | exact Nth.tl (Nth.tl (Nth.tl (Nth.tl (Nth.tl (Nth.tl (Nth.tl (Nth.hd))))))) | exact Nth.tl (Nth.tl (Nth.tl (Nth.tl (Nth.tl (Nth.tl (Nth.tl (Nth.tl (Nth.hd)))))))) | exact Nth.tl (Nth.tl (Nth.tl (Nth.tl (Nth.tl (Nth.tl (Nth.tl (Nth.tl (Nth.tl (Nth.hd))))))))) | exact Nth.tl (Nth.tl (Nth.tl (Nth.tl (Nth.tl (Nth.tl (Nth.tl (Nth.tl (Nth.tl (Nth.tl (Nth.hd)))))))))) | exact Nth.tl (Nth.tl (Nth.tl (Nth.tl (Nth.tl (Nth.tl (Nth.tl (Nth.tl (Nth.tl (Nth.tl (Nth.tl (Nth.hd))))))))))) | exact Nth.tl (Nth.tl (Nth.tl (Nth.tl (Nth.tl (Nth.tl (Nth.tl (Nth.tl (Nth.tl (Nth.tl (Nth.tl (Nth.tl (Nth.hd)))))))))))) | exact Nth.tl (Nth.tl (Nth.tl (Nth.tl (Nth.tl (Nth.tl (Nth.tl (Nth.tl (Nth.tl (Nth.tl (Nth.tl (Nth.tl (Nth.tl (Nth.hd)))))))))))))) : Nth L i e := h
def dL {w0 w : World} {L : List (Nat × TypeId × List Int)} (_ : Hid (Mem w0 L w)) : Nat := L.length
section
variable {ops : Array Oper} {rest : List Oper} {o : Oper} {a : Act} {w w0 : World} {Q : Exit → Act → World → Prop} {L : List (Nat × TypeId × List Int)}
theorem wl_storeM (hgd : Region.wanted o (yielded ops a.tmps) = true) (T : TypeId) (x y : Operand) (ho : o.op = .store T x y) {g n : Nat} (hx : a.eval x = .pointer (some ⟨g, 0, none⟩)) {ys : List Int} (hy : a.eval y = .agg (icells ys)) (ha : Arr T n) {xs : List Int}
  (hm : Hid (Mem w0 L w)) {i : Nat} (hi : Nth L i (g, T, xs)) (hl : Hid (xs.length = n)) (hl' : Hid (ys.length = n))
  (h : ∀ w', Hid (Mem w0 (L.set i (g, T, ys)) w') → wpList Tryz.prog ops Q rest (a.put o.dst undef) w') : wpList Tryz.prog ops Q (o :: rest) a w :=
 wl_store hgd T x y ho hx hy ha hm i hi hl hl' h
end
theorem arn_elem (w : World) : (sizeOf 3).run Tryz.prog w = .ok 1 w := by kernel_rfl
section
variable {ops : Array Oper} {rest : List Oper} {o : Oper} {a : Act} {w w0 : World} {Q : Exit → Act → World → Prop} {L : List (Nat × TypeId × List Int)}
theorem q8v (hgd : Region.wanted o (yielded ops a.tmps) = true) (T : TypeId) (ho : o.op = .build T #[]) {n : Nat} (ha : Arr T n) (hu : Tryz.prog.underlying T = some (.array n 3))
  (h : wpList Tryz.prog ops Q rest (a.put o.dst (.agg (icells (zr n)))) w) : wpList Tryz.prog ops Q (o :: rest) a w :=
 wl_step hgd fun K hK => by
  have := hK _ _ h
  unfold Oper.wp execOp
  simp only [ho, Instr.build, Sem.run_bind, ha.zero w, Result.andThen_ok, run_underlying hu w, Value.cells, List.map_toArray, List.map_nil]
  simp only [arn_elem w, Result.andThen_ok, Instr.fill, Sem.run_pure]
  exact this
theorem wl_built (hgd : Region.wanted o (yielded ops a.tmps) = true) (T : TypeId) (parts : Array (Nat × Operand)) (ho : o.op = .build T parts) (xs : List Int)
  (hf : Tryz.prog.built T (parts.map fun (i, x) => (i, a.eval x)).toList = some (icells xs))
  (h : wpList Tryz.prog ops Q rest (a.put o.dst (.agg (icells xs))) w) : wpList Tryz.prog ops Q (o :: rest) a w :=
 wl_step hgd fun K hK => by
  have := hK _ _ h
  refine wp_build T parts ho (by rw [hf]; rfl) ?_
  rw [hf]
  exact this
end
theorem Mem.add {w0 w w' : World} {L : List (Nat × TypeId × List Int)} (h : Mem w0 L w) (hb : Below w.heap.size w w') {r : Nat} {T : TypeId} {xs : List Int} (hr : w.heap.size ≤ r) (hB : Blk w' r T (icells xs)) : Mem w0 ((r, T, xs) :: L) w' := by
 refine ⟨h.1.trans (hb.mono h.1.size), fun e he => ?_, fun e he => ?_, .cons (fun e he => Nat.ne_of_gt (Nat.lt_of_lt_of_le (h.2.1 e he).lt hr)) h.2.2.2⟩
 ·rcases List.mem_cons.1 he with rfl | he
  ·exact hB
  ·exact (h.2.1 e he).below hb (h.2.1 e he).lt
 ·rcases List.mem_cons.1 he with rfl | he
  ·exact Nat.le_trans h.1.size hr
  ·exact h.2.2.1 e he
theorem rd_sub {w : World} {g : Nat} {T : TypeId} {xs : List Int} (h : Blk w g T (icells xs)) (o n : Nat) (hn : (xs.drop o).length = n) : RdI w (some ⟨g, o, none⟩) n (xs.drop o) := by
 refine ⟨hn, fun _ => ⟨_, rfl, fun j x hx => ?_⟩⟩
 rw [Addr.add_mid, h.cell]
 rw [List.getElem?_drop] at hx
 simp [icells, hx]
set_option maxRecDepth 20000 in
theorem run_copy_mem {w : World} {g : Nat} {T : TypeId} {zs xs : List Int} (hg : Blk w g T (icells zs)) (o dLen dCap : Nat) {ad : Addr} {n : Nat} (sCap : Nat) (hr : RdI w (some ad) n xs) (hn : n = Nat.min n dLen) (hfit : o + n ≤ zs.length) (ys : List Int)
  (hys : zs.take o ++ xs ++ zs.drop (o + n) = ys) :
  (Builtin.copy_ #[38, 38] 3 #[.slice (some ⟨g, o, none⟩) dLen dCap, .slice (some ad) n sCap]).run Tryz.prog w = .ok (goInt n) (w.setRow g (icells ys)) := by
 have hl := hr.1
 have := run_copy_row (P := Tryz.prog) w 38 38 3 3 g o dLen dCap ad n sCap (icells zs) T (xs.map fun x => Value.int .i64 x) Tryz.underlying38 (by kernel_rfl) hg (by rw [List.length_map, hl]; exact hn)
  (fun j v hv => by
   rw [List.getElem?_map] at hv
   cases hx : xs[j]? with
   | none => rw [hx] at hv; cases hv
   | some x =>
    rw [hx] at hv
    injection hv with hv
    subst hv
    by_cases h0 : 0 < n
    ·obtain ⟨ad', e, hc⟩ := hr.2 h0
     injection e with e
     subst e
     exact hc j x hx
    ·have := (List.getElem?_eq_some_iff.1 hx).1; omega)
  (by rw [icells_size, List.length_map, hl]; exact hfit)
  (fun v hv => by
   rw [List.mem_map] at hv
   obtain ⟨x, -, rfl⟩ := hv
   rfl)
 rw [this, List.length_map, hl]
 congr 2
 rw [← hys]
 simp [icells, List.map_take, List.map_drop]
theorem run_index (T : TypeId) {n : Nat} (hT : Tryz.prog.underlying T = some (.array n 3)) (xs : List Int) (hl : xs.length = n) (k : Nat) (hk : k < n) (w : World) :
  (Instr.index T (.agg (icells xs)) (.int .i64 (k : Int))).run Tryz.prog w = .ok (.int .i64 (xs.getD k 0)) w := by
 have hs : (sizeOf 3).run Tryz.prog w = .ok 1 w := by kernel_rfl
 have ha : (isAgg 3).run Tryz.prog w = .ok false w := by kernel_rfl
 have hc : (icells xs)[k]? = some (.int .i64 (xs.getD k 0)) := icells_get (by omega)
 simp only [Instr.index, asIntOf, Sem.run_bind, Sem.run_pure, Result.andThen_ok, run_underlying hT w]
 rw [if_pos ⟨by omega, by omega⟩]
 simp [Sem.run_bind, hs, part, ha, Result.andThen, hc]
theorem getD_ext {xs ys : List Int} (h : xs.length = ys.length) (hk : ∀ k, k < xs.length → xs.getD k 0 = ys.getD k 0) : xs = ys := by
 refine List.ext_getElem h fun k h1 h2 => ?_
 have := hk k h1
 simpa [List.getD_eq_getElem?_getD, h1, h2] using this
theorem res_one {fn : Func} {p : Tmp} {ty : TypeId} (h : fn.results = #[.cell p ty]) (tmps : Array Value) {w w0 : World} {L : List (Nat × TypeId × List Int)} {g n : Nat} {xs : List Int}
  (hp : tmps.getD p undef = .pointer (some ⟨g, 0, none⟩)) (ha : Arr ty n) (hm : Hid (Mem w0 L w)) (hin : (g, ty, xs) ∈ L) (hl : Hid (xs.length = n)) : (results fn tmps).run Tryz.prog w = .ok (.agg (icells xs)) w := by
 obtain ⟨d, h1, h2⟩ := ha.1
 exact results_cell_row h tmps w g ty (icells xs) (0, 0) d hp (hm.out.get hin) h1 (by cases d <;> first | rfl | cases h2) (by rw [ha.size, icells_size, hl.out])
theorem res_two {fn : Func} {p u : Tmp} {ty : TypeId} (h : fn.results = #[.cell p ty, .tmp u]) (tmps : Array Value) {w w0 : World} {L : List (Nat × TypeId × List Int)} {g n : Nat} {xs : List Int} {v : Value}
  (hp : tmps.getD p undef = .pointer (some ⟨g, 0, none⟩)) (hv : tmps.getD u undef = v) (ha : Arr ty n) (hm : Hid (Mem w0 L w)) (hin : (g, ty, xs) ∈ L) (hl : Hid (xs.length = n)) :
  (results fn tmps).run Tryz.prog w = .ok (.tuple #[.agg (icells xs), v]) w := by
 rw [results_cell_tmp h, hp, hv]
 simp only [asAddr, Sem.run_pure, Result.andThen_ok, run_load_mem ha hm.out hin hl.out]
theorem res_three {fn : Func} {p q u : Tmp} {ty tz : TypeId} (h : fn.results = #[.cell p ty, .cell q tz, .tmp u]) (tmps : Array Value) {w w0 : World} {L : List (Nat × TypeId × List Int)} {g k n m : Nat} {xs ys : List Int} {v : Value}
  (hp : tmps.getD p undef = .pointer (some ⟨g, 0, none⟩)) (hq : tmps.getD q undef = .pointer (some ⟨k, 0, none⟩)) (hv : tmps.getD u undef = v) (ha : Arr ty n) (hb : Arr tz m) (hm : Hid (Mem w0 L w))
  (hin : (g, ty, xs) ∈ L) (hin' : (k, tz, ys) ∈ L) (hl : Hid (xs.length = n)) (hl' : Hid (ys.length = m)) :
  (results fn tmps).run Tryz.prog w = .ok (.tuple #[.agg (icells xs), .agg (icells ys), v]) w := by
 have hp' : tmps[p]?.getD undef = .pointer (some ⟨g, 0, none⟩) := by simpa using hp
 have hq' : tmps[q]?.getD undef = .pointer (some ⟨k, 0, none⟩) := by simpa using hq
 have hv' : tmps[u]?.getD undef = v := by simpa using hv
 simp [results, h, hp', hq', hv', asAddr, Sem.run_bind, Result.andThen, run_load_mem ha hm.out hin hl.out, run_load_mem hb hm.out hin' hl'.out]
end Go.Proofs.YtkcoboamejefiaaGreatDoor.Lp
namespace Go.Proofs.YtkcoboamejefiaaGreatDoor.Lp
open Go.RowKit Fx Fq Tb
def winP (n : Nat) : Int := sinP (2 * n + 1)
def kerP (n k : Nat) : Int := cosP ((2 * n + 17) * (2 * k + 1) % 128)
theorem kerP_is (n k : Nat) : kerI (n : Int) (k : Int) = kerP n k := by
 have e : (2 * (n : Int) + 17) * (2 * (k : Int) + 1) = (((2 * n + 17) * (2 * k + 1) : Nat) : Int) := by simp
 have e2 : pl (phI (n : Int) (k : Int)) = (2 * n + 17) * (2 * k + 1) % 128 := by
  unfold pl phI
  rw [e]
  generalize (2 * n + 17) * (2 * k + 1) = z
  omega
 unfold kerI kerP
 rw [e2]
end Go.Proofs.YtkcoboamejefiaaGreatDoor.Lp
namespace Go.Proofs.YtkcoboamejefiaaGreatDoor.Lp
open Go.RowKit Fx Fq Tb
theorem small_all : ∀ n, n < 128 → -16777300 ≤ cosP n ∧ cosP n ≤ 16777300 ∧ -16777300 ≤ sinP n ∧ sinP n ≤ 16777300 := by decide +kernel
theorem win_bd {n : Nat} (h : n < 32) : -16777300 ≤ winP n ∧ winP n ≤ 16777300 := by
 have := small_all (2 * n + 1) (by omega)
 exact ⟨this.2.2.1, this.2.2.2⟩
theorem ker_bd (n k : Nat) : -16777300 ≤ kerP n k ∧ kerP n k ≤ 16777300 := by
 have := small_all ((2 * n + 17) * (2 * k + 1) % 128) (Nat.mod_lt _ (by omega))
 exact ⟨this.1, this.2.1⟩
theorem mul_bd {x y A B : Int} (hx1 : -A ≤ x) (hx2 : x ≤ A) (hy1 : -B ≤ y) (hy2 : y ≤ B) : -(A * B) ≤ x * y ∧ x * y ≤ A * B := by
 have hA : 0 ≤ A := by omega
 have hB : 0 ≤ B := by omega
 have h : (x * y).natAbs ≤ A.natAbs * B.natAbs := by
  rw [Int.natAbs_mul]
  exact Nat.mul_le_mul (by omega) (by omega)
 have e : ((A.natAbs * B.natAbs : Nat) : Int) = A * B := by
  rw [Int.natCast_mul, Int.natAbs_of_nonneg hA, Int.natAbs_of_nonneg hB]
 omega
def sumN (f : Nat → Int) : Nat → Int
 | 0 => 0
 | n + 1 => sumN f n + f n
theorem sumN_succ (f : Nat → Int) (n : Nat) : sumN f (n + 1) = sumN f n + f n := rfl
theorem sumN_bd (f : Nat → Int) (M : Int) : ∀ n : Nat, (∀ i, i < n → -M ≤ f i ∧ f i ≤ M) → -(M * (n : Int)) ≤ sumN f n ∧ sumN f n ≤ M * (n : Int)
 | 0, _ => by simp [sumN]
 | n + 1, h => by
  have ih := sumN_bd f M n fun i hi => h i (by omega)
  have h1 := h n (by omega)
  rw [sumN_succ, Int.natCast_add, Int.mul_add]
  simp only [Int.natCast_one, Int.mul_one]
  omega
theorem sumN_congr (f g : Nat → Int) : ∀ n : Nat, (∀ i, i < n → f i = g i) → sumN f n = sumN g n
 | 0, _ => rfl
 | n + 1, h => by rw [sumN_succ, sumN_succ, sumN_congr f g n fun i hi => h i (by omega), h n (by omega)]
theorem round_lit (v : Int) (b : Nat) (P H : Int) (hb : 1 ≤ b) (hb2 : b ≤ 62) (hP : ((2 ^ b : Nat) : Int) = P) (hH : ((2 ^ (b - 1) : Nat) : Int) = H) : roundI v (b : Int) = v / P + v / H % 2 := by
 unfold roundI
 rw [if_neg (by omega), if_neg (by omega), show ((b : Nat) : Int).toNat = b by omega, hP, hH]
theorem round20 (v : Int) : roundI v 20 = v / 1048576 + v / 524288 % 2 := round_lit v 20 1048576 524288 (by omega) (by omega) (by decide) (by decide)
theorem round27 (v : Int) : roundI v 27 = v / 134217728 + v / 67108864 % 2 := round_lit v 27 134217728 67108864 (by omega) (by omega) (by decide) (by decide)
def tab (n : Nat) (f : Nat → Int) : List Int := (List.range n).map f
theorem tab_length (n : Nat) (f : Nat → Int) : (tab n f).length = n := by rw [tab, List.length_map, List.length_range]
theorem tab_get {n : Nat} (f : Nat → Int) {i : Nat} (h : i < n) : (tab n f)[i]? = some (f i) := by
 unfold tab; rw [List.getElem?_map, List.getElem?_range h]; rfl
theorem tab_getD {n : Nat} (f : Nat → Int) {i : Nat} (h : i < n) : (tab n f).getD i 0 = f i := by
 rw [List.getD_eq_getElem?_getD, tab_get f h]; rfl
theorem tab_congr {n : Nat} {f g : Nat → Int} (h : ∀ i, i < n → f i = g i) : tab n f = tab n g := by
 unfold tab; exact List.map_congr_left fun i hi => h i (List.mem_range.1 hi)
theorem tab_set {n : Nat} {f g : Nat → Int} {j : Nat} {v : Int} (hv : v = g j) (h : ∀ i, i < n → i ≠ j → f i = g i) : (tab n f).set j v = tab n g := by
 refine List.ext_getElem? fun i => ?_
 rw [List.getElem?_set, tab_length]
 by_cases hi : i < n
 ·rw [tab_get f hi, tab_get g hi]
  by_cases k : j = i
  ·subst k; rw [if_pos rfl, if_pos hi, hv]
  ·rw [if_neg k, h i hi (Ne.symm k)]
 ·rw [List.getElem?_eq_none (by rw [tab_length]; omega), List.getElem?_eq_none (by rw [tab_length]; omega)]
  split
  ·rw [if_neg (by omega)]
  ·rfl
theorem tab_zero (n : Nat) : tab n (fun _ => 0) = zr n := by
 unfold tab zr
 exact List.map_const' ..|>.trans (by rw [List.length_range])
theorem tab_self {n : Nat} {xs : List Int} (h : xs.length = n) : tab n (fun i => xs.getD i 0) = xs := by
 refine List.ext_getElem (by rw [tab_length, h]) fun i h1 h2 => ?_
 have := tab_get (fun i => xs.getD i 0) (n := n) (i := i) (by omega)
 rw [List.getElem?_eq_getElem h1] at this
 injection this with this
 rw [this]
 simp [List.getD_eq_getElem?_getD, h2]
def part2 (k : Nat) (f g : Nat → Int) : Nat → Int := fun i => if i < k then f i else g i
theorem part2_set {n k : Nat} (f g : Nat → Int) : (tab n (part2 k f g)).set k (f k) = tab n (part2 (k + 1) f g) :=
 tab_set (by unfold part2; rw [if_pos (by omega)]) fun i _ hne => by
  unfold part2
  by_cases h : i < k
  ·rw [if_pos h, if_pos (by omega)]
  ·rw [if_neg h, if_neg (by omega)]
theorem part2_all {n : Nat} (f g : Nat → Int) : tab n (part2 n f g) = tab n f := tab_congr fun i hi => by unfold part2; rw [if_pos hi]
theorem part2_none (n : Nat) (f g : Nat → Int) : tab n (part2 0 f g) = tab n g := tab_congr fun i _ => by unfold part2; rw [if_neg (by omega)]
def inR (lo hi : Int) (zs : List Int) : Bool := decide (∀ k, k < zs.length → lo ≤ zs.getD k 0 ∧ zs.getD k 0 ≤ hi)
def smp (p q : List Int) (n : Nat) : Int := if n < 16 then p.getD n 0 else q.getD (n - 16) 0
def wgt (p q : List Int) (n : Nat) : Int := roundI (smp p q n * winP n) 16
def fwd (p q : List Int) (k : Nat) : Int := roundI (sumN (fun n => wgt p q n * kerP n k) 32) 28
def mixN (x : List Int) (n : Nat) : Int := sumN (fun k => x.getD k 0 * kerP n k) 16
def inv (x : List Int) (n : Nat) : Int := roundI (roundI (mixN x n) 20 * winP n) 27
def invL (x : List Int) : List Int := tab 32 (inv x)
def lapN (t w : List Int) (i : Nat) : Int := satI (roundI (t.getD i 0 + w.getD i 0) 8) 16
def lapL (t w : List Int) : List Int := tab 16 (lapN t w)
def leftL (w : List Int) : List Int := tab 16 (fun i => w.getD (16 + i) 0)
def okP (p : List Int) : Bool := inR (-32768) 32767 p
def okX (x : List Int) : Bool := inR (-67108864) 67108864 x
def okW (w : List Int) : Bool := inR (-1099511627776) 1099511627776 w
def invV (x : List Int) : Value := if okX x = true then .tuple #[.agg (icells (invL x)), .int .i64 0] else .tuple #[.agg (icells (zr 32)), .int .i64 1]
def lapV (t w : List Int) : Value := if okW t = true ∧ okW w = true then .tuple #[.agg (icells (lapL t w)), .agg (icells (leftL w)), .int .i64 0] else .tuple #[.agg (icells (zr 16)), .agg (icells (zr 16)), .int .i64 1]
theorem inR_of {lo hi : Int} {zs : List Int} (h : inR lo hi zs = true) {k : Nat} (hk : k < zs.length) : lo ≤ zs.getD k 0 ∧ zs.getD k 0 ≤ hi := of_decide_eq_true h k hk
theorem inR_bd {lo hi : Int} {zs : List Int} (h : inR lo hi zs = true) (h0 : lo ≤ 0) (h1 : 0 ≤ hi) (k : Nat) : lo ≤ zs.getD k 0 ∧ zs.getD k 0 ≤ hi := by
 by_cases hk : k < zs.length
 ·exact inR_of h hk
 ·rw [List.getD_eq_getElem?_getD, List.getElem?_eq_none (by omega)]; exact ⟨h0, h1⟩
theorem inR_iff {lo hi : Int} {zs : List Int} {n : Nat} (hl : zs.length = n) : inR lo hi zs = true ↔ ∀ k, k < n → lo ≤ zs.getD k 0 ∧ zs.getD k 0 ≤ hi := by
 subst hl; unfold inR; rw [decide_eq_true_eq]
theorem mix_term {x : List Int} (hx : okX x = true) (n k : Nat) : -1125905544000000 ≤ x.getD k 0 * kerP n k ∧ x.getD k 0 * kerP n k ≤ 1125905544000000 := by
 have h1 := inR_bd hx (by omega) (by omega) k
 have h2 := ker_bd n k
 have := mul_bd (A := 67108864) (B := 16777300) (by omega) h1.2 (by omega) h2.2
 omega
theorem mix_sum {x : List Int} (hx : okX x = true) (n j : Nat) (hj : j ≤ 16) : -18014488704000000 ≤ sumN (fun k => x.getD k 0 * kerP n k) j ∧ sumN (fun k => x.getD k 0 * kerP n k) j ≤ 18014488704000000 := by
 have := sumN_bd (fun k => x.getD k 0 * kerP n k) 1125905544000000 j fun i hi => mix_term hx n i
 omega
theorem inv_mid {x : List Int} (hx : okX x = true) (n : Nat) : -17179967000 ≤ roundI (mixN x n) 20 ∧ roundI (mixN x n) 20 ≤ 17179967000 := by
 have := mix_sum hx n 16 (by omega)
 unfold mixN
 rw [round20]
 omega
theorem inv_in {x : List Int} (hx : okX x = true) {n : Nat} (hn : n < 32) : -288233460350000000 ≤ roundI (mixN x n) 20 * winP n ∧ roundI (mixN x n) 20 * winP n ≤ 288233460350000000 := by
 have h1 := inv_mid hx n
 have h2 := win_bd hn
 have := mul_bd (A := 17179967000) (B := 16777300) (by omega) h1.2 (by omega) h2.2
 omega
theorem inv_bd {x : List Int} (hx : okX x = true) {n : Nat} (hn : n < 32) : -2147507000 ≤ inv x n ∧ inv x n ≤ 2147507000 := by
 have := inv_in hx hn
 unfold inv
 rw [round27]
 omega
theorem okW_inv {x : List Int} (hx : okX x = true) : okW (invL x) = true := (inR_iff (tab_length 32 _)).2 fun k hk => by
 show _ ≤ (tab 32 (inv x)).getD k 0 ∧ (tab 32 (inv x)).getD k 0 ≤ _
 rw [tab_getD _ hk]
 have := inv_bd hx hk
 omega
end Go.Proofs.YtkcoboamejefiaaGreatDoor.Lp
namespace Go.Proofs.YtkcoboamejefiaaGreatDoor.Lp
open Go.RowKit Fx Fq Tb
theorem within_any (lo hi : Int) (A : Option Addr) (n c : Nat) (zs : List Int) (b : Bool) (w : World) (hr : Hid (RdI w A n zs)) (hn : n ≤ maxLen) (hb : inR lo hi zs = b) :
  Calls Tryz.prog 29 #[.int .i64 lo, .int .i64 hi, .slice A n c] w fun e w' => e = .returned (.bool b) ∧ w = w' := by
 have HI := Lib.hid (inR_iff (lo := lo) (hi := hi) hr.out.1)
 rw [hb] at HI
 clear hb
 unfold maxLen at hn
 go_enter Tryz.func29, Tryz.ntmps29
 go_wp2_with fail
 go_loop [11] (fun vi => ∃ k : Nat, vi = .int .i64 (k : Int) ∧ k ≤ n ∧ Hid (∀ j, j < k → lo ≤ zs.getD j 0 ∧ zs.getD j 0 ≤ hi)) (fun vi => n - (intOf vi).toNat)
 case atStart => exact ⟨0, rfl, by omega, Lib.hid (fun j hj => by omega)⟩
 case round =>
  obtain ⟨k, rfl, hk, HK⟩ := hrel
  by_cases hlt : k < n
  ·obtain ⟨ad, rfl, hlt2, hcell⟩ := hr.out.at_ hlt
   obtain ⟨x, hx⟩ : ∃ x, zs.getD k 0 = x := ⟨_, rfl⟩
   rw [hx] at hcell
   have HX := Lib.hid hx
   clear hx hlt2
   by_cases h1 : x < lo
   ·obtain rfl : b = false := by
     cases b with
     | false => rfl
     | true => have := HI.out.1 rfl k hlt; rw [HX.out] at this; omega
    go_wp2
    go_ret
    exact ⟨rfl, rfl⟩
   ·by_cases h2 : hi < x
    ·obtain rfl : b = false := by
      cases b with
      | false => rfl
      | true => have := HI.out.1 rfl k hlt; rw [HX.out] at this; omega
     go_wp2
     go_ret
     exact ⟨rfl, rfl⟩
    ·go_wp2
     go_round
     case rel =>
      refine ⟨k + 1, by go_num, by omega, Lib.hid fun j hj => ?_⟩
      by_cases hjk : j < k
      ·exact HK.out j hjk
      ·obtain rfl : j = k := by omega
       rw [HX.out]; omega
     case measure => simp [intOf]; omega
  ·obtain rfl : k = n := by omega
   obtain rfl : b = true := HI.out.2 HK.out
   go_wp2
   go_ret
   exact ⟨rfl, rfl⟩
theorem areNumbers_any (x : List Int) (b : Bool) (w : World) (hl : x.length = 16) (hb : okX x = b) :
  Calls Tryz.prog 148 #[.agg (icells x)] w fun e w' => e = .returned (.bool b) ∧ Below w.heap.size w w' := by
 have HL := Lib.hid hl
 have HB := Lib.hid hb
 have HM := Lib.hid (Mem.start w)
 clear hl hb
 go_enter Tryz.func148, Tryz.ntmps148
 go_wp2_with (first | ((first | refine wl_box rfl _ _ rfl rfl HM ?_ | refine wl_alloc rfl _ rfl (by exact q7a) HM ?_); first | (have q:dL HM = 0:=rfl;clear q HM;intro g1 u1 HM) | (have q:dL HM = 1:=rfl;clear q HM;intro g2 u2 HM) | (have q:dL HM = 2:=rfl;clear q HM;intro g3 u3 HM) | (have q:dL HM = 3:=rfl;clear q HM;intro g4 u4 HM)) | (refine wl_load rfl _ _ rfl rfl (by exact q7a) HM (by exact q7e) (by exact q7l) ?_) | (refine wl_storeM rfl _ _ _ rfl rfl rfl (by exact q7a) HM (by exact q7x) (by exact q7l) (by exact q7l) ?_; clear HM; intro us HM; dsimp only [List.set] at HM) | (refine q8v rfl _ rfl (by exact q7a) (by kernel_rfl) ?_))
 refine (within_any _ _ _ 16 16 x b _ (Lib.hid (HM.out.rd (.head _) HL.out)) (by unfold maxLen; omega) HB.out).mono ?_
 rintro e w2 ⟨rfl, rfl⟩
 go_wp2
 go_ret
 exact ⟨rfl, HM.out.1⟩
theorem check_any (p : List Int) (b : Bool) (z : Int) (w : World) (hl : p.length = 16) (hb : okP p = b) (hz : z = if b = true then 0 else 1) :
  Calls Tryz.prog 16 #[.agg (icells p)] w fun e w' => e = .returned (.int .i64 z) ∧ Below w.heap.size w w' := by
 have HL := Lib.hid hl
 have HB := Lib.hid hb
 have HM := Lib.hid (Mem.start w)
 clear hl hb
 cases b with
 | true =>
  obtain rfl : z = 0 := by rw [hz]; rfl
  clear hz
  go_enter Tryz.func16, Tryz.ntmps16
  go_wp2_with (first | ((first | refine wl_box rfl _ _ rfl rfl HM ?_ | refine wl_alloc rfl _ rfl (by exact q7a) HM ?_); first | (have q:dL HM = 0:=rfl;clear q HM;intro g1 u1 HM) | (have q:dL HM = 1:=rfl;clear q HM;intro g2 u2 HM) | (have q:dL HM = 2:=rfl;clear q HM;intro g3 u3 HM) | (have q:dL HM = 3:=rfl;clear q HM;intro g4 u4 HM)) | (refine wl_load rfl _ _ rfl rfl (by exact q7a) HM (by exact q7e) (by exact q7l) ?_) | (refine wl_storeM rfl _ _ _ rfl rfl rfl (by exact q7a) HM (by exact q7x) (by exact q7l) (by exact q7l) ?_; clear HM; intro us HM; dsimp only [List.set] at HM) | (refine q8v rfl _ rfl (by exact q7a) (by kernel_rfl) ?_))
  refine (within_any _ _ _ 16 16 p true _ (Lib.hid (HM.out.rd (.head _) HL.out)) (by unfold maxLen; omega) HB.out).mono ?_
  rintro e w2 ⟨rfl, rfl⟩
  go_wp2
  go_ret
  exact ⟨rfl, HM.out.1⟩
 | false =>
  obtain rfl : z = 1 := by rw [hz]; rfl
  clear hz
  go_enter Tryz.func16, Tryz.ntmps16
  go_wp2_with (first | ((first | refine wl_box rfl _ _ rfl rfl HM ?_ | refine wl_alloc rfl _ rfl (by exact q7a) HM ?_); first | (have q:dL HM = 0:=rfl;clear q HM;intro g1 u1 HM) | (have q:dL HM = 1:=rfl;clear q HM;intro g2 u2 HM) | (have q:dL HM = 2:=rfl;clear q HM;intro g3 u3 HM) | (have q:dL HM = 3:=rfl;clear q HM;intro g4 u4 HM)) | (refine wl_load rfl _ _ rfl rfl (by exact q7a) HM (by exact q7e) (by exact q7l) ?_) | (refine wl_storeM rfl _ _ _ rfl rfl rfl (by exact q7a) HM (by exact q7x) (by exact q7l) (by exact q7l) ?_; clear HM; intro us HM; dsimp only [List.set] at HM) | (refine q8v rfl _ rfl (by exact q7a) (by kernel_rfl) ?_))
  refine (within_any _ _ _ 16 16 p false _ (Lib.hid (HM.out.rd (.head _) HL.out)) (by unfold maxLen; omega) HB.out).mono ?_
  rintro e w2 ⟨rfl, rfl⟩
  go_wp2
  go_ret
  exact ⟨rfl, HM.out.1⟩
theorem win_any (n : Nat) (z v : Int) (w : World) (hn : n < 32) (hz : z = (n : Int)) (hv : winP n = v) :
  Calls Tryz.prog 150 #[.int .i64 z] w fun e w' => e = .returned (.int .i64 v) ∧ Below w.heap.size w w' := by
 have HW := Lib.hid (window_any z)
 rw [show winT z = .tuple #[.int .i64 v, .int .i64 0] by
  unfold winT
  rw [if_pos ⟨by omega, by omega⟩, show pl (2 * z + 1) = 2 * n + 1 by unfold pl; omega]
  rw [← hv]; rfl] at HW
 clear hv hz
 go_enter Tryz.func150, Tryz.ntmps150
 go_wp2_with fail
 refine (HW.out _).mono ?_
 rintro e w2 ⟨rfl, h1⟩
 have H1 := Lib.hid h1
 clear h1
 go_wp2
 go_ret
 exact ⟨rfl, H1.out⟩
def rowP (k : Nat) : List Int := tab 32 (fun n => kerP n k)
theorem rowP_is (k : Nat) : rowI (k : Int) = rowP k := by
 unfold rowI rowP tab
 exact List.map_congr_left fun n _ => kerP_is n k
def RowQ2 (w : World) (xs : List Int) (e : Ending) (w' : World) : Prop := ∃ r, e = .returned (.tuple #[.slice (some ⟨r, 0, none⟩) 32 32, .int .i64 0]) ∧ w.heap.size ≤ r ∧ Blk w' r 3 (icells xs) ∧ Below w.heap.size w w'
theorem row_at (k : Int) (w : World) (h0 : 0 ≤ k) (h1 : k ≤ 15) : Calls Tryz.prog 201 #[.int .i64 k] w (RowQ2 w (rowI k)) := by
 have hmk : ∀ u : World, (Instr.makeSlice 38 (.int .i64 32) (.int .i64 32)).run Tryz.prog u = .ok (.slice (some ⟨u.heap.size, 0, none⟩) 32 32) (u.alloc (.cells (madeCells #[.int .i64 0] 32) 3)) := fun u =>
  run_make_row' (P := Tryz.prog) 38 3 (.int .i64 0) 8 Tryz.underlying38 info_intT rfl .i64 .i64 32 (by omega) (by omega) u
 go_enter Tryz.func201, Tryz.ntmps201
 go_wp2_with fail
 refine (isNumber_any k true _ (decide_eq_true ⟨h0, h1⟩)).mono ?_
 rintro e w1 ⟨rfl, rfl⟩
 go_wp2_with fail
 refine (newCircle_any _).mono ?_
 rintro e w1 ⟨rfl, hB, hb1⟩
 have HB := Lib.hid hB
 have HW := Lib.hid hb1
 clear hB hb1
 go_wp2_with fail
 have HS := Lib.hid (show RowS w1 w.heap.size w1.heap.size (rowK k 0) (w1.alloc (.cells (madeCells #[.int .i64 0] 32) 3)) from ⟨(Cs.fresh HB.out).below ((Below.refl w1.heap.size w1).alloc (Nat.le_refl _) _), by rw [rowK_none, ← icells_zero]; exact Blk.new _ _ _, HB.out.lt, Nat.le_refl _⟩)
 clear hmk
 generalize w1.alloc (.cells (madeCells #[.int .i64 0] 32) 3) = w2 at HS ⊢
 generalize w1.heap.size = r at HS ⊢
 obtain ⟨g, hg⟩ : ∃ g, g = w.heap.size := ⟨_, rfl⟩
 rw [← hg] at HS HB ⊢
 have HG := Lib.hid hg
 clear hg
 go_loopw [6, 14] (fun _ vi wr => ∃ j : Nat, j ≤ 32 ∧ vi = .int .i64 (j : Int) ∧ Hid (RowS w1 g r (rowK k j) wr)) (fun _ vi _ => 32 - (intOf vi).toNat)
 case atStart => exact ⟨0, by omega, rfl, HS⟩
 case round =>
  obtain ⟨j, hj, rfl, HR⟩ := hrel
  by_cases hlt : j < 32
  ·obtain ⟨z, hz⟩ : ∃ z, phI (j : Int) k = z := ⟨_, rfl⟩
   have HZ := Lib.hid hz
   obtain ⟨q1, q2⟩ := pl_is z
   have HV := Lib.hid (show cosP (pl z) = kerI (j : Int) k by unfold kerI; rw [hz])
   generalize pl z = n at q1 q2 HV
   have HQ1 := Lib.hid q1
   have HQ2 := Lib.hid q2
   have hi := run_at0 (cosP n) (sinP n)
   clear hz q1 q2
   go_wp2_with fail
   refine (phase_any (j : Int) k z _ (by omega) (by omega) h0 h1 HZ.out).mono ?_
   rintro e w3 ⟨rfl, rfl⟩
   go_wp2_with fail
   refine (rounded_any g n z wr HQ1.out HQ2.out (Lib.hid HR.out.1.self)).mono ?_
   rintro e w3 ⟨rfl, hQ⟩
   obtain ⟨c1, c2⟩ := HR.out.1.next hQ
   have hb3 := HR.out.2.1.only c2 (by have := HR.out.2.2.1; omega)
   have HC3 := Lib.hid c1
   have HB3 := Lib.hid hb3
   have c0 := blk_at hb3 (i := j) (by rw [rowK_length]; exact hlt)
   have f0 := Blk.frozen hb3 j
   have j32 : (j : Int) < 32 := by omega
   have HP := Lib.hid (show RowS w1 g r (rowK k (j + 1)) (w3.setCell ⟨r, j, none⟩ (.int .i64 (cosP n))) from by
    refine ⟨?_, ?_, HR.out.2.2⟩
    ·obtain ⟨kk, k1, k2, k3, k4⟩ := HC3.out
     exact ⟨kk, k1, k2, k3.far (p := ⟨r, j, none⟩) (by show g ≠ r; have := HR.out.2.2.1; omega) _, only_setCell k4 (p := ⟨r, j, none⟩) (.inr HR.out.2.2.2) _⟩
    ·have := blk_put HB3.out j (cosP n)
     rwa [HV.out, rowK_set k j hlt, ← HV.out] at this)
   clear hQ c1 c2 hb3 HR
   go_wp2
   go_roundw
   case rel => exact ⟨j + 1, by omega, by go_num, HP⟩
   case measure => simp [intOf]; omega
  ·obtain rfl : j = 32 := by omega
   rw [rowK_all] at HR
   go_wp2
   go_ret2
   exact ⟨r, rfl, (by have := HR.out.2.2.2; have := HW.out.size; have := HG.out; omega), HR.out.2.1, by rw [← HG.out]; have := HW.out; rw [← HG.out] at this; obtain ⟨kk, -, -, -, k4⟩ := HR.out.1; exact below_grown this k4 (Nat.le_refl _) (by have := HW.out.size; have := HG.out; omega)⟩
def RowPQ (w : World) (xs : List Int) (e : Ending) (w' : World) : Prop := ∃ r, e = .returned (.slice (some ⟨r, 0, none⟩) 32 32) ∧ w.heap.size ≤ r ∧ Blk w' r 3 (icells xs) ∧ Below w.heap.size w w'
theorem kernels_any (k : Nat) (z : Int) (w : World) (hk : k < 16) (hz : z = (k : Int)) :
  Calls Tryz.prog 186 #[.int .i64 z] w fun e w' => RowPQ w (rowP k) e w' := by
 have HW := Lib.hid (row_at z)
 rw [hz] at HW
 rw [rowP_is] at HW
 subst hz
 go_enter Tryz.func186, Tryz.ntmps186
 go_wp2_with fail
 refine (HW.out _ (by omega) (by omega)).mono ?_
 rintro e w2 ⟨r, rfl, hr, hB, h1⟩
 have HR := Lib.hid hr
 have H1 := Lib.hid h1
 have HB := Lib.hid hB
 clear h1 hB hr
 go_wp2
 go_ret
 exact ⟨r, rfl, HR.out, HB.out, H1.out⟩
end Go.Proofs.YtkcoboamejefiaaGreatDoor.Lp
namespace Go.Proofs.YtkcoboamejefiaaGreatDoor.Lp
open Go.RowKit Fx Fq Tb
theorem i64_w {x : Int} (h1 : -9223372036854775808 ≤ x) (h2 : x ≤ 9223372036854775807) : IntKind.i64.wrap x = x := IntWalk.i64_in _ (by omega)
def AggQ (w : World) (xs : List Int) (e : Ending) (w' : World) : Prop := e = .returned (.agg (icells xs)) ∧ Below w.heap.size w w'
end Go.Proofs.YtkcoboamejefiaaGreatDoor.Lp
namespace Go.Proofs.YtkcoboamejefiaaGreatDoor.Lp
open Go.RowKit Fx Fq Tb
def mxN (x : List Int) (k n : Nat) : Int := sumN (fun k => x.getD k 0 * kerP n k) k
theorem mix_any (x : List Int) (w : World) (hx : okX x = true) (lx : x.length = 16) :
  Calls Tryz.prog 149 #[.agg (icells x)] w (AggQ w (tab 32 (mixN x))) := by
 have HX := Lib.hid hx
 have LX := Lib.hid lx
 have HM := Lib.hid (Mem.start w)
 clear hx lx
 go_enter Tryz.func149, Tryz.ntmps149
 go_wp2_with (first | ((first | refine wl_box rfl _ _ rfl rfl HM ?_ | refine wl_alloc rfl _ rfl (by exact q7a) HM ?_); first | (have q:dL HM = 0:=rfl;clear q HM;intro g1 u1 HM) | (have q:dL HM = 1:=rfl;clear q HM;intro g2 u2 HM) | (have q:dL HM = 2:=rfl;clear q HM;intro g3 u3 HM) | (have q:dL HM = 3:=rfl;clear q HM;intro g4 u4 HM)) | (refine wl_load rfl _ _ rfl rfl (by exact q7a) HM (by exact q7e) (by exact q7l) ?_) | (refine wl_storeM rfl _ _ _ rfl rfl rfl (by exact q7a) HM (by exact q7x) (by exact q7l) (by exact q7l) ?_; clear HM; intro us HM; dsimp only [List.set] at HM) | (refine q8v rfl _ rfl (by exact q7a) (by kernel_rfl) ?_))
 go_loopw [9] (fun vi wr => ∃ k : Nat, k ≤ 16 ∧ vi = .int .i64 (k : Int) ∧ Hid (Mem w [(g3, 85, tab 32 (mxN x k)), (g2, 85, zr 32), (g1, 89, x)] wr)) (fun vi _ => 16 - (intOf vi).toNat)
 case atStart => exact ⟨0, by omega, rfl, Lib.hid (by rw [show tab 32 (mxN x 0) = zr 32 from tab_zero 32]; exact HM.out)⟩
 case round =>
  clear HM
  obtain ⟨k, hk, rfl, HM⟩ := hrel
  by_cases hlt : k < 16
  ·have hix := run_index 89 (n := 16) (by kernel_rfl) x LX.out k hlt
   obtain ⟨z, hz⟩ : ∃ z, x.getD k 0 = z := ⟨_, rfl⟩
   rw [hz] at hix
   have HZ := Lib.hid hz
   clear hz
   have HK := Lib.hid (fun u => kernels_any k (k : Int) u hlt rfl)
   have k16 : (k : Int) < 16 := by omega
   go_wp2_with fail
   refine (HK.out _).mono ?_
   rintro e w2 ⟨r, rfl, hr, hB, h1⟩
   have HM2 := Lib.hid (HM.out.add h1 hr hB)
   rw [← part2_none 32 (mxN x (k + 1)) (mxN x k)] at HM2
   clear hr hB h1 HM HK hix
   have HK16 := Lib.hid k16
   clear k16
   go_wp2_with fail
   go_loopw [16] (fun vi wr => ∃ j : Nat, j ≤ 32 ∧ vi = .int .i64 (j : Int) ∧ Hid (Mem w [(r, 3, rowP k), (g3, 85, tab 32 (part2 j (mxN x (k + 1)) (mxN x k))), (g2, 85, zr 32), (g1, 89, x)] wr)) (fun vi _ => 32 - (intOf vi).toNat)
   case atStart => exact ⟨0, by omega, rfl, HM2⟩
   case round =>
    clear HM2
    obtain ⟨j, hj, rfl, HM⟩ := hrel
    by_cases hlj : j < 32
    ·have c1 := HM.out.cell (.head _) (k := j) (by rw [rowP, tab_length]; omega)
     have c2 := HM.out.cell (.tail _ (.head _)) (k := j) (by rw [tab_length]; omega)
     have f2 := HM.out.free (.tail _ (.head _)) j
     rw [rowP, tab_getD _ hlj] at c1
     rw [tab_getD _ hlj] at c2
     have t1 := mix_term HX.out j k
     have t2 := mix_sum HX.out j k (by omega)
     have t3 := mix_sum HX.out j (k + 1) (by omega)
     rw [sumN_succ] at t3
     have HS := Lib.hid (part2_set (n := 32) (k := j) (mxN x (k + 1)) (mxN x k))
     have HT := Lib.hid (show mxN x (k + 1) j = mxN x k j + x.getD k 0 * kerP j k from sumN_succ _ _)
     rw [show part2 j (mxN x (k + 1)) (mxN x k) j = mxN x k j by unfold part2; rw [if_neg (by omega)]] at c2
     change -18014488704000000 ≤ mxN x k j ∧ mxN x k j ≤ 18014488704000000 at t2
     change -18014488704000000 ≤ mxN x k j + x.getD k 0 * kerP j k ∧ mxN x k j + x.getD k 0 * kerP j k ≤ 18014488704000000 at t3
     rw [HT.out] at HS
     rw [HZ.out] at HS t1 t3
     clear HT
     generalize mxN x k j = S at t2 t3 HS c2
     generalize kerP j k = y at c1 t1 t3 HS
     have e1 : IntKind.i64.wrap (z * y) = z * y := i64_w (by omega) (by omega)
     have e2 : IntKind.i64.wrap (S + z * y) = S + z * y := i64_w (by omega) (by omega)
     have j32 : (j : Int) < 32 := by omega
     clear t1 t2 t3
     go_wp2
     have HM3 := Lib.hid (HM.out.put 1 rfl j (S + z * y))
     simp only [List.set_cons_succ, List.set_cons_zero] at HM3
     rw [HS.out] at HM3
     clear HM c1 c2 f2 e1 e2
     go_roundw
     case rel => exact ⟨j + 1, by omega, by go_num, HM3⟩
     case measure => simp [intOf]; omega
    ·obtain rfl : j = 32 := by omega
     rw [part2_all] at HM
     have HM3 := Lib.hid HM.out.tail
     clear HM
     go_wp2
     go_roundw
     case rel => exact ⟨k + 1, by omega, by go_num, HM3⟩
     case measure => simp [intOf]; omega
  ·obtain rfl : k = 16 := by omega
   have HL2 := Lib.hid (tab_length 32 (mxN x 16))
   go_wp2_with (first | ((first | refine wl_box rfl _ _ rfl rfl HM ?_ | refine wl_alloc rfl _ rfl (by exact q7a) HM ?_); first | (have q:dL HM = 0:=rfl;clear q HM;intro g1 u1 HM) | (have q:dL HM = 1:=rfl;clear q HM;intro g2 u2 HM) | (have q:dL HM = 2:=rfl;clear q HM;intro g3 u3 HM) | (have q:dL HM = 3:=rfl;clear q HM;intro g4 u4 HM)) | (refine wl_load rfl _ _ rfl rfl (by exact q7a) HM (by exact q7e) (by exact q7l) ?_) | (refine wl_storeM rfl _ _ _ rfl rfl rfl (by exact q7a) HM (by exact q7x) (by exact q7l) (by exact q7l) ?_; clear HM; intro us HM; dsimp only [List.set] at HM) | (refine q8v rfl _ rfl (by exact q7a) (by kernel_rfl) ?_))
   refine bodyPost_ret (v := .agg (icells (tab 32 (mixN x)))) (res_one rfl _ rfl arrWave HM (.tail _ (.head _)) HL2) rfl ⟨rfl, HM.out.1⟩
end Go.Proofs.YtkcoboamejefiaaGreatDoor.Lp
namespace Go.Proofs.YtkcoboamejefiaaGreatDoor.Lp
open Go.RowKit Fx Fq Tb
def ValQ (w : World) (v : Value) (e : Ending) (w' : World) : Prop := e = .returned v ∧ Below w.heap.size w w'
theorem inverse_bad (x : List Int) (w : World) (lx : x.length = 16) (h : okX x = false) :
  Calls Tryz.prog 94 #[.agg (icells x)] w (ValQ w (.tuple #[.agg (icells (zr 32)), .int .i64 1])) := by
 have LX := Lib.hid lx
 have HM := Lib.hid (Mem.start w)
 have HZ := Lib.hid (zr_length 32)
 have HC := Lib.hid (fun u => areNumbers_any x false u lx h)
 clear lx h
 go_enter Tryz.func94, Tryz.ntmps94
 go_wp2_with (first | ((first | refine wl_box rfl _ _ rfl rfl HM ?_ | refine wl_alloc rfl _ rfl (by exact q7a) HM ?_); first | (have q:dL HM = 0:=rfl;clear q HM;intro g1 u1 HM) | (have q:dL HM = 1:=rfl;clear q HM;intro g2 u2 HM) | (have q:dL HM = 2:=rfl;clear q HM;intro g3 u3 HM) | (have q:dL HM = 3:=rfl;clear q HM;intro g4 u4 HM)) | (refine wl_load rfl _ _ rfl rfl (by exact q7a) HM (by exact q7e) (by exact q7l) ?_) | (refine wl_storeM rfl _ _ _ rfl rfl rfl (by exact q7a) HM (by exact q7x) (by exact q7l) (by exact q7l) ?_; clear HM; intro us HM; dsimp only [List.set] at HM) | (refine q8v rfl _ rfl (by exact q7a) (by kernel_rfl) ?_))
 refine (HC.out _).mono ?_
 rintro e w2 ⟨rfl, h1⟩
 replace HM := Lib.hid (HM.out.below h1)
 clear h1 HC
 go_wp2_with (first | ((first | refine wl_box rfl _ _ rfl rfl HM ?_ | refine wl_alloc rfl _ rfl (by exact q7a) HM ?_); first | (have q:dL HM = 0:=rfl;clear q HM;intro g1 u1 HM) | (have q:dL HM = 1:=rfl;clear q HM;intro g2 u2 HM) | (have q:dL HM = 2:=rfl;clear q HM;intro g3 u3 HM) | (have q:dL HM = 3:=rfl;clear q HM;intro g4 u4 HM)) | (refine wl_load rfl _ _ rfl rfl (by exact q7a) HM (by exact q7e) (by exact q7l) ?_) | (refine wl_storeM rfl _ _ _ rfl rfl rfl (by exact q7a) HM (by exact q7x) (by exact q7l) (by exact q7l) ?_; clear HM; intro us HM; dsimp only [List.set] at HM) | (refine q8v rfl _ rfl (by exact q7a) (by kernel_rfl) ?_))
 refine bodyPost_ret (v := .tuple #[.agg (icells (zr 32)), .int .i64 1]) (res_two rfl _ rfl rfl arrWave HM (.head _) HZ) rfl ⟨rfl, HM.out.1⟩
theorem inverse_good (x : List Int) (w : World) (lx : x.length = 16) (h : okX x = true) :
  Calls Tryz.prog 94 #[.agg (icells x)] w (ValQ w (.tuple #[.agg (icells (invL x)), .int .i64 0])) := by
 have HX := Lib.hid h
 have LX := Lib.hid lx
 have HM := Lib.hid (Mem.start w)
 have HL := Lib.hid (tab_length 32 (mixN x))
 have HC := Lib.hid (fun u => areNumbers_any x true u lx h)
 have HW := Lib.hid (fun u => mix_any x u h lx)
 clear lx h
 go_enter Tryz.func94, Tryz.ntmps94
 go_wp2_with (first | ((first | refine wl_box rfl _ _ rfl rfl HM ?_ | refine wl_alloc rfl _ rfl (by exact q7a) HM ?_); first | (have q:dL HM = 0:=rfl;clear q HM;intro g1 u1 HM) | (have q:dL HM = 1:=rfl;clear q HM;intro g2 u2 HM) | (have q:dL HM = 2:=rfl;clear q HM;intro g3 u3 HM) | (have q:dL HM = 3:=rfl;clear q HM;intro g4 u4 HM)) | (refine wl_load rfl _ _ rfl rfl (by exact q7a) HM (by exact q7e) (by exact q7l) ?_) | (refine wl_storeM rfl _ _ _ rfl rfl rfl (by exact q7a) HM (by exact q7x) (by exact q7l) (by exact q7l) ?_; clear HM; intro us HM; dsimp only [List.set] at HM) | (refine q8v rfl _ rfl (by exact q7a) (by kernel_rfl) ?_))
 refine (HC.out _).mono ?_
 rintro e w2 ⟨rfl, h1⟩
 replace HM := Lib.hid (HM.out.below h1)
 clear h1 HC
 go_wp2_with (first | ((first | refine wl_box rfl _ _ rfl rfl HM ?_ | refine wl_alloc rfl _ rfl (by exact q7a) HM ?_); first | (have q:dL HM = 0:=rfl;clear q HM;intro g1 u1 HM) | (have q:dL HM = 1:=rfl;clear q HM;intro g2 u2 HM) | (have q:dL HM = 2:=rfl;clear q HM;intro g3 u3 HM) | (have q:dL HM = 3:=rfl;clear q HM;intro g4 u4 HM)) | (refine wl_load rfl _ _ rfl rfl (by exact q7a) HM (by exact q7e) (by exact q7l) ?_) | (refine wl_storeM rfl _ _ _ rfl rfl rfl (by exact q7a) HM (by exact q7x) (by exact q7l) (by exact q7l) ?_; clear HM; intro us HM; dsimp only [List.set] at HM) | (refine q8v rfl _ rfl (by exact q7a) (by kernel_rfl) ?_))
 refine (HW.out _).mono ?_
 rintro e w4 ⟨rfl, h1⟩
 replace HM := Lib.hid (HM.out.below h1)
 clear h1 HW
 go_wp2_with (first | ((first | refine wl_box rfl _ _ rfl rfl HM ?_ | refine wl_alloc rfl _ rfl (by exact q7a) HM ?_); first | (have q:dL HM = 0:=rfl;clear q HM;intro g1 u1 HM) | (have q:dL HM = 1:=rfl;clear q HM;intro g2 u2 HM) | (have q:dL HM = 2:=rfl;clear q HM;intro g3 u3 HM) | (have q:dL HM = 3:=rfl;clear q HM;intro g4 u4 HM)) | (refine wl_load rfl _ _ rfl rfl (by exact q7a) HM (by exact q7e) (by exact q7l) ?_) | (refine wl_storeM rfl _ _ _ rfl rfl rfl (by exact q7a) HM (by exact q7x) (by exact q7l) (by exact q7l) ?_; clear HM; intro us HM; dsimp only [List.set] at HM) | (refine q8v rfl _ rfl (by exact q7a) (by kernel_rfl) ?_))
 go_loopw [14] (fun vi wr => ∃ k : Nat, k ≤ 32 ∧ vi = .int .i64 (k : Int) ∧ Hid (Mem w [(g3, 85, tab 32 (part2 k (inv x) (mixN x))), (g2, 85, zr 32), (g1, 89, x)] wr)) (fun vi _ => 32 - (intOf vi).toNat)
 case atStart => exact ⟨0, by omega, rfl, Lib.hid (by rw [part2_none]; exact HM.out)⟩
 case round =>
  clear HM
  obtain ⟨k, hk, rfl, HM⟩ := hrel
  by_cases hlt : k < 32
  ·have k32 : (k : Int) < 32 := by omega
   have hix := run_index 85 (n := 32) (by kernel_rfl) (tab 32 (mixN x)) (tab_length _ _) k hlt
   rw [tab_getD _ hlt] at hix
   have HS := Lib.hid (part2_set (n := 32) (k := k) (inv x) (mixN x))
   have HV := Lib.hid (show inv x k = roundI (roundI (mixN x k) 20 * winP k) 27 from rfl)
   have t1 := mix_sum HX.out k 16 (by omega)
   change -18014488704000000 ≤ mixN x k ∧ mixN x k ≤ 18014488704000000 at t1
   have t2 := inv_in HX.out hlt
   have HN := Lib.hid (fun u => win_any k (k : Int) (winP k) u hlt rfl rfl)
   generalize inv x k = v at HS HV
   generalize mixN x k = S at HV hix t1 t2
   obtain ⟨R, hR⟩ : ∃ R, roundI S 20 = R := ⟨_, rfl⟩
   rw [hR] at HV t2
   have HR := Lib.hid hR
   generalize winP k = y at HN HV t2
   have HT1 := Lib.hid t1
   have HT2 := Lib.hid t2
   have e1 : IntKind.i64.wrap (R * y) = R * y := i64_w (by omega) (by omega)
   clear t1 t2 hR
   go_wp2_with fail
   refine (round_any S 20 _ (by have := HT1.out; omega)).mono ?_
   rw [HR.out]
   rintro e w5 ⟨rfl, rfl⟩
   go_wp2_with fail
   refine (HN.out _).mono ?_
   rintro e w6 ⟨rfl, h1⟩
   have HM2 := Lib.hid (HM.out.below h1)
   clear h1 HM HN hix
   go_wp2_with fail
   refine (round_any (R * y) 27 _ (by have := HT2.out; omega)).mono ?_
   rw [← HV.out]
   rintro e w7 ⟨rfl, rfl⟩
   have c1 := HM2.out.cell (.head _) (k := k) (by rw [tab_length]; exact hlt)
   have f1 := HM2.out.free (.head _) k
   generalize List.getD _ k 0 = z at c1
   go_wp2
   have HM3 := Lib.hid (HM2.out.put 0 rfl k v)
   simp only [List.set_cons_zero] at HM3
   rw [HS.out] at HM3
   clear HM2 c1 f1
   go_roundw
   case rel => exact ⟨k + 1, by omega, by go_num, HM3⟩
   case measure => simp [intOf]; omega
  ·obtain rfl : k = 32 := by omega
   rw [part2_all] at HM
   have HL2 := Lib.hid (tab_length 32 (inv x))
   go_wp2_with (first | ((first | refine wl_box rfl _ _ rfl rfl HM ?_ | refine wl_alloc rfl _ rfl (by exact q7a) HM ?_); first | (have q:dL HM = 0:=rfl;clear q HM;intro g1 u1 HM) | (have q:dL HM = 1:=rfl;clear q HM;intro g2 u2 HM) | (have q:dL HM = 2:=rfl;clear q HM;intro g3 u3 HM) | (have q:dL HM = 3:=rfl;clear q HM;intro g4 u4 HM)) | (refine wl_load rfl _ _ rfl rfl (by exact q7a) HM (by exact q7e) (by exact q7l) ?_) | (refine wl_storeM rfl _ _ _ rfl rfl rfl (by exact q7a) HM (by exact q7x) (by exact q7l) (by exact q7l) ?_; clear HM; intro us HM; dsimp only [List.set] at HM) | (refine q8v rfl _ rfl (by exact q7a) (by kernel_rfl) ?_))
   refine bodyPost_ret (v := .tuple #[.agg (icells (invL x)), .int .i64 0]) (res_two rfl _ rfl rfl arrWave HM (.tail _ (.head _)) HL2) rfl ⟨rfl, HM.out.1⟩
theorem inverse_any (x : List Int) (w : World) (lx : x.length = 16) :
  Calls Tryz.prog 94 #[.agg (icells x)] w (ValQ w (invV x)) := by
 unfold invV
 by_cases h : okX x = true
 ·rw [if_pos h]; exact inverse_good x w lx h
 ·rw [if_neg h]; exact inverse_bad x w lx (by simpa using h)
end Go.Proofs.YtkcoboamejefiaaGreatDoor.Lp
namespace Go.Proofs.YtkcoboamejefiaaGreatDoor.Lp
open Go.RowKit Fx Fq Tb
def ic (xs : List Int) : List Value := xs.map fun x => Value.int .i64 x
theorem ic_length (xs : List Int) : (ic xs).length = xs.length := by rw [ic, List.length_map]
section
variable {w0 w : World} {L : List (Nat × TypeId × List Int)} {g n : Nat} {T : TypeId} {xs : List Int}
theorem Mem.range (h : Mem w0 L w) (hm : (g, T, xs) ∈ L) : w.rangeAt g 0 (ic xs) := fun j v hv => by
 rw [Nat.zero_add, (h.get hm).cell]
 rw [ic] at hv
 simpa [icells] using hv
theorem Mem.there (h : Mem w0 L w) (hm : (g, T, xs) ∈ L) (hl : xs.length = n) : w.there g 0 n := fun j hj => by
 rw [Nat.zero_add]
 refine ⟨?_, h.free hm j⟩
 rw [h.cell hm (by omega)]; rfl
theorem Mem.ne (h : Mem w0 L w) {i j : Nat} {a b : Nat × TypeId × List Int} (hi : L[i]? = some a) (hj : L[j]? = some b) (hij : i ≠ j) : a.1 ≠ b.1 := pw_ne h.2.2.2 hi hj hij
end
section
variable {ops : Array Oper} {o : Oper} {a : Act} {w w0 : World} {Q : Exit → Act → World → Prop} {K : Act → World → Prop} {L : List (Nat × TypeId × List Int)} {S : World → Prop}
theorem yi_load (hw : Region.wanted o (yielded ops a.tmps) = true) (T : TypeId) (x : Operand) (ho : o.op = .load T x) {g n : Nat} (hx : a.eval x = .pointer (some ⟨g, 0, none⟩)) (ha : Arr T n) {xs : List Int}
  (hS : ∀ u, S u → Mem w0 L u) (hin : (g, T, xs) ∈ L) (hl : Hid (xs.length = n)) : YieldsIf Tryz.prog ops S o (.agg (icells xs)) a :=
 .inl ⟨hw, fun u hu => by
  unfold execOp
  simp only [ho, hx, Instr.loadAt, Instr.sureAddr, Sem.run_bind, Sem.run_pure, Result.andThen_ok, run_load_mem ha (hS u hu) hin hl.out]⟩
theorem yi_cell (hw : Region.wanted o (yielded ops a.tmps) = true) (x : Operand) (ho : o.op = .load 3 x) {ad : Addr} (hx : a.eval x = .pointer (some ad)) {v : Int}
  (hS : ∀ u, S u → u.cell? ad = some (.int .i64 v)) : YieldsIf Tryz.prog ops S o (.int .i64 v) a :=
 .inl ⟨hw, fun u hu => by
  have hg : (isAgg 3).run Tryz.prog u = .ok false u := by kernel_rfl
  unfold execOp
  simp only [ho, hx, Instr.loadAt, Instr.sureAddr, Sem.run_bind, Sem.run_pure, Result.andThen_ok, loadVar, hg, run_load, hS u hu, Bool.false_eq_true, if_false]⟩
theorem yi_free (hw : Region.wanted o (yielded ops a.tmps) = true) {v : Value} (h : ∀ u, (execOp a.eval o).run Tryz.prog u = .ok (.value v) u) : YieldsIf Tryz.prog ops S o v a := .inl ⟨hw, fun u _ => h u⟩
theorem wa_take {md : Region.Mode} {i d : Nat} {oi : Oper} {v : Value} {fuel : Nat} {listed : Array Bool} (hi : ops[i]? = some oi)
  (hs : Region.noSelect ops = true) (hf : Region.free md ops listed i = true) (hr : (Region.ready md ops listed).contains i = true)
  (hQ : ∀ c a w, Q (.panic c) (a.put oi.dst v) w → Q (.panic c) a w) (hy : YieldsIf Tryz.prog ops S oi v a) (hS : S w) (hd : oi.dst = some d)
  (h : wpAnyH Tryz.prog md ops Q S fuel (listed.setIfInBounds i true) (a.put (some d) v) w) : wpAnyH Tryz.prog md ops Q S (fuel + 1) listed a w :=
 wpAnyH_take hi hs hf hr hQ hy hS (by rw [hd]; exact h)
theorem ow_store (T : TypeId) (x y : Operand) (ho : o.op = .store T x y) {g n : Nat} (hx : a.eval x = .pointer (some ⟨g, 0, none⟩)) {ys : List Int} (hy : a.eval y = .agg (icells ys)) (ha : Arr T n) {xs : List Int}
  (hm : Hid (Mem w0 L w)) (i : Nat) (hi : L[i]? = some (g, T, xs)) (hl : Hid (xs.length = n)) (hl' : Hid (ys.length = n))
  (hd : o.dst = none) (h : ∀ w', Hid (Mem w0 (L.set i (g, T, ys)) w') → K (a.put none undef) w') : o.wp Tryz.prog a w K Q := by
 rw [← hd] at h
 have := h _ (Lib.hid (hm.out.row i hi ys))
 unfold Oper.wp execOp
 simp only [ho, hx, hy, Instr.storeAt, Instr.sureAddr, Sem.run_bind, Sem.run_pure, Result.andThen_ok, run_store_mem ha hm.out (List.mem_of_getElem? hi) hl.out hl'.out]
 exact this
end
theorem lap_bad (t v : List Int) (w : World) (lt : t.length = 16) (lv : v.length = 32) (h : ¬ (okW t = true ∧ okW v = true)) :
  Calls Tryz.prog 40 #[.agg (icells t), .agg (icells v)] w (ValQ w (.tuple #[.agg (icells (zr 16)), .agg (icells (zr 16)), .int .i64 1])) := by
 have LT := Lib.hid lt
 have LV := Lib.hid lv
 have HM := Lib.hid (Mem.start w)
 have HZ := Lib.hid (zr_length 16)
 cases hp : okW t with
 | false =>
  have HP := Lib.hid hp
  clear lt lv h hp
  go_enter Tryz.func40, Tryz.ntmps40
  go_wp2_with (first | ((first | refine wl_box rfl _ _ rfl rfl HM ?_ | refine wl_alloc rfl _ rfl (by exact q7a) HM ?_); first | (have q:dL HM = 0:=rfl;clear q HM;intro g1 u1 HM) | (have q:dL HM = 1:=rfl;clear q HM;intro g2 u2 HM) | (have q:dL HM = 2:=rfl;clear q HM;intro g3 u3 HM) | (have q:dL HM = 3:=rfl;clear q HM;intro g4 u4 HM)) | (refine wl_load rfl _ _ rfl rfl (by exact q7a) HM (by exact q7e) (by exact q7l) ?_) | (refine wl_storeM rfl _ _ _ rfl rfl rfl (by exact q7a) HM (by exact q7x) (by exact q7l) (by exact q7l) ?_; clear HM; intro us HM; dsimp only [List.set] at HM) | (refine q8v rfl _ rfl (by exact q7a) (by kernel_rfl) ?_))
  refine (within_any _ _ _ 16 16 t false _ (Lib.hid (HM.out.rd (by exact q7e) LT.out)) (by unfold maxLen; omega) HP.out).mono ?_
  rintro e w2 ⟨rfl, rfl⟩
  go_wp2_with (first | ((first | refine wl_box rfl _ _ rfl rfl HM ?_ | refine wl_alloc rfl _ rfl (by exact q7a) HM ?_); first | (have q:dL HM = 0:=rfl;clear q HM;intro g1 u1 HM) | (have q:dL HM = 1:=rfl;clear q HM;intro g2 u2 HM) | (have q:dL HM = 2:=rfl;clear q HM;intro g3 u3 HM) | (have q:dL HM = 3:=rfl;clear q HM;intro g4 u4 HM)) | (refine wl_load rfl _ _ rfl rfl (by exact q7a) HM (by exact q7e) (by exact q7l) ?_) | (refine wl_storeM rfl _ _ _ rfl rfl rfl (by exact q7a) HM (by exact q7x) (by exact q7l) (by exact q7l) ?_; clear HM; intro us HM; dsimp only [List.set] at HM) | (refine q8v rfl _ rfl (by exact q7a) (by kernel_rfl) ?_))
  refine bodyPost_ret (v := .tuple #[.agg (icells (zr 16)), .agg (icells (zr 16)), .int .i64 1]) (res_three rfl _ rfl rfl rfl arrPcm arrTail HM (by exact q7e) (by exact q7e) HZ HZ) rfl ⟨rfl, HM.out.1⟩
 | true =>
  have hq : okW v = false := by
   cases hq : okW v with
   | false => rfl
   | true => exact absurd ⟨hp, hq⟩ h
  have HP := Lib.hid hp
  have HQ := Lib.hid hq
  clear lt lv h hp hq
  go_enter Tryz.func40, Tryz.ntmps40
  go_wp2_with (first | ((first | refine wl_box rfl _ _ rfl rfl HM ?_ | refine wl_alloc rfl _ rfl (by exact q7a) HM ?_); first | (have q:dL HM = 0:=rfl;clear q HM;intro g1 u1 HM) | (have q:dL HM = 1:=rfl;clear q HM;intro g2 u2 HM) | (have q:dL HM = 2:=rfl;clear q HM;intro g3 u3 HM) | (have q:dL HM = 3:=rfl;clear q HM;intro g4 u4 HM)) | (refine wl_load rfl _ _ rfl rfl (by exact q7a) HM (by exact q7e) (by exact q7l) ?_) | (refine wl_storeM rfl _ _ _ rfl rfl rfl (by exact q7a) HM (by exact q7x) (by exact q7l) (by exact q7l) ?_; clear HM; intro us HM; dsimp only [List.set] at HM) | (refine q8v rfl _ rfl (by exact q7a) (by kernel_rfl) ?_))
  refine (within_any _ _ _ 16 16 t true _ (Lib.hid (HM.out.rd (by exact q7e) LT.out)) (by unfold maxLen; omega) HP.out).mono ?_
  rintro e w2 ⟨rfl, rfl⟩
  go_wp2_with (first | ((first | refine wl_box rfl _ _ rfl rfl HM ?_ | refine wl_alloc rfl _ rfl (by exact q7a) HM ?_); first | (have q:dL HM = 0:=rfl;clear q HM;intro g1 u1 HM) | (have q:dL HM = 1:=rfl;clear q HM;intro g2 u2 HM) | (have q:dL HM = 2:=rfl;clear q HM;intro g3 u3 HM) | (have q:dL HM = 3:=rfl;clear q HM;intro g4 u4 HM)) | (refine wl_load rfl _ _ rfl rfl (by exact q7a) HM (by exact q7e) (by exact q7l) ?_) | (refine wl_storeM rfl _ _ _ rfl rfl rfl (by exact q7a) HM (by exact q7x) (by exact q7l) (by exact q7l) ?_; clear HM; intro us HM; dsimp only [List.set] at HM) | (refine q8v rfl _ rfl (by exact q7a) (by kernel_rfl) ?_))
  refine (within_any _ _ _ 32 32 v false _ (Lib.hid (HM.out.rd (by exact q7e) LV.out)) (by unfold maxLen; omega) HQ.out).mono ?_
  rintro e w2 ⟨rfl, rfl⟩
  go_wp2_with (first | ((first | refine wl_box rfl _ _ rfl rfl HM ?_ | refine wl_alloc rfl _ rfl (by exact q7a) HM ?_); first | (have q:dL HM = 0:=rfl;clear q HM;intro g1 u1 HM) | (have q:dL HM = 1:=rfl;clear q HM;intro g2 u2 HM) | (have q:dL HM = 2:=rfl;clear q HM;intro g3 u3 HM) | (have q:dL HM = 3:=rfl;clear q HM;intro g4 u4 HM)) | (refine wl_load rfl _ _ rfl rfl (by exact q7a) HM (by exact q7e) (by exact q7l) ?_) | (refine wl_storeM rfl _ _ _ rfl rfl rfl (by exact q7a) HM (by exact q7x) (by exact q7l) (by exact q7l) ?_; clear HM; intro us HM; dsimp only [List.set] at HM) | (refine q8v rfl _ rfl (by exact q7a) (by kernel_rfl) ?_))
  refine bodyPost_ret (v := .tuple #[.agg (icells (zr 16)), .agg (icells (zr 16)), .int .i64 1]) (res_three rfl _ rfl rfl rfl arrPcm arrTail HM (by exact q7e) (by exact q7e) HZ HZ) rfl ⟨rfl, HM.out.1⟩
theorem leftL_is {v : List Int} (lv : v.length = 32) : v.drop 16 = leftL v := by
 refine List.ext_getElem? fun i => ?_
 rw [List.getElem?_drop]
 unfold leftL
 by_cases h : i < 16
 ·rw [tab_get _ h, get_of_lt (by omega)]
 ·rw [List.getElem?_eq_none (by omega), List.getElem?_eq_none (by rw [tab_length]; omega)]
theorem lap_term {t v : List Int} (ht : okW t = true) (hv : okW v = true) (i : Nat) : -2199023255552 ≤ t.getD i 0 + v.getD i 0 ∧ t.getD i 0 + v.getD i 0 ≤ 2199023255552 := by
 have h1 := inR_bd ht (by omega) (by omega) i
 have h2 := inR_bd hv (by omega) (by omega) i
 omega
end Go.Proofs.YtkcoboamejefiaaGreatDoor.Lp
namespace Go.Proofs.YtkcoboamejefiaaGreatDoor.Lp
open Go.RowKit Fx Fq Tb
theorem lap_good (t v : List Int) (w : World) (lt : t.length = 16) (lv : v.length = 32) (ht : okW t = true) (hv : okW v = true) :
  Calls Tryz.prog 40 #[.agg (icells t), .agg (icells v)] w (ValQ w (.tuple #[.agg (icells (lapL t v)), .agg (icells (leftL v)), .int .i64 0])) := by
 have LT := Lib.hid lt
 have LV := Lib.hid lv
 have HP := Lib.hid ht
 have HQ := Lib.hid hv
 have HM := Lib.hid (Mem.start w)
 clear lt lv ht hv
 go_enter Tryz.func40, Tryz.ntmps40
 go_wp2_with (first | ((first | refine wl_box rfl _ _ rfl rfl HM ?_ | refine wl_alloc rfl _ rfl (by exact q7a) HM ?_); first | (have q:dL HM = 0:=rfl;clear q HM;intro g1 u1 HM) | (have q:dL HM = 1:=rfl;clear q HM;intro g2 u2 HM) | (have q:dL HM = 2:=rfl;clear q HM;intro g3 u3 HM) | (have q:dL HM = 3:=rfl;clear q HM;intro g4 u4 HM) | (have q:dL HM = 4:=rfl;clear q HM;intro g5 u5 HM) | (have q:dL HM = 5:=rfl;clear q HM;intro g6 u6 HM) | (have q:dL HM = 6:=rfl;clear q HM;intro g7 u7 HM) | (have q:dL HM = 7:=rfl;clear q HM;intro g8 u8 HM) | (have q:dL HM = 8:=rfl;clear q HM;intro g9 u9 HM) | (have q:dL HM = 9:=rfl;clear q HM;intro g10 u10 HM)) | (refine wl_load rfl _ _ rfl rfl (by exact q7a) HM (by exact q7e) (by exact q7l) ?_) | (refine wl_storeM rfl _ _ _ rfl rfl rfl (by exact q7a) HM (by exact q7x) (by exact q7l) (by exact q7l) ?_; clear HM; intro us HM; dsimp only [List.set] at HM) | (refine q8v rfl _ rfl (by exact q7a) (by kernel_rfl) ?_))
 refine (within_any _ _ _ 16 16 t true _ (Lib.hid (HM.out.rd (by exact q7e) LT.out)) (by unfold maxLen; omega) HP.out).mono ?_
 rintro e w2 ⟨rfl, rfl⟩
 go_wp2_with (first | ((first | refine wl_box rfl _ _ rfl rfl HM ?_ | refine wl_alloc rfl _ rfl (by exact q7a) HM ?_); first | (have q:dL HM = 0:=rfl;clear q HM;intro g1 u1 HM) | (have q:dL HM = 1:=rfl;clear q HM;intro g2 u2 HM) | (have q:dL HM = 2:=rfl;clear q HM;intro g3 u3 HM) | (have q:dL HM = 3:=rfl;clear q HM;intro g4 u4 HM) | (have q:dL HM = 4:=rfl;clear q HM;intro g5 u5 HM) | (have q:dL HM = 5:=rfl;clear q HM;intro g6 u6 HM) | (have q:dL HM = 6:=rfl;clear q HM;intro g7 u7 HM) | (have q:dL HM = 7:=rfl;clear q HM;intro g8 u8 HM) | (have q:dL HM = 8:=rfl;clear q HM;intro g9 u9 HM) | (have q:dL HM = 9:=rfl;clear q HM;intro g10 u10 HM)) | (refine wl_load rfl _ _ rfl rfl (by exact q7a) HM (by exact q7e) (by exact q7l) ?_) | (refine wl_storeM rfl _ _ _ rfl rfl rfl (by exact q7a) HM (by exact q7x) (by exact q7l) (by exact q7l) ?_; clear HM; intro us HM; dsimp only [List.set] at HM) | (refine q8v rfl _ rfl (by exact q7a) (by kernel_rfl) ?_))
 refine (within_any _ _ _ 32 32 v true _ (Lib.hid (HM.out.rd (by exact q7e) LV.out)) (by unfold maxLen; omega) HQ.out).mono ?_
 rintro e w2 ⟨rfl, rfl⟩
 go_wp2_with (first | ((first | refine wl_box rfl _ _ rfl rfl HM ?_ | refine wl_alloc rfl _ rfl (by exact q7a) HM ?_); first | (have q:dL HM = 0:=rfl;clear q HM;intro g1 u1 HM) | (have q:dL HM = 1:=rfl;clear q HM;intro g2 u2 HM) | (have q:dL HM = 2:=rfl;clear q HM;intro g3 u3 HM) | (have q:dL HM = 3:=rfl;clear q HM;intro g4 u4 HM) | (have q:dL HM = 4:=rfl;clear q HM;intro g5 u5 HM) | (have q:dL HM = 5:=rfl;clear q HM;intro g6 u6 HM) | (have q:dL HM = 6:=rfl;clear q HM;intro g7 u7 HM) | (have q:dL HM = 7:=rfl;clear q HM;intro g8 u8 HM) | (have q:dL HM = 8:=rfl;clear q HM;intro g9 u9 HM) | (have q:dL HM = 9:=rfl;clear q HM;intro g10 u10 HM)) | (refine wl_load rfl _ _ rfl rfl (by exact q7a) HM (by exact q7e) (by exact q7l) ?_) | (refine wl_storeM rfl _ _ _ rfl rfl rfl (by exact q7a) HM (by exact q7x) (by exact q7l) (by exact q7l) ?_; clear HM; intro us HM; dsimp only [List.set] at HM) | (refine q8v rfl _ rfl (by exact q7a) (by kernel_rfl) ?_))
 go_loopw [22] (fun vi wr => ∃ k : Nat, k ≤ 16 ∧ vi = .int .i64 (k : Int) ∧ Hid (Mem w [(g5, 41, tab 16 (part2 k (lapN t v) (fun _ => 0))), (g4, 23, zr 16), (g3, 41, zr 16), (g2, 85, v), (g1, 23, t)] wr)) (fun vi _ => 16 - (intOf vi).toNat)
 case atStart => exact ⟨0, by omega, rfl, Lib.hid (by rw [part2_none, tab_zero]; exact HM.out)⟩
 case round =>
  clear HM
  obtain ⟨k, hk, rfl, HM⟩ := hrel
  by_cases hlt : k < 16
  ·have k16 : (k : Int) < 16 := by omega
   have k32 : (k : Int) < 32 := by omega
   have hix := run_index 23 (n := 16) (by kernel_rfl) t LT.out k hlt
   have HS := Lib.hid (part2_set (n := 16) (k := k) (lapN t v) (fun _ => 0))
   have HV := Lib.hid (show lapN t v k = satI (roundI (t.getD k 0 + v.getD k 0) 8) 16 from rfl)
   have tt := lap_term HP.out HQ.out k
   have c2 := HM.out.cell (.tail _ (.tail _ (.tail _ (.head _)))) (k := k) (by rw [LV.out]; omega)
   obtain ⟨x, hx⟩ : ∃ x, t.getD k 0 = x := ⟨_, rfl⟩
   obtain ⟨y, hy⟩ : ∃ y, v.getD k 0 = y := ⟨_, rfl⟩
   rw [hx] at hix HV tt
   rw [hy] at HV tt c2
   clear hx hy
   generalize lapN t v k = z at HS HV
   have e1 : IntKind.i64.wrap (x + y) = x + y := i64_w (by omega) (by omega)
   have HT := Lib.hid tt
   obtain ⟨r, hr⟩ : ∃ r, roundI (x + y) 8 = r := ⟨_, rfl⟩
   rw [hr] at HV
   have HR := Lib.hid hr
   clear tt hr
   go_wp2_with fail
   refine (round_any (x + y) 8 _ (by have := HT.out; omega)).mono ?_
   rw [HR.out]
   rintro e w5 ⟨rfl, rfl⟩
   go_wp2_with fail
   refine (sat_any r 16 _).mono ?_
   rw [← HV.out]
   rintro e w5 ⟨rfl, rfl⟩
   have c1 := HM.out.cell (.head _) (k := k) (by rw [tab_length]; exact hlt)
   have f1 := HM.out.free (.head _) k
   generalize List.getD _ k 0 = o at c1
   clear hix c2 e1
   go_wp2
   have HM3 := Lib.hid (HM.out.put 0 rfl k z)
   simp only [List.set_cons_zero] at HM3
   rw [HS.out] at HM3
   clear HM c1 f1
   go_roundw
   case rel => exact ⟨k + 1, by omega, by go_num, HM3⟩
   case measure => simp [intOf]; omega
  ·obtain rfl : k = 16 := by omega
   rw [part2_all] at HM
   go_wp2_with (first | ((first | refine wl_box rfl _ _ rfl rfl HM ?_ | refine wl_alloc rfl _ rfl (by exact q7a) HM ?_); first | (have q:dL HM = 0:=rfl;clear q HM;intro g1 u1 HM) | (have q:dL HM = 1:=rfl;clear q HM;intro g2 u2 HM) | (have q:dL HM = 2:=rfl;clear q HM;intro g3 u3 HM) | (have q:dL HM = 3:=rfl;clear q HM;intro g4 u4 HM) | (have q:dL HM = 4:=rfl;clear q HM;intro g5 u5 HM) | (have q:dL HM = 5:=rfl;clear q HM;intro g6 u6 HM) | (have q:dL HM = 6:=rfl;clear q HM;intro g7 u7 HM) | (have q:dL HM = 7:=rfl;clear q HM;intro g8 u8 HM) | (have q:dL HM = 8:=rfl;clear q HM;intro g9 u9 HM) | (have q:dL HM = 9:=rfl;clear q HM;intro g10 u10 HM)) | (refine wl_load rfl _ _ rfl rfl (by exact q7a) HM (by exact q7e) (by exact q7l) ?_) | (refine wl_storeM rfl _ _ _ rfl rfl rfl (by exact q7a) HM (by exact q7x) (by exact q7l) (by exact q7l) ?_; clear HM; intro us HM; dsimp only [List.set] at HM) | (refine q8v rfl _ rfl (by exact q7a) (by kernel_rfl) ?_))
   have hcp := run_copy_mem (HM.out.drew.get (.head _)) 0 16 16 16 (rd_sub (HM.out.drew.get (.tail _ (.tail _ (.tail _ (.tail _ (.head _)))))) 16 16 (by rw [leftL_is LV.out]; exact tab_length _ _)) rfl (by rw [zr_length]; omega) (leftL v) (by
    rw [leftL_is LV.out, List.take_zero, List.nil_append, List.drop_eq_nil_of_le (by rw [zr_length]; omega), List.append_nil])
   go_region_with (fail)
   have HM2 := Lib.hid (HM.out.drew.row 0 rfl (leftL v))
   simp only [List.set_cons_zero] at HM2
   clear hcp HM
   generalize World.setRow _ g6 _ = u9 at HM2 ⊢
   go_wp2_with fail
   have HLa := Lib.hid (tab_length 16 (lapN t v))
   have HLb := Lib.hid (show (leftL v).length = 16 from tab_length 16 _)
   refine wp_region_held_drew (S := Mem w [(g6, 23, leftL v), (g5, 41, tab 16 (lapN t v))]) (by kernel_rfl) (HM2.out.drew.sub (by exact q7u)) (fun hHeld => ?_)
   have HM := Lib.hid HM2.out.drew
   clear HM2
   (refine wa_take (i := 0) rfl (by kernel_rfl) (by kernel_rfl) (by kernel_rfl) (fun _ _ _ h => h) (yi_load rfl _ _ rfl rfl (by exact q7a) (fun u hu => hu) (by exact q7e) (by exact q7l)) hHeld rfl ?_; (try simp only [Act.put, qz1, qz2, qz3]))
   (refine wa_take (i := 1) rfl (by kernel_rfl) (by kernel_rfl) (by kernel_rfl) (fun _ _ _ h => h) (yi_load rfl _ _ rfl rfl (by exact q7a) (fun u hu => hu) (by exact q7e) (by exact q7l)) hHeld rfl ?_; (try simp only [Act.put, qz1, qz2, qz3]))
   (refine wpAnyH_ready (rs := [2]) (by kernel_rfl) (by simp) ?_; refine AllReadyH.cons rfl (fun K hK => ?_) AllReadyH.nil; rw [if_pos (by rfl)]; refine ow_store _ _ _ rfl rfl rfl (by exact q7a) HM 3 rfl (by exact q7l) (by exact q7l) rfl ?_; clear HM; intro us HM; simp only [List.set_cons_zero, List.set_cons_succ] at HM; refine hK.out _ _ (HM.out.sub (by exact q7u)) (fun hHeld => ?_); clear hK K; (try simp only [Act.put]))
   (refine wpAnyH_ready (rs := [3]) (by kernel_rfl) (by simp) ?_; refine AllReadyH.cons rfl (fun K hK => ?_) AllReadyH.nil; rw [if_pos (by rfl)]; refine ow_store _ _ _ rfl rfl rfl (by exact q7a) HM 2 rfl (by exact q7l) (by exact q7l) rfl ?_; clear HM; intro us HM; simp only [List.set_cons_zero, List.set_cons_succ] at HM; refine hK.out _ _ (HM.out.sub (by exact q7u)) (fun hHeld => ?_); clear hK K; (try simp only [Act.put]))
   (refine wa_take (i := 4) rfl (by kernel_rfl) (by kernel_rfl) (by kernel_rfl) (fun _ _ _ h => h) (yi_free rfl (fun u => rfl)) hHeld rfl ?_; (try simp only [Act.put, qz1, qz2, qz3]))
   refine wpAnyH_done (by kernel_rfl) ?_ _
   go_wp2
   refine bodyPost_ret (v := .tuple #[.agg (icells (lapL t v)), .agg (icells (leftL v)), .int .i64 0]) (res_three rfl _ rfl rfl rfl arrPcm arrTail HM (by exact q7e) (by exact q7e) HLa HLb) rfl ⟨rfl, HM.out.1⟩
theorem lap_any (t v : List Int) (w : World) (lt : t.length = 16) (lv : v.length = 32) :
  Calls Tryz.prog 40 #[.agg (icells t), .agg (icells v)] w (ValQ w (lapV t v)) := by
 unfold lapV
 by_cases h : okW t = true ∧ okW v = true
 ·rw [if_pos h]; exact lap_good t v w lt lv h.1 h.2
 ·rw [if_neg h]; exact lap_bad t v w lt lv h
end Go.Proofs.YtkcoboamejefiaaGreatDoor.Lp
namespace Go.Proofs.YtkcoboamejefiaaGreatDoor.Lp
open Go.RowKit Fx Fq Tb
theorem rwithin_any (v B : Int) (b : Bool) (w : World) (hb : decide (-B ≤ v ∧ v ≤ B) = b) (h1 : 0 ≤ B := by omega) (h2 : B ≤ 1099511627776 := by omega) :
  Calls Tryz.prog 48 #[.int .i64 v, .int .i64 B] w fun e w' => e = .returned (.bool b) ∧ w = w' := by
 by_cases k1 : -B ≤ v
 ·by_cases k2 : v ≤ B
  ·obtain rfl : b = true := by rw [← hb]; exact decide_eq_true ⟨k1, k2⟩
   clear hb
   go_enter Tryz.func48, Tryz.ntmps48
   go_wp2
   go_ret
   exact ⟨rfl, rfl⟩
  ·obtain rfl : b = false := by rw [← hb]; exact decide_eq_false (fun h => k2 h.2)
   clear hb
   have k3 : B < v := by omega
   go_enter Tryz.func48, Tryz.ntmps48
   go_wp2
   go_ret
   exact ⟨rfl, rfl⟩
 ·obtain rfl : b = false := by rw [← hb]; exact decide_eq_false (fun h => k1 h.1)
  clear hb
  have k3 : v < -B := by omega
  go_enter Tryz.func48, Tryz.ntmps48
  go_wp2
  go_ret
  exact ⟨rfl, rfl⟩
theorem mayT_any (x : List Int) (b : Bool) (w : World) (lx : x.length = 16) (hb : okW x = b) :
  Calls Tryz.prog 30 #[.agg (icells x)] w fun e w' => e = .returned (.bool b) ∧ Below w.heap.size w w' := by
 have LX := Lib.hid lx
 have HI := Lib.hid (inR_iff (lo := -1099511627776) (hi := 1099511627776) lx)
 rw [show inR (-1099511627776) 1099511627776 x = b from hb] at HI
 have HM := Lib.hid (Mem.start w)
 clear lx hb
 go_enter Tryz.func30, Tryz.ntmps30
 go_wp2_with (first | ((first | refine wl_box rfl _ _ rfl rfl HM ?_ | refine wl_alloc rfl _ rfl (by exact q7a) HM ?_); first | (have q:dL HM = 0:=rfl;clear q HM;intro g1 u1 HM) | (have q:dL HM = 1:=rfl;clear q HM;intro g2 u2 HM) | (have q:dL HM = 2:=rfl;clear q HM;intro g3 u3 HM) | (have q:dL HM = 3:=rfl;clear q HM;intro g4 u4 HM)) | (refine wl_load rfl _ _ rfl rfl (by exact q7a) HM (by exact q7e) (by exact q7l) ?_) | (refine wl_storeM rfl _ _ _ rfl rfl rfl (by exact q7a) HM (by exact q7x) (by exact q7l) (by exact q7l) ?_; clear HM; intro us HM; dsimp only [List.set] at HM) | (refine q8v rfl _ rfl (by exact q7a) (by kernel_rfl) ?_))
 go_loop [6] (fun vi => ∃ k : Nat, vi = .int .i64 (k : Int) ∧ k ≤ 16 ∧ Hid (∀ j, j < k → -1099511627776 ≤ x.getD j 0 ∧ x.getD j 0 ≤ 1099511627776)) (fun vi => 16 - (intOf vi).toNat)
 case atStart => exact ⟨0, rfl, by omega, Lib.hid (fun j hj => by omega)⟩
 case round =>
  obtain ⟨k, rfl, hk, HK⟩ := hrel
  by_cases hlt : k < 16
  ·have hix := run_index 23 (n := 16) (by kernel_rfl) x LX.out k hlt
   obtain ⟨v, hv⟩ : ∃ v, x.getD k 0 = v := ⟨_, rfl⟩
   rw [hv] at hix
   have HX := Lib.hid hv
   have kn : (k : Int) < 16 := by omega
   clear hv
   by_cases h : -1099511627776 ≤ v ∧ v ≤ 1099511627776
   ·have HW := Lib.hid (fun u => rwithin_any v 1099511627776 true u (decide_eq_true h))
    go_wp2_with fail
    refine (HW.out _).mono ?_
    rintro e w2 ⟨rfl, rfl⟩
    go_wp2
    go_round
    case rel =>
     refine ⟨k + 1, by go_num, by omega, Lib.hid fun j hj => ?_⟩
     by_cases hjk : j < k
     ·exact HK.out j hjk
     ·obtain rfl : j = k := by omega
      rw [HX.out]; exact h
    case measure => simp [intOf]; omega
   ·have HW := Lib.hid (fun u => rwithin_any v 1099511627776 false u (decide_eq_false h))
    obtain rfl : b = false := by
     cases b with
     | false => rfl
     | true => have := HI.out.1 rfl k hlt; rw [HX.out] at this; exact absurd this h
    go_wp2_with fail
    refine (HW.out _).mono ?_
    rintro e w2 ⟨rfl, rfl⟩
    go_wp2
    go_ret
    exact ⟨rfl, HM.out.1⟩
  ·obtain rfl : k = 16 := by omega
   obtain rfl : b = true := HI.out.2 HK.out
   go_wp2
   go_ret
   exact ⟨rfl, HM.out.1⟩
end Go.Proofs.YtkcoboamejefiaaGreatDoor.Lp
namespace Go.Proofs.YtkcoboamejefiaaGreatDoor.Lp
open Go.RowKit Fx Fq Tb
end Go.Proofs.YtkcoboamejefiaaGreatDoor.Lp
namespace Go.Proofs.YtkcoboamejefiaaGreatDoor.Lp
open Go.RowKit Fx Fq Tb
end Go.Proofs.YtkcoboamejefiaaGreatDoor.Lp
namespace Go.Proofs.YtkcoboamejefiaaGreatDoor.Lp
open Go.RowKit Fx Fq Tb
theorem run_items_same (d : Nat) (xs : List Int) (u : World) : ∀ l : List Nat, (∀ i ∈ l, i < xs.length) → (Op.eqItems (d + 1) 3 1 (icells xs) (icells xs) l).run Tryz.prog u = .ok true u
 | [], _ => by simp [Op.eqItems]
 | i :: l, h => by
  have ih := run_items_same d xs u l fun j hj => h j (by simp [hj])
  have ha : (isAgg 3).run Tryz.prog u = .ok false u := by kernel_rfl
  have hu : Tryz.prog.underlying 3 = some (.int .i64) := by kernel_rfl
  have hc : (icells xs)[i]? = some (.int .i64 (xs.getD i 0)) := icells_get (h i (by simp))
  have hp : (part 3 (icells xs) (i * 1)).run Tryz.prog u = .ok (.int .i64 (xs.getD i 0)) u := by
   rw [Nat.mul_one]
   simp only [part, Sem.run_bind, ha, Result.andThen_ok, Bool.false_eq_true, if_false, hc, Sem.run_pure]
  have he := run_equalIn_int (P := Tryz.prog) u d 3 .i64 .i64 (xs.getD i 0) (xs.getD i 0) hu
  simp only [Op.eqItems, Sem.run_bind, hp, Result.andThen_ok, he, beq_self_eq_true]
  simpa using ih
theorem run_equalIn_same (T : TypeId) {n : Nat} (hT : Tryz.prog.underlying T = some (.array n 3)) (xs : List Int) (hl : xs.length = n) (w : World) :
  (Op.equalIn 10000 T (.agg (icells xs)) (.agg (icells xs))).run Tryz.prog w = .ok true w := by
 have hc : Tryz.prog.cellsOf 3 = 1 := by kernel_rfl
 obtain ⟨i, hi⟩ : ∃ i, Tryz.prog.info? 3 = some i := Option.isSome_iff_exists.1 (by kernel_rfl)
 rw [run_equalIn_array w 9999 (icells xs) (icells xs) hT hi, hc]
 exact run_items_same 9998 xs w _ fun j hj => by rw [hl]; exact List.mem_range.1 hj
theorem grdPcm : Tryz.prog.eqGuardType Tryz.prog.depth 41 = false := by kernel_rfl
theorem grdTail : Tryz.prog.eqGuardType Tryz.prog.depth 23 = false := by kernel_rfl
theorem zr_getD (n k : Nat) : (zr n).getD k 0 = 0 := by
 unfold zr
 rw [List.getD_eq_getElem?_getD, List.getElem?_replicate]
 split <;> rfl
def p1 : List Int := 32768 :: List.replicate 15 0
def x1 : List Int := 3 :: -4 :: List.replicate 14 0
end Go.Proofs.YtkcoboamejefiaaGreatDoor.Lp
namespace Go.Proofs.YtkcoboamejefiaaGreatDoor.Lp
open Go.ChangeShapes Go.WideShapes Go.ChangeAt Go.RowKit Go.Joins Go.Deep Fq
theorem laidOut : laidOutB Tryz.prog = true := by kernel_rfl
theorem own : ownKnob Tryz.prog.godebug = none := by kernel_rfl
theorem cells_int : Tryz.prog.cellsOf 3 = 1 := by kernel_rfl
theorem ints_of : ∀ (n : Nat) (l : List Value), l.length = n → (∀ i, i < n → ∃ z : Int, (l.drop i).take 1 = [.int .i64 z]) → ∃ zs : List Int, zs.length = n ∧ l = zs.map fun x => Value.int .i64 x
 | 0, l, hl, _ => ⟨[], rfl, by simpa using hl⟩
 | n + 1, l, hl, h => by
  match l, hl, h with
  | v :: l, hl, h =>
   obtain ⟨z, hz⟩ := h 0 (by omega)
   simp only [List.drop_zero, List.take_succ_cons, List.take_zero, List.cons.injEq, and_true] at hz
   obtain ⟨zs, hzl, e⟩ := ints_of n l (by simpa using hl) fun i hi => by
    have := h (i + 1) (by omega)
    simpa using this
   exact ⟨z :: zs, by simp [hzl], by rw [hz, e]; rfl⟩
section
variable {H : Type} {enc : TypeId × Value → H} {W : World} {base : Nat} {spare : Nat → Bool} {held : Bool}
set_option maxRecDepth 20000 in
theorem open_arr {b0 : Nat} {r : Reach} {T : TypeId} {n : Nat} {v : Value} {d : DataW H} {p : List MemPlace} (hT : Tryz.prog.underlying T = some (.array n 3)) (hc : Tryz.prog.cellsOf T = n)
  (hv : Value.okWide Tryz.prog W r b0 T v) (h : DataW.Trod enc Tryz.prog W base spare held T v d p) : ∃ zs : List Int, v = .agg (icells zs) ∧ zs.length = n := by
 obtain ⟨cs, rfl, hsz⟩ : ∃ cs, v = .agg cs ∧ cs.size = n := by
  simp only [Value.okWide, hT] at hv
  obtain ⟨cs, h1, h2, _⟩ := hv
  exact ⟨cs, h1, by rw [h2, hc]⟩
 obtain ⟨fuel, hf⟩ := h
 obtain ⟨xs, m, rfl, _, hl, hn, hel⟩ := DataW.trod_array hT hf
 obtain ⟨zs, hz, e⟩ := ints_of n cs.toList (by simpa using hsz) fun i hi => by
  have hi' := hel i hi
  rw [cells_int, Nat.mul_one] at hi'
  have hx : xs[i]? = some xs[i] := List.getElem?_eq_getElem (by omega)
  rw [hx] at hi'
  obtain ⟨z, hz, _⟩ := DataW.trod_int Tryz.underlying3 hi'
  exact ⟨z, by simpa [Value.cells] using hz⟩
 refine ⟨zs, ?_, hz⟩
 unfold icells
 rw [← e]
end
end Go.Proofs.YtkcoboamejefiaaGreatDoor.Lp
namespace Go.Proofs.YtkcoboamejefiaaGreatDoor.Cd
def kind (low high : Nat) : Nat := if high < 2147483648 then 0 else if 2147483648 ≤ low then 1 else if 1073741824 ≤ low ∧ high < 3221225472 then 2 else 3
def takeK (k : Nat) : Nat := if k = 1 then 2147483648 else if k = 2 then 1073741824 else 0
theorem takeK_0 : takeK 0 = 0 := by decide
theorem takeK_1 : takeK 1 = 2147483648 := by decide
theorem takeK_2 : takeK 2 = 1073741824 := by decide
theorem pow32 : (2 : Nat) ^ 32 = 4294967296 := by decide
structure En where
 low : Nat
 high : Nat
 wait : Nat
 out : List Bool
def emit (out : List Bool) (x : Bool) (wait : Nat) : List Bool := out ++ (x :: List.replicate wait (!x))
def stepE (e : En) : En :=
 if kind e.low e.high = 0 then ⟨2 * e.low, 2 * e.high + 1, 0, emit e.out false e.wait⟩
 else if kind e.low e.high = 1 then ⟨2 * (e.low - 2147483648), 2 * (e.high - 2147483648) + 1, 0, emit e.out true e.wait⟩
 else if kind e.low e.high = 2 then ⟨2 * (e.low - 1073741824), 2 * (e.high - 1073741824) + 1, e.wait + 1, e.out⟩
 else e
def widE : Nat → En → En
 | 0, e => e
 | n + 1, e => if kind e.low e.high = 3 then e else widE n (stepE e)
def Ok (low high : Nat) : Prop := low ≤ high ∧ high < 4294967296
theorem kind_cases (low high : Nat) : (kind low high = 0 ∧ high < 2147483648) ∨ (kind low high = 1 ∧ 2147483648 ≤ high ∧ 2147483648 ≤ low) ∨ (kind low high = 2 ∧ 2147483648 ≤ high ∧ low < 2147483648 ∧ 1073741824 ≤ low ∧ high < 3221225472) ∨ (kind low high = 3 ∧ 2147483648 ≤ high ∧ low < 2147483648 ∧ (low < 1073741824 ∨ 3221225472 ≤ high)) := by
 unfold kind
 split
 ·exact .inl ⟨rfl, by assumption⟩
 ·split
  ·exact .inr (.inl ⟨rfl, by omega, by assumption⟩)
  ·split
   ·exact .inr (.inr (.inl ⟨rfl, by omega, by omega, by omega, by omega⟩))
   ·exact .inr (.inr (.inr ⟨rfl, by omega, by omega, by omega⟩))
def off (e : En) : Nat := num e.out * 2 ^ (e.wait + 32) + (2 ^ e.wait - 1) * 2147483648
def len (e : En) : Nat := e.out.length + e.wait
def RL (e : En) : Nat := off e + e.low
def RH (e : En) : Nat := off e + e.high
theorem emit_length (o : List Bool) (x : Bool) (n : Nat) : (emit o x n).length = o.length + n + 1 := by simp [emit]; omega
theorem num_rep_true (n : Nat) : num (List.replicate n true) = 2 ^ n - 1 := by
 induction n with
 | zero => rfl
 | succ n ih =>
  rw [List.replicate_succ, num_cons, ih, List.length_replicate]
  have : 0 < 2 ^ n := Nat.pow_pos (by omega)
  simp [Nat.pow_succ]; omega
theorem num_rep_false (n : Nat) : num (List.replicate n false) = 0 := by
 induction n with
 | zero => rfl
 | succ n ih => rw [List.replicate_succ, num_cons, ih]; simp
theorem num_emit_false (o : List Bool) (n : Nat) : num (emit o false n) = num o * 2 ^ (n + 1) + (2 ^ n - 1) := by
 unfold emit
 rw [num_append, num_cons]
 simp [num_rep_true]
theorem num_emit_true (o : List Bool) (n : Nat) : num (emit o true n) = num o * 2 ^ (n + 1) + 2 ^ n := by
 unfold emit
 rw [num_append, num_cons]
 simp [num_rep_false]
theorem stepE_0 {e : En} (h : kind e.low e.high = 0) : stepE e = ⟨2 * e.low, 2 * e.high + 1, 0, emit e.out false e.wait⟩ := by unfold stepE; rw [if_pos h]
theorem stepE_1 {e : En} (h : kind e.low e.high = 1) : stepE e = ⟨2 * (e.low - 2147483648), 2 * (e.high - 2147483648) + 1, 0, emit e.out true e.wait⟩ := by unfold stepE; rw [if_neg (by omega), if_pos h]
theorem stepE_2 {e : En} (h : kind e.low e.high = 2) : stepE e = ⟨2 * (e.low - 1073741824), 2 * (e.high - 1073741824) + 1, e.wait + 1, e.out⟩ := by unfold stepE; rw [if_neg (by omega), if_neg (by omega), if_pos h]
theorem off_zero (l h : Nat) (o : List Bool) : off ⟨l, h, 0, o⟩ = num o * 4294967296 := by
 unfold off
 simp only [Nat.zero_add, Nat.pow_zero, pow32, Nat.sub_self, Nat.zero_mul, Nat.add_zero]
theorem off_is (e : En) (q : Nat) (hq : 2 ^ e.wait = q + 1) : off e = num e.out * (q + 1) * 4294967296 + q * 2147483648 := by
 unfold off
 rw [Nat.pow_add, pow32, hq, Nat.add_sub_cancel, Nat.mul_assoc]
theorem stepE_off {e : En} (h : kind e.low e.high ≠ 3) : off (stepE e) = 2 * off e + 2 * takeK (kind e.low e.high) ∧ len (stepE e) = len e + 1 := by
 have hp : 0 < 2 ^ e.wait := Nat.pow_pos (by omega)
 obtain ⟨q, hq⟩ : ∃ q, 2 ^ e.wait = q + 1 := ⟨2 ^ e.wait - 1, by omega⟩
 rw [off_is e q hq]
 rcases kind_cases e.low e.high with ⟨hk, _⟩ | ⟨hk, _⟩ | ⟨hk, _⟩ | ⟨hk, _⟩
 ·rw [stepE_0 hk, hk, takeK_0, off_zero, num_emit_false, Nat.pow_succ, hq, Nat.add_sub_cancel]
  refine ⟨?_, by simp only [len, emit_length] <;> omega⟩
  have : num e.out * ((q + 1) * 2) = num e.out * (q + 1) * 2 := by rw [Nat.mul_assoc]
  rw [this]
  generalize num e.out * (q + 1) = z
  omega
 ·rw [stepE_1 hk, hk, takeK_1, off_zero, num_emit_true, Nat.pow_succ, hq]
  refine ⟨?_, by simp only [len, emit_length] <;> omega⟩
  have : num e.out * ((q + 1) * 2) = num e.out * (q + 1) * 2 := by rw [Nat.mul_assoc]
  rw [this]
  generalize num e.out * (q + 1) = z
  omega
 ·rw [stepE_2 hk, hk, takeK_2]
  have hq2 : 2 ^ (e.wait + 1) = (2 * q + 1) + 1 := by rw [Nat.pow_succ, hq]; omega
  rw [off_is ⟨2 * (e.low - 1073741824), 2 * (e.high - 1073741824) + 1, e.wait + 1, e.out⟩ (2 * q + 1) hq2]
  refine ⟨?_, by simp only [len]; omega⟩
  have : num e.out * (2 * q + 1 + 1) = num e.out * (q + 1) * 2 := by rw [Nat.mul_assoc]; congr 1; omega
  show num e.out * (2 * q + 1 + 1) * 4294967296 + (2 * q + 1) * 2147483648 = _
  rw [this]
  generalize num e.out * (q + 1) = z
  omega
 ·exact absurd hk h
theorem stepE_low {e : En} (hok : Ok e.low e.high) (h : kind e.low e.high ≠ 3) : (stepE e).low + 2 * takeK (kind e.low e.high) = 2 * e.low ∧ (stepE e).high + 2 * takeK (kind e.low e.high) = 2 * e.high + 1 ∧ Ok (stepE e).low (stepE e).high := by
 obtain ⟨h1, h2⟩ := hok
 rcases kind_cases e.low e.high with ⟨hk, _⟩ | ⟨hk, _⟩ | ⟨hk, _⟩ | ⟨hk, _⟩
 ·rw [stepE_0 hk, hk, takeK_0]; unfold Ok; dsimp only; refine ⟨?_, ?_, ?_, ?_⟩ <;> omega
 ·rw [stepE_1 hk, hk, takeK_1]; unfold Ok; dsimp only; refine ⟨?_, ?_, ?_, ?_⟩ <;> omega
 ·rw [stepE_2 hk, hk, takeK_2]; unfold Ok; dsimp only; refine ⟨?_, ?_, ?_, ?_⟩ <;> omega
 ·exact absurd hk h
theorem stepE_R {e : En} (hok : Ok e.low e.high) (h : kind e.low e.high ≠ 3) : RL (stepE e) = 2 * RL e ∧ RH (stepE e) = 2 * RH e + 1 := by
 obtain ⟨a1, _⟩ := stepE_off h
 obtain ⟨b1, b2, _⟩ := stepE_low hok h
 unfold RL RH
 omega
def wid (e : En) : Nat := e.high - e.low + 1
theorem stepE_wid {e : En} (hok : Ok e.low e.high) (h : kind e.low e.high ≠ 3) : wid (stepE e) = 2 * wid e := by
 obtain ⟨b1, b2, b3⟩ := stepE_low hok h
 obtain ⟨h1, h2⟩ := hok
 obtain ⟨h3, h4⟩ := b3
 unfold wid
 omega
theorem wid_small {e : En} (hok : Ok e.low e.high) (h : kind e.low e.high ≠ 3) : wid e ≤ 2147483648 := by
 obtain ⟨h1, h2⟩ := hok
 unfold wid
 rcases kind_cases e.low e.high with ⟨hk, _⟩ | ⟨hk, _⟩ | ⟨hk, _⟩ | ⟨hk, _⟩
 ·omega
 ·omega
 ·omega
 ·exact absurd hk h
theorem widE_facts (n : Nat) : ∀ (e : En), Ok e.low e.high → ∃ k, k ≤ n ∧ len (widE n e) = len e + k ∧ RL (widE n e) = RL e * 2 ^ k ∧ RH (widE n e) + 1 = (RH e + 1) * 2 ^ k ∧ wid (widE n e) = wid e * 2 ^ k ∧ Ok (widE n e).low (widE n e).high ∧ (4294967296 < wid e * 2 ^ (n + 1) → kind (widE n e).low (widE n e).high = 3) := by
 induction n with
 | zero =>
  intro e hok
  refine ⟨0, by omega, by simp [widE], by simp [widE], by simp [widE], by simp [widE], hok, fun hw => ?_⟩
  by_cases h : kind e.low e.high = 3
  ·exact h
  ·have := wid_small hok h
   simp at hw
   omega
 | succ n ih =>
  intro e hok
  unfold widE
  by_cases h : kind e.low e.high = 3
  ·rw [if_pos h]
   exact ⟨0, by omega, by simp, by simp, by simp, by simp, hok, fun _ => h⟩
  ·rw [if_neg h]
   obtain ⟨k, hk, a1, a2, a3, a4, a5, a6⟩ := ih (stepE e) (stepE_low hok h).2.2
   obtain ⟨r1, r2⟩ := stepE_R hok h
   refine ⟨k + 1, by omega, by rw [a1, (stepE_off h).2]; omega, ?_, ?_, ?_, a5, fun hw => a6 ?_⟩
   ·rw [a2, r1, Nat.pow_succ, Nat.mul_comm 2 (RL e), Nat.mul_assoc, Nat.mul_comm 2]
   ·rw [a3, r2, show 2 * RH e + 1 + 1 = (RH e + 1) * 2 by omega, Nat.pow_succ, Nat.mul_assoc, Nat.mul_comm 2]
   ·rw [a4, stepE_wid hok h, Nat.pow_succ, Nat.mul_comm 2 (wid e), Nat.mul_assoc, Nat.mul_comm 2]
   ·rw [stepE_wid hok h]
    rw [Nat.pow_succ 2 (n + 1)] at hw
    rw [Nat.mul_comm 2 (wid e), Nat.mul_assoc, Nat.mul_comm 2]
    exact hw
end Go.Proofs.YtkcoboamejefiaaGreatDoor.Cd
namespace Go.Proofs.YtkcoboamejefiaaGreatDoor.Cd
def val (inp : List Bool) : Nat → Nat
 | 0 => 0
 | m + 1 => 2 * val inp m + (bitF inp m).toNat
theorem val_succ (inp : List Bool) (m : Nat) : val inp (m + 1) = 2 * val inp m + (bitF inp m).toNat := rfl
theorem toNat_le (b : Bool) : b.toNat ≤ 1 := by cases b <;> decide
theorem val_add (inp : List Bool) (m k : Nat) : val inp m * 2 ^ k ≤ val inp (m + k) ∧ val inp (m + k) < (val inp m + 1) * 2 ^ k := by
 induction k with
 | zero => simp
 | succ k ih =>
  have hb := toNat_le (bitF inp (m + k))
  rw [← Nat.add_assoc, val_succ inp (m + k), Nat.pow_succ, ← Nat.mul_assoc, ← Nat.mul_assoc]
  generalize val inp m * 2 ^ k = a at ih
  generalize (val inp m + 1) * 2 ^ k = b at ih
  omega
theorem val_pre (b tail : List Bool) (m : Nat) (h : m ≤ b.length) : val (b ++ tail) m = num (b.take m) := by
 induction m with
 | zero => rfl
 | succ m ih =>
  have hm : m < b.length := by omega
  rw [List.take_succ_eq_append_getElem hm, num_snoc, ← ih (by omega)]
  show 2 * val (b ++ tail) m + (bitF (b ++ tail) m).toNat = _
  rw [bitF_append, if_pos hm]
  simp [bitF, List.getD_eq_getElem?_getD, hm]
structure De where
 low : Nat
 high : Nat
 code : Nat
 at_ : Nat
def stepD (inp : List Bool) (d : De) : De :=
 ⟨2 * (d.low - takeK (kind d.low d.high)), 2 * (d.high - takeK (kind d.low d.high)) + 1, 2 * (d.code - takeK (kind d.low d.high)) + (bitF inp d.at_).toNat, d.at_ + 1⟩
def widD : Nat → List Bool → De → De
 | 0, _, d => d
 | n + 1, inp, d => if kind d.low d.high = 3 then d else widD n inp (stepD inp d)
def nar (e : En) (a b T : Nat) : En := ⟨e.low + wid e * a / T, e.low + wid e * b / T - 1, e.wait, e.out⟩
def putE (e : En) (a b T : Nat) : En := widE 40 (nar e a b T)
def In (inp : List Bool) (e : En) : Prop := RL e ≤ val inp (len e + 32) ∧ val inp (len e + 32) ≤ RH e
def Sync (inp : List Bool) (e : En) (d : De) : Prop := d.low = e.low ∧ d.high = e.high ∧ d.at_ = len e + 32 ∧ d.code + off e = val inp (len e + 32)
theorem wide_wid {e : En} (hok : Ok e.low e.high) (h : kind e.low e.high = 3) : 1073741824 ≤ wid e ∧ wid e ≤ 4294967296 := by
 obtain ⟨h1, h2⟩ := hok
 unfold wid
 rcases kind_cases e.low e.high with ⟨hk, _⟩ | ⟨hk, _⟩ | ⟨hk, _⟩ | ⟨hk, h3, h4, h5⟩
 ·omega
 ·omega
 ·omega
 ·omega
def Sp (a b T : Nat) : Prop := a < b ∧ b ≤ T ∧ T ≤ 16384
theorem nar_parts {W a b T : Nat} (h : Sp a b T) (hW : 16384 ≤ W) : W * a / T < W * b / T ∧ W * b / T ≤ W ∧ W * (b - a) / T ≤ W * b / T - W * a / T := by
 obtain ⟨h1, h2, h3⟩ := h
 have hT : 0 < T := by omega
 have e : W * b = W * a + W * (b - a) := by rw [← Nat.mul_add]; congr 1; omega
 have hle : W ≤ W * (b - a) := Nat.le_mul_of_pos_right _ (by omega)
 have h4 : W * a / T + W * (b - a) / T ≤ W * b / T := by
  rw [Nat.le_div_iff_mul_le hT, Nat.add_mul, e]
  have x1 := Nat.div_mul_le_self (W * a) T
  have x2 := Nat.div_mul_le_self (W * (b - a)) T
  omega
 have h5 : 1 ≤ W * (b - a) / T := by rw [Nat.le_div_iff_mul_le hT]; omega
 have h6 : W * b / T ≤ W := by
  refine Nat.div_le_of_le_mul ?_
  rw [Nat.mul_comm T W]
  exact Nat.mul_le_mul_left _ h2
 omega
theorem nar_ok {e : En} {a b T : Nat} (hok : Ok e.low e.high) (hk : kind e.low e.high = 3) (h : Sp a b T) :
  Ok (nar e a b T).low (nar e a b T).high ∧ e.low ≤ (nar e a b T).low ∧ (nar e a b T).high ≤ e.high ∧ wid (nar e a b T) = wid e * b / T - wid e * a / T ∧ 1 ≤ wid (nar e a b T) := by
 obtain ⟨w1, w2⟩ := wide_wid hok hk
 obtain ⟨n1, n2, n3⟩ := nar_parts h (show 16384 ≤ wid e by omega)
 obtain ⟨h1, h2⟩ := hok
 have hw : wid e = e.high - e.low + 1 := rfl
 unfold Ok
 have e1 : (nar e a b T).low = e.low + wid e * a / T := rfl
 have e2 : (nar e a b T).high = e.low + wid e * b / T - 1 := rfl
 have e3 : wid (nar e a b T) = (nar e a b T).high - (nar e a b T).low + 1 := rfl
 rw [e1, e2] at e3
 rw [e1, e2, e3]
 generalize wid e * a / T = p at n1 n2 n3
 generalize wid e * b / T = q at n1 n2 n3
 omega
theorem pow41 : (2 : Nat) ^ (40 + 1) = 2199023255552 := by decide
theorem put_facts {e : En} {a b T : Nat} (hok : Ok e.low e.high) (hk : kind e.low e.high = 3) (h : Sp a b T) :
  Ok (putE e a b T).low (putE e a b T).high ∧ kind (putE e a b T).low (putE e a b T).high = 3 ∧ ∃ k, len (putE e a b T) = len e + k ∧ wid (putE e a b T) = wid (nar e a b T) * 2 ^ k := by
 obtain ⟨n1, _, _, _, n5⟩ := nar_ok hok hk h
 obtain ⟨k, _, a1, _, _, a4, a5, a6⟩ := widE_facts 40 (nar e a b T) n1
 refine ⟨a5, a6 ?_, k, a1, a4⟩
 rw [pow41]
 omega
theorem In.back {inp : List Bool} {e : En} (hok : Ok e.low e.high) (h : kind e.low e.high ≠ 3) (hi : In inp (stepE e)) : In inp e := by
 obtain ⟨r1, r2⟩ := stepE_R hok h
 obtain ⟨i1, i2⟩ := hi
 rw [(stepE_off h).2, r1, show len e + 1 + 32 = (len e + 32) + 1 by omega] at i1
 rw [(stepE_off h).2, r2, show len e + 1 + 32 = (len e + 32) + 1 by omega] at i2
 have hb := toNat_le (bitF inp (len e + 32))
 rw [val_succ inp (len e + 32)] at i1 i2
 unfold In
 omega
theorem In.backs {inp : List Bool} (n : Nat) : ∀ {e : En}, Ok e.low e.high → In inp (widE n e) → In inp e := by
 induction n with
 | zero => intro e _ hi; exact hi
 | succ n ih =>
  intro e hok hi
  unfold widE at hi
  by_cases h : kind e.low e.high = 3
  ·rw [if_pos h] at hi; exact hi
  ·rw [if_neg h] at hi
   exact (ih (stepE_low hok h).2.2 hi).back hok h
theorem In.narrow {inp : List Bool} {e : En} {a b T : Nat} (hok : Ok e.low e.high) (hk : kind e.low e.high = 3) (h : Sp a b T) (hi : In inp (nar e a b T)) : In inp e := by
 obtain ⟨_, n2, n3, _, _⟩ := nar_ok hok hk h
 obtain ⟨i1, i2⟩ := hi
 have e1 : off (nar e a b T) = off e := rfl
 have e2 : len (nar e a b T) = len e := rfl
 unfold RL at i1
 unfold RH at i2
 rw [e1, e2] at i1 i2
 unfold In RL RH
 omega
theorem In.put {inp : List Bool} {e : En} {a b T : Nat} (hok : Ok e.low e.high) (hk : kind e.low e.high = 3) (h : Sp a b T) (hi : In inp (putE e a b T)) : In inp (nar e a b T) ∧ In inp e := by
 have h1 := In.backs 40 (nar_ok hok hk h).1 hi
 exact ⟨h1, h1.narrow hok hk h⟩
theorem sync_step {inp : List Bool} {e : En} {d : De} (hok : Ok e.low e.high) (h : kind e.low e.high ≠ 3) (hi : In inp e) (hs : Sync inp e d) : Sync inp (stepE e) (stepD inp d) := by
 obtain ⟨s1, s2, s3, s4⟩ := hs
 obtain ⟨o1, o2⟩ := stepE_off h
 obtain ⟨l1, l2, _⟩ := stepE_low hok h
 obtain ⟨i1, i2⟩ := hi
 unfold RL at i1
 have ht : takeK (kind e.low e.high) ≤ e.low := by omega
 have hh : takeK (kind e.low e.high) ≤ e.high := by have := hok.1; omega
 refine ⟨?_, ?_, ?_, ?_⟩
 ·show 2 * (d.low - takeK (kind d.low d.high)) = _
  rw [s1, s2]; omega
 ·show 2 * (d.high - takeK (kind d.low d.high)) + 1 = _
  rw [s1, s2]; omega
 ·show d.at_ + 1 = _
  rw [s3, o2] <;> omega
 ·show 2 * (d.code - takeK (kind d.low d.high)) + (bitF inp d.at_).toNat + _ = _
  rw [o2, show len e + 1 + 32 = (len e + 32) + 1 by omega, o1, s1, s2, s3]
  rw [val_succ inp (len e + 32)]
  omega
theorem sync_wid {inp : List Bool} (n : Nat) : ∀ {e : En} {d : De}, Ok e.low e.high → In inp (widE n e) → Sync inp e d → Sync inp (widE n e) (widD n inp d) := by
 induction n with
 | zero => intro e d _ _ hs; exact hs
 | succ n ih =>
  intro e d hok hi hs
  have hi0 := In.backs (n + 1) hok hi
  unfold widE at hi ⊢
  unfold widD
  rw [hs.1, hs.2.1]
  by_cases h : kind e.low e.high = 3
  ·rw [if_pos h, if_pos h]; exact hs
  ·rw [if_neg h] at hi ⊢
   rw [if_neg h]
   exact ih (stepE_low hok h).2.2 hi (sync_step hok h hi0 hs)
def symX (d : De) (T : Nat) : Nat := ((d.code - d.low + 1) * T - 1) / (d.high - d.low + 1)
theorem next_sync {inp : List Bool} {e : En} {d : De} {a b T : Nat} (hok : Ok e.low e.high) (hk : kind e.low e.high = 3) (h : Sp a b T) (hi : In inp (putE e a b T)) (hs : Sync inp e d) :
  a ≤ symX d T ∧ symX d T < b ∧ d.low ≤ d.code ∧ d.code ≤ d.high ∧ Sync inp (putE e a b T) (widD 40 inp ⟨(nar e a b T).low, (nar e a b T).high, d.code, d.at_⟩) := by
 obtain ⟨hn, hi0⟩ := hi.put hok hk h
 obtain ⟨w1, w2⟩ := wide_wid hok hk
 have hT : 0 < T := by have := h.1; have := h.2.1; omega
 obtain ⟨s1, s2, s3, s4⟩ := hs
 have e1 : off (nar e a b T) = off e := rfl
 have e2 : len (nar e a b T) = len e := rfl
 obtain ⟨i1, i2⟩ := hn
 unfold RL at i1
 unfold RH at i2
 rw [e1, e2, ← s4] at i1 i2
 have c1 : (nar e a b T).low ≤ d.code := by omega
 have c2 : d.code ≤ (nar e a b T).high := by omega
 have hsync : Sync inp (nar e a b T) ⟨(nar e a b T).low, (nar e a b T).high, d.code, d.at_⟩ := ⟨rfl, rfl, by rw [e2]; exact s3, by rw [e1, e2]; exact s4⟩
 have hw : d.high - d.low + 1 = wid e := by rw [s1, s2]; rfl
 obtain ⟨_, m2, m3, _, _⟩ := nar_ok hok hk h
 have hlow : (nar e a b T).low = e.low + wid e * a / T := rfl
 have hhigh : (nar e a b T).high = e.low + wid e * b / T - 1 := rfl
 obtain ⟨p1, p2, _⟩ := nar_parts h (show 16384 ≤ wid e by omega)
 rw [hlow] at c1
 rw [hhigh] at c2
 refine ⟨?_, ?_, by omega, by omega, sync_wid 40 (nar_ok hok hk h).1 hi hsync⟩
 ·unfold symX
  rw [hw, Nat.le_div_iff_mul_le (by omega)]
  have k1 : wid e * a / T < d.code - d.low + 1 := by omega
  have k2 := (Nat.div_lt_iff_lt_mul hT).1 k1
  rw [Nat.mul_comm a]
  omega
 ·unfold symX
  rw [hw, Nat.div_lt_iff_lt_mul (by omega)]
  have k1 : d.code - d.low + 1 ≤ wid e * b / T := by omega
  have k2 := (Nat.le_div_iff_mul_le hT).1 k1
  rw [Nat.mul_comm b]
  have k3 : 0 < (d.code - d.low + 1) * T := Nat.mul_pos (by omega) hT
  omega
def endBits (e : En) : List Bool := emit e.out (decide (1073741824 ≤ e.low)) (e.wait + 1)
theorem endBits_length (e : En) : (endBits e).length = len e + 2 := by unfold endBits len; rw [emit_length]; omega
theorem pow30 : (2 : Nat) ^ 30 = 1073741824 := by decide
theorem end_in {e : En} (hok : Ok e.low e.high) (hk : kind e.low e.high = 3) (tail : List Bool) : In (endBits e ++ tail) e := by
 have hp : 0 < 2 ^ e.wait := Nat.pow_pos (by omega)
 obtain ⟨q, hq⟩ : ∃ q, 2 ^ e.wait = q + 1 := ⟨2 ^ e.wait - 1, by omega⟩
 obtain ⟨v1, v2⟩ := val_add (endBits e ++ tail) (len e + 2) 30
 have hvp : val (endBits e ++ tail) (len e + 2) = num (endBits e) := by
  rw [val_pre _ _ _ (by rw [endBits_length]; exact Nat.le_refl _), List.take_of_length_le (by rw [endBits_length]; exact Nat.le_refl _)]
 rw [hvp, pow30, show len e + 2 + 30 = len e + 32 by omega] at v1 v2
 have ho := off_is e q hq
 have hq2 : 2 ^ (e.wait + 1) = 2 * q + 2 := by rw [Nat.pow_succ, hq]; omega
 have hq3 : 2 ^ (e.wait + 1 + 1) = 4 * (q + 1) := by rw [Nat.pow_succ, hq2]; omega
 unfold In RL RH
 rw [ho]
 obtain ⟨h1, h2⟩ := hok
 rcases kind_cases e.low e.high with ⟨hk', _⟩ | ⟨hk', _⟩ | ⟨hk', _⟩ | ⟨_, h3, h4, h5⟩
 ·omega
 ·omega
 ·omega
 ·by_cases hl : 1073741824 ≤ e.low
  ·have en : num (endBits e) = num e.out * (q + 1) * 4 + (2 * q + 2) := by
    unfold endBits
    rw [decide_eq_true hl, num_emit_true, hq2, hq3, Nat.mul_comm 4, ← Nat.mul_assoc]
   rw [en] at v1 v2
   generalize num e.out * (q + 1) = z at v1 v2
   omega
  ·have en : num (endBits e) = num e.out * (q + 1) * 4 + (2 * q + 1) := by
    unfold endBits
    rw [decide_eq_false hl, num_emit_false, hq2, hq3, Nat.mul_comm 4, ← Nat.mul_assoc]
    omega
   rw [en] at v1 v2
   generalize num e.out * (q + 1) = z at v1 v2
   omega
def e0 : En := ⟨0, 4294967295, 0, []⟩
theorem e0_ok : Ok e0.low e0.high ∧ kind e0.low e0.high = 3 := ⟨⟨by decide, by decide⟩, by decide⟩
theorem e0_sync (inp : List Bool) : Sync inp e0 ⟨0, 4294967295, val inp 32, 32⟩ := ⟨rfl, rfl, rfl, by simp [off, e0, len, num_nil]⟩
theorem put_long {e : En} {a b T n : Nat} (hok : Ok e.low e.high) (hk : kind e.low e.high = 3) (h : Sp a b T) (hn : T ≤ (b - a) * 2 ^ n) (M : Nat) (hM : 4294967296 * 2 ^ len e ≤ wid e * 2 ^ M) :
  4294967296 * 2 ^ len (putE e a b T) ≤ wid (putE e a b T) * 2 ^ (M + (n + 1)) := by
 obtain ⟨_, _, k, hk1, hk2⟩ := put_facts hok hk h
 obtain ⟨_, _, _, hw, _⟩ := nar_ok hok hk h
 obtain ⟨w1, w2⟩ := wide_wid hok hk
 obtain ⟨n1, n2, n3⟩ := nar_parts h (show 16384 ≤ wid e by omega)
 have hT : 0 < T := by have := h.1; have := h.2.1; omega
 obtain ⟨g, hg⟩ : ∃ g, g = wid e * (b - a) / T := ⟨_, rfl⟩
 have hg1 : 1 ≤ g := by
  rw [hg, Nat.le_div_iff_mul_le hT]
  have : wid e ≤ wid e * (b - a) := Nat.le_mul_of_pos_right _ (by have := h.1; omega)
  have := h.2.2
  omega
 have hg2 : wid e * (b - a) < (g + 1) * T := by
  rw [← Nat.div_lt_iff_lt_mul hT, ← hg]; omega
 have key : wid e ≤ g * 2 ^ (n + 1) := by
  have s1 : wid e * T ≤ wid e * (b - a) * 2 ^ n := by rw [Nat.mul_assoc]; exact Nat.mul_le_mul_left _ hn
  have s2 : wid e * (b - a) * 2 ^ n ≤ (g + 1) * T * 2 ^ n := Nat.mul_le_mul_right _ (by omega)
  have s3 : wid e * T ≤ ((g + 1) * 2 ^ n) * T := by
   refine Nat.le_trans s1 (Nat.le_trans s2 ?_)
   rw [Nat.mul_assoc, Nat.mul_comm T, ← Nat.mul_assoc]
   exact Nat.le_refl _
  have s4 := Nat.le_of_mul_le_mul_right s3 hT
  refine Nat.le_trans s4 ?_
  rw [Nat.pow_succ, Nat.mul_comm (2 ^ n) 2, ← Nat.mul_assoc]
  exact Nat.mul_le_mul_right _ (by omega)
 have hgw : g ≤ wid (nar e a b T) := by rw [hw, hg]; exact n3
 rw [hk1, hk2, Nat.pow_add, ← Nat.mul_assoc, Nat.pow_add 2 M, Nat.mul_assoc (wid (nar e a b T)), Nat.mul_comm (2 ^ k), ← Nat.mul_assoc]
 refine Nat.mul_le_mul_right _ (Nat.le_trans hM ?_)
 rw [Nat.mul_comm (2 ^ M), ← Nat.mul_assoc]
 refine Nat.mul_le_mul_right _ (Nat.le_trans key (Nat.mul_le_mul_right _ hgw))
theorem long_end {e : En} {M : Nat} (hok : Ok e.low e.high) (hk : kind e.low e.high = 3) (hM : 4294967296 * 2 ^ len e ≤ wid e * 2 ^ M) : len e ≤ M := by
 obtain ⟨_, w2⟩ := wide_wid hok hk
 have h1 : 4294967296 * 2 ^ len e ≤ 4294967296 * 2 ^ M := Nat.le_trans hM (Nat.mul_le_mul_right _ w2)
 have h2 := Nat.le_of_mul_le_mul_left h1 (by omega)
 exact (Nat.pow_le_pow_iff_right (by omega)).1 h2
end Go.Proofs.YtkcoboamejefiaaGreatDoor.Cd
namespace Go.Proofs.YtkcoboamejefiaaGreatDoor
open Go.RowKit
end Go.Proofs.YtkcoboamejefiaaGreatDoor
namespace Go.Proofs.YtkcoboamejefiaaGreatDoor
open Go.RowKit
def BBad (w : World) (er : Int) (e : Ending) (w' : World) : Prop := e = .returned (.tuple #[zeroB, .int .i64 er]) ∧ Below w.heap.size w w'
def strOf (bs : List Nat) : ByteArray := (bs.map fun n => ((n : Nat) : Int)).foldl (fun r n => r.push (UInt8.ofNat n.toNat)) ByteArray.empty
theorem run_str {w : World} {A : Option Addr} {n : Nat} {bs : List Nat} (c : Nat) (h : Rd w A n bs) : (convert 40 9 (.slice A n c)).run Tryz.prog w = .ok (.string (strOf bs)) w := by
 rw [run_convert_bytes_string w 40 9 5 A n c Tryz.underlying40 Tryz.underlying5 Tryz.underlying9]
 obtain ⟨rfl, hlt, hc⟩ := h
 cases A with
 | none =>
  have h0 : bs = [] := by
   cases bs with
   | nil => rfl
   | cons b bs =>
    obtain ⟨ad, e, _⟩ := hc (by simp)
    cases e
  subst h0
  rfl
 | some ad =>
  have hload : (loadCells ad bs.length).run Tryz.prog w = .ok ((bs.map fun n => ((n : Nat) : Int)).map (Value.int .u8)).toArray w := by
   have := run_loadCells_list (P := Tryz.prog) w ad (bs.map byteV) (fun j v hv => by
    rw [List.getElem?_map] at hv
    obtain ⟨x, hx, rfl⟩ := Option.map_eq_some_iff.1 hv
    have hpos : 0 < bs.length := by
     have := (List.getElem?_eq_some_iff.1 hx).1
     omega
    obtain ⟨ad', e, hc'⟩ := hc hpos
    injection e with e
    subst e
    exact hc' j x hx)
   rw [List.length_map] at this
   rw [this, List.map_map]
   rfl
  exact run_bytesToString w ad _ c _ hload
end Go.Proofs.YtkcoboamejefiaaGreatDoor
namespace Go.Proofs.YtkcoboamejefiaaGreatDoor
open Go.RowKit
theorem RdL.one {w : World} {g : Nat} {A : Option Addr} {n c : Nat} {N : Int} {bs : List Nat} {t : TypeId} (h : Rd w A n bs) (hb : Blk w g t #[.slice A n c, .int .i64 N]) :
  RdL w (some ⟨g, 0, none⟩) 1 [⟨A, n, c, N, bs⟩] := by
 refine ⟨rfl, fun _ => ⟨_, rfl, fun j x hx => ?_⟩⟩
 match j, hx with
 | 0, hx =>
  simp only [List.getElem?_cons_zero, Option.some.injEq] at hx
  subst hx
  refine ⟨?_, ?_, h⟩
  ·rw [add_own, hb.cell]; rfl
  ·rw [add_own]; exact (hb.cell 1).trans rfl
theorem IsB.rd {w : World} {A : Option Addr} {n c : Nat} {N : Int} {l : List Bool} (h : IsB w (.agg #[.slice A n c, .int .i64 N]) l) : Rd w A n (pack l) := by
 obtain ⟨A1, c1, e1, hr, _⟩ := h
 simp only [Value.agg.injEq, Array.mk.injEq, List.cons.injEq, Value.slice.injEq, Value.int.injEq, and_true, true_and] at e1
 obtain ⟨⟨rfl, rfl, rfl⟩, rfl⟩ := e1
 exact hr
end Go.Proofs.YtkcoboamejefiaaGreatDoor
namespace Go.Proofs.YtkcoboamejefiaaGreatDoor
open Go.RowKit
end Go.Proofs.YtkcoboamejefiaaGreatDoor
namespace Go.Proofs.YtkcoboamejefiaaGreatDoor
open Go.RowKit
def OwnB (w : World) (base : Nat) (v : Value) (l : List Bool) : Prop := w.ownsRow base 5 1 v (pack l).length ((pack l).map byteV)
theorem OwnB.nil_ (w : World) (base : Nat) : OwnB w base (.slice none 0 0) [] := World.ownsRow_nil w base 5 1
theorem OwnB.alloc {w : World} {base : Nat} {v : Value} {l : List Bool} (h : OwnB w base v l) (o : Obj) : OwnB (w.alloc o) base v l := World.ownsRow.alloc h o
theorem OwnB.rd {w : World} {base n c : Nat} {A : Option Addr} {l : List Bool} (h : OwnB w base (.slice A n c) l) : Rd w A n (pack l) ∧ n = (pack l).length := by
 have hf := h.2
 have hl := h.1
 rcases hf with ⟨e, h0⟩ | ⟨g, cap, cur, e, hb, hh, hnc, hcm, hcs, ht⟩
 ·injection e with e1 e2 e3
  subst e1 e2
  refine ⟨⟨by omega, pack_lt _, fun h => by omega⟩, h0.symm⟩
 ·injection e with e1 e2 e3
  subst e1
  refine ⟨⟨e2.symm, pack_lt _, fun _ => ⟨_, rfl, fun j x hx => ?_⟩⟩, e2⟩
  have := World.ownsRow.cells h (g := g) rfl j (byteV x) (by rw [List.getElem?_map, hx]; rfl)
  exact this
theorem Blk.ne_ {w : World} {g g' : Nat} {t t' : TypeId} {cs cs' : Array Value} (h : Blk w g t cs) (h' : Blk w g' t' cs') (hne : t ≠ t') : g ≠ g' := by
 rintro rfl
 unfold Blk at h h'
 rw [h] at h'
 injection h' with h'
 injection h' with _ ht
 exact hne ht
theorem OwnB.lt {w : World} {base n c : Nat} {A : Option Addr} {l : List Bool} (h : OwnB w base (.slice A n c) l) : ∀ ad, A = some ad → ad.block < w.heap.size := by
 intro ad e
 subst e
 exact (World.ownsRow.lt h ad.block rfl).2
end Go.Proofs.YtkcoboamejefiaaGreatDoor
namespace Go.Proofs.YtkcoboamejefiaaGreatDoor
open Go.RowKit
theorem Blk.row {w w' : World} {g : Nat} {t : TypeId} {cs : Array Value} {row : Option Nat} (h : Blk w g t cs) (hb : w.grownBy w' row) (hg : row ≠ some g) : Blk w' g t cs := (hb.block g h.lt (fun e => hg e.symm)).trans h
theorem OwnB.keep {w w' : World} {base : Nat} {v : Value} {l : List Bool} (h : OwnB w base v l) (hb : Below w.heap.size w w') : OwnB w' base v l :=
 World.ownsRow.kept h (only_of_below hb none) (by cases hv : v.ownBlock with | none => exact .inl rfl | some k => exact .inr (by simp))
def RO (w : World) (g7 : Nat) (l : List Bool) (wr : World) : Prop :=
 Blk wr w.heap.size 75 #[.slice none 0 0, .int .i64 0] ∧ Below w.heap.size w wr ∧
 ∃ A n c, Blk wr g7 75 #[.slice A n c, .int .i64 ((l.length : Nat) : Int)] ∧ OwnB wr w.heap.size (.slice A n c) l
theorem RO.alloc {w wr : World} {g7 : Nat} {l : List Bool} (h : RO w g7 l wr) (o : Obj) : RO w g7 l (wr.alloc o) := by
 obtain ⟨h1, h2, A, n, c, h3, h4⟩ := h
 exact ⟨h1.alloc o, h2.alloc h2.size o, A, n, c, h3.alloc o, h4.alloc o⟩
end Go.Proofs.YtkcoboamejefiaaGreatDoor
namespace Go.Proofs.YtkcoboamejefiaaGreatDoor
open Go.RowKit
def jWhat (xs : List It) : Int × Int × List Nat :=
 if xs.all It.ok then (if sumN xs ≤ 65536 then (((allBits xs).length : Int), 0, pack (allBits xs)) else (0, 2, [])) else (0, 1, [])
def JOut (w : World) (N E : Int) (bs : List Nat) (e : Ending) (w' : World) : Prop :=
 ∃ A n c, e = .returned (.tuple #[.agg #[.slice A n c, .int .i64 N], .int .i64 E]) ∧ Below w.heap.size w w' ∧ Rd w' A n bs
theorem JoinPost.out {w w' : World} {xs : List It} {e : Ending} {N E : Int} {bs : List Nat} (h : JoinPost w xs e w') (hj : jWhat xs = (N, E, bs)) : JOut w N E bs e w' := by
 obtain ⟨hb, h⟩ := h
 unfold jWhat at hj
 rcases h with ⟨⟨x, hx, hf⟩, rfl⟩ | ⟨hok, hs, rfl⟩ | ⟨hok, hs, v, rfl, hv⟩
 ·have hall : xs.all It.ok = false := by
   cases h : xs.all It.ok
   ·rfl
   ·rw [List.all_eq_true.1 h x hx] at hf; cases hf
  rw [hall] at hj
  simp only [Bool.false_eq_true, if_false, Prod.mk.injEq] at hj
  obtain ⟨rfl, rfl, rfl⟩ := hj
  exact ⟨none, 0, 0, rfl, hb, Rd.none_⟩
 ·rw [List.all_eq_true.2 hok, if_pos rfl, if_neg (by omega)] at hj
  simp only [Prod.mk.injEq] at hj
  obtain ⟨rfl, rfl, rfl⟩ := hj
  exact ⟨none, 0, 0, rfl, hb, Rd.none_⟩
 ·rw [List.all_eq_true.2 hok, if_pos rfl, if_pos hs] at hj
  simp only [Prod.mk.injEq] at hj
  obtain ⟨rfl, rfl, rfl⟩ := hj
  obtain ⟨A, c, rfl, hr, _⟩ := hv
  exact ⟨A, _, c, rfl, hb, hr⟩
end Go.Proofs.YtkcoboamejefiaaGreatDoor
namespace Go.Proofs.YtkcoboamejefiaaGreatDoor
open Go.RowKit
end Go.Proofs.YtkcoboamejefiaaGreatDoor
namespace Go.Proofs.YtkcoboamejefiaaGreatDoor
open Go.RowKit
def pWhat (l : List Bool) : Int × Int × List Nat := if l.length ≤ 65536 then ((l.length : Int), 0, pack l) else (0, 2, [])
theorem BBad.out {w w' : World} {e : Ending} {E : Int} (h : BBad w E e w') : JOut w 0 E [] e w' := by
 obtain ⟨rfl, hb⟩ := h
 exact ⟨none, 0, 0, rfl, hb, Rd.none_⟩
theorem BOut.out {w w' : World} {B : Nat} {l : List Bool} {e : Ending} {N E : Int} {bs : List Nat} (h : BOut w (JQ B l) e w') (hp : pWhat l = (N, E, bs)) : JOut w N E bs e w' := by
 obtain ⟨A, n, c, N', er, rfl, hb, hq⟩ := h
 unfold pWhat at hp
 rcases hq with ⟨h1, rfl, g, e1, _, hblk, _⟩ | ⟨h1, rfl, e1⟩
 ·rw [if_pos h1] at hp
  simp only [Prod.mk.injEq] at hp
  obtain ⟨rfl, rfl, rfl⟩ := hp
  rw [e1]
  exact ⟨_, _, _, rfl, hb, Rd.of_blk hblk (pack_lt _)⟩
 ·rw [if_neg (by omega)] at hp
  simp only [Prod.mk.injEq] at hp
  obtain ⟨rfl, rfl, rfl⟩ := hp
  rw [e1]
  exact ⟨none, 0, 0, rfl, hb, Rd.none_⟩
end Go.Proofs.YtkcoboamejefiaaGreatDoor
namespace Go.Proofs.YtkcoboamejefiaaGreatDoor.Cd
open Go.RowKit
def wideB (low high : Nat) : Bool := decide (low < high ∧ high < 4294967296 ∧ kind low high = 3)
theorem blk2 {w : World} {t : TypeId} {a b : Value} {g : Nat} (h : Blk w g t #[a, b]) : w.cell? ⟨g, 0, none⟩ = some a ∧ w.cell? ⟨g, 1, none⟩ = some b ∧ w.frozen? ⟨g, 0, none⟩ = false ∧ w.frozen? ⟨g, 1, none⟩ = false := ⟨h.cell 0, h.cell 1, h.frozen 0, h.frozen 1⟩
end Go.Proofs.YtkcoboamejefiaaGreatDoor.Cd
namespace Go.Proofs.YtkcoboamejefiaaGreatDoor.Cd
open Go.RowKit
def encV (low high : Nat) (wt : Int) (A : Option Addr) (n c : Nat) (N : Int) : Value := .agg #[.int .u32 (low : Int), .int .u32 (high : Int), .int .i64 wt, .slice A n c, .int .i64 N]
theorem blk5 {w : World} {t : TypeId} {a b c d e : Value} {g : Nat} (h : Blk w g t #[a, b, c, d, e]) : w.cell? ⟨g, 0, none⟩ = some a ∧ w.cell? ⟨g, 1, none⟩ = some b ∧ w.cell? ⟨g, 2, none⟩ = some c ∧ w.cell? ⟨g, 3, none⟩ = some d ∧ w.cell? ⟨g, 4, none⟩ = some e := ⟨h.cell 0, h.cell 1, h.cell 2, h.cell 3, h.cell 4⟩
end Go.Proofs.YtkcoboamejefiaaGreatDoor.Cd
namespace Go.Proofs.YtkcoboamejefiaaGreatDoor.Cd
open Go.RowKit
theorem isB_parts {w : World} {A : Option Addr} {n c : Nat} {N : Int} {l : List Bool} (h : IsB w (.agg #[.slice A n c, .int .i64 N]) l) : n = (pack l).length ∧ N = (l.length : Int) ∧ Rd w A n (pack l) ∧ l.length ≤ 65536 := by
 obtain ⟨A', c', e, hr, hl⟩ := h
 simp only [Value.agg.injEq, Array.mk.injEq, List.cons.injEq, Value.slice.injEq, Value.int.injEq, and_true, true_and] at e
 obtain ⟨⟨rfl, rfl, rfl⟩, rfl⟩ := e
 exact ⟨rfl, rfl, hr, hl⟩
end Go.Proofs.YtkcoboamejefiaaGreatDoor.Cd
namespace Go.Proofs.YtkcoboamejefiaaGreatDoor.Cd
open Go.RowKit
def decV (low high code : Nat) (A : Option Addr) (n c : Nat) (N At : Int) : Value := .agg #[.int .u32 (low : Int), .int .u32 (high : Int), .int .u32 (code : Int), .slice A n c, .int .i64 N, .int .i64 At]
theorem blk6 {w : World} {t : TypeId} {a b c d e f : Value} {g : Nat} (h : Blk w g t #[a, b, c, d, e, f]) : w.cell? ⟨g, 0, none⟩ = some a ∧ w.cell? ⟨g, 1, none⟩ = some b ∧ w.cell? ⟨g, 2, none⟩ = some c ∧ w.cell? ⟨g, 3, none⟩ = some d ∧ w.cell? ⟨g, 4, none⟩ = some e ∧ w.cell? ⟨g, 5, none⟩ = some f := ⟨h.cell 0, h.cell 1, h.cell 2, h.cell 3, h.cell 4, h.cell 5⟩
theorem frz6 {w : World} {t : TypeId} {cs : Array Value} {g : Nat} (h : Blk w g t cs) : w.frozen? ⟨g, 0, none⟩ = false ∧ w.frozen? ⟨g, 1, none⟩ = false ∧ w.frozen? ⟨g, 2, none⟩ = false ∧ w.frozen? ⟨g, 3, none⟩ = false ∧ w.frozen? ⟨g, 4, none⟩ = false ∧ w.frozen? ⟨g, 5, none⟩ = false := ⟨h.frozen 0, h.frozen 1, h.frozen 2, h.frozen 3, h.frozen 4, h.frozen 5⟩
def okD (low high code : Nat) (bs : List Nat) (N At : Int) : Bool := wideB low high && (decide (low ≤ code) && (decide (code ≤ high) && (okB bs N && (decide (32 ≤ At) && decide (At ≤ 65600)))))
theorem rd_far {w : World} {A : Option Addr} {n g : Nat} {bs : List Nat} (h : Rd w A n bs) (hA : ∀ ad, A = some ad → 0 < n → ad.block ≠ g) (o : Nat) (u : Value) : Rd (w.setCell ⟨g, o, none⟩ u) A n bs :=
 ⟨h.1, h.2.1, fun hn => by
  obtain ⟨ad, e, hc⟩ := h.2.2 hn
  refine ⟨ad, e, fun j x hx => ?_⟩
  have := hc j x hx
  rw [← this]
  exact World.cell?_of_block (Below.heap_setCell w ⟨g, o, none⟩ u (ad.add j).block (by rw [block_of_add]; exact hA ad e hn))⟩
theorem val_lt (inp : List Bool) (m : Nat) : val inp m < 2 ^ m := by
 have := (val_add inp 0 m).2
 simpa [val] using this
def DOut (w : World) (lo hi co : Nat) (At N E : Int) (bs : List Nat) (e : Ending) (w' : World) : Prop :=
 ∃ A n c, e = .returned (.tuple #[decV lo hi co A n c N At, .int .i64 E]) ∧ Below w.heap.size w w' ∧ Rd w' A n bs
theorem below6 {B g : Nat} {w u : World} (h : Below B w u) (hg : B ≤ g) (a b c d e f : Value) : Below B w ((((((u.setCell ⟨g, 0, none⟩ a).setCell ⟨g, 1, none⟩ b).setCell ⟨g, 2, none⟩ c).setCell ⟨g, 3, none⟩ d).setCell ⟨g, 4, none⟩ e).setCell ⟨g, 5, none⟩ f) :=
 (((((h.setCell hg a).setCell hg b).setCell hg c).setCell hg d).setCell hg e).setCell hg f
end Go.Proofs.YtkcoboamejefiaaGreatDoor.Cd
namespace Go.Proofs.YtkcoboamejefiaaGreatDoor.Cd
open Go.RowKit
def ivV (low high : Nat) : Value := .agg #[.int .u32 (low : Int), .int .u32 (high : Int)]
theorem whole_any (w : World) : Calls Tryz.prog 85 #[] w fun e w' => e = .returned (ivV 0 4294967295) ∧ Below w.heap.size w w' := by
 go_enter Tryz.func85, Tryz.ntmps85
 go_wp2
 exact bodyPost_ret (v := ivV 0 4294967295) (by simp [results, Tryz.results85, go_sem, ivV]) rfl ⟨rfl, (Below.refl w.heap.size w).alloc (Nat.le_refl _) _⟩
def excT (k : Nat) : Value := .tuple #[.int .u32 (takeK k : Int), .bool (decide (k ≠ 3))]
theorem excT_3 : excT 3 = .tuple #[.int .u32 0, .bool false] := rfl
theorem excT_0 : excT 0 = .tuple #[.int .u32 0, .bool true] := rfl
theorem excT_1 : excT 1 = .tuple #[.int .u32 2147483648, .bool true] := rfl
theorem excT_2 : excT 2 = .tuple #[.int .u32 1073741824, .bool true] := rfl
theorem excess_any (low high k : Nat) (w : World) (hk : kind low high = k) :
  Calls Tryz.prog 83 #[.agg #[.int .u32 (low : Int), .int .u32 (high : Int)]] w fun e w' => e = .returned (excT k) ∧ Below w.heap.size w w' := by
 subst hk
 rcases kind_cases low high with ⟨hk, k1⟩ | ⟨hk, k1, k2⟩ | ⟨hk, k1, k2, k3, k4⟩ | ⟨hk, k1, k2, k3⟩
 ·rw [hk, excT_0]
  have d3 : decide ((high : Int) < 2147483648) = true := by simp; omega
  clear hk
  go_enter Tryz.func83, Tryz.ntmps83
  go_wp2
  go_ret2
  exact ⟨rfl, (Below.refl _ _).alloc (Nat.le_refl _) _⟩
 ·rw [hk, excT_1]
  have d3 : decide ((high : Int) < 2147483648) = false := by simp; omega
  have d4 : decide (2147483648 ≤ (low : Int)) = true := by simp; omega
  clear hk
  go_enter Tryz.func83, Tryz.ntmps83
  go_wp2
  go_ret2
  exact ⟨rfl, (Below.refl _ _).alloc (Nat.le_refl _) _⟩
 ·rw [hk, excT_2]
  have d3 : decide ((high : Int) < 2147483648) = false := by simp; omega
  have d4 : decide (2147483648 ≤ (low : Int)) = false := by simp; omega
  have d5 : decide (1073741824 ≤ (low : Int)) = true := by simp; omega
  have d6 : decide ((high : Int) < 3221225472) = true := by simp; omega
  clear hk
  go_enter Tryz.func83, Tryz.ntmps83
  go_wp2
  go_ret2
  exact ⟨rfl, (Below.refl _ _).alloc (Nat.le_refl _) _⟩
 ·rw [hk, excT_3]
  have d3 : decide ((high : Int) < 2147483648) = false := by simp; omega
  have d4 : decide (2147483648 ≤ (low : Int)) = false := by simp; omega
  clear hk
  by_cases k5 : 1073741824 ≤ low
  ·have d5 : decide (1073741824 ≤ (low : Int)) = true := by simp; omega
   have d6 : decide ((high : Int) < 3221225472) = false := by simp; omega
   go_enter Tryz.func83, Tryz.ntmps83
   go_wp2
   go_ret2
   exact ⟨rfl, (Below.refl _ _).alloc (Nat.le_refl _) _⟩
  ·have d5 : decide (1073741824 ≤ (low : Int)) = false := by simp; omega
   go_enter Tryz.func83, Tryz.ntmps83
   go_wp2
   go_ret2
   exact ⟨rfl, (Below.refl _ _).alloc (Nat.le_refl _) _⟩
theorem size_any (low high W : Nat) (w : World) (h1 : low ≤ high) (h2 : high < 4294967296) (hW : Hid (W = high - low + 1)) :
  Calls Tryz.prog 135 #[.agg #[.int .u32 (low : Int), .int .u32 (high : Int)]] w fun e w' => e = .returned (.int .u64 (W : Int)) ∧ Below w.heap.size w w' := by
 have e1 : ((high : Int) - (low : Int) + 1) = (W : Int) := by have := hW.out; omega
 have HE := Lib.hid e1
 clear e1
 go_enter Tryz.func135, Tryz.ntmps135
 go_wp2
 go_ret
 exact ⟨by rw [← HE.out]; rfl, (Below.refl _ _).alloc (Nat.le_refl _) _⟩
theorem double_any (p low high t lo hi : Nat) (w : World) (h1 : t ≤ low) (h2 : t ≤ high) (h3 : lo = 2 * (low - t)) (h4 : hi = 2 * (high - t) + 1) (h5 : lo < 4294967296) (h6 : hi < 4294967296) (hlow : low < 4294967296) (_hhigh : high < 4294967296)
  (c0 : w.cell? ⟨p, 0, none⟩ = some (.int .u32 (low : Int))) (c1 : w.cell? ⟨p, 1, none⟩ = some (.int .u32 (high : Int))) (f0 : w.frozen? ⟨p, 0, none⟩ = false) (f1 : w.frozen? ⟨p, 1, none⟩ = false) :
  Calls Tryz.prog 137 #[.pointer (some ⟨p, 0, none⟩), .int .u32 (t : Int)] w fun e w' => e = .returned (.tuple #[]) ∧ (w.setCell ⟨p, 0, none⟩ (.int .u32 (lo : Int))).setCell ⟨p, 1, none⟩ (.int .u32 (hi : Int)) = w' := by
 have e1 := Lib.hid (show ((low : Int) - (t : Int)) * 2 = (lo : Int) by omega)
 have e2 := Lib.hid (show ((high : Int) - (t : Int)) * 2 + 1 = (hi : Int) by omega)
 have b1 : ((low : Int) - (t : Int)) * 2 < 4294967296 := by omega
 have b2 : ((high : Int) - (t : Int)) * 2 < 4294967295 := by omega
 have b3 : (t : Int) ≤ (low : Int) := by omega
 have b4 : (t : Int) ≤ (high : Int) := by omega
 clear h3 h4
 go_enter Tryz.func137, Tryz.ntmps137
 go_wp2
 go_end0
 exact ⟨rfl, by rw [← e1.out, ← e2.out]⟩
end Go.Proofs.YtkcoboamejefiaaGreatDoor.Cd
namespace Go.Proofs.YtkcoboamejefiaaGreatDoor.Cd
open Go.RowKit
theorem spanV_some (xs : List Int) (s : Int) : ∃ a b e : Int, Fq.spanV xs s = Fq.spanT a b e ∧ (Fq.symB xs s = true → e = 0 ∧ a = xs.getD s.toNat 0 ∧ b = xs.getD (s.toNat + 1) 0) ∧ (Fq.symB xs s = false → e = 1) := by
 unfold Fq.spanV
 cases h : Fq.symB xs s with
 | true => exact ⟨_, _, _, rfl, fun _ => ⟨rfl, rfl, rfl⟩, (fun h => by cases h)⟩
 | false => exact ⟨_, _, _, rfl, (fun h => by cases h), fun _ => rfl⟩
def NrP (w : World) (p lo hi : Nat) (e : Ending) (w' : World) : Prop :=
 e = .returned (.int .i64 0) ∧ ∃ w1, Below w.heap.size w w1 ∧ w' = (w1.setCell ⟨p, 1, none⟩ (.int .u32 (hi : Int))).setCell ⟨p, 0, none⟩ (.int .u32 (lo : Int))
def NrS (w : World) (bf : Nat) (C : Option Addr) (m d : Nat) (xs : List Int) (u : World) : Prop := Blk u bf 103 #[.slice C m d] ∧ Fq.RdI u C m xs ∧ Below w.heap.size w u
theorem NrS.next {w : World} {bf : Nat} {C : Option Addr} {m d : Nat} {xs : List Int} {u u' : World} (h : NrS w bf C m d xs u) (hb : Below u.heap.size u u') : NrS w bf C m d xs u' :=
 ⟨h.1.below hb h.1.lt, h.2.1.below hb, h.2.2.trans (hb.mono h.2.2.size)⟩
theorem NrS.drew {w : World} {bf : Nat} {C : Option Addr} {m d : Nat} {xs : List Int} {u : World} (h : NrS w bf C m d xs u) : NrS w bf C m d xs u.drew := ⟨h.1, h.2.1, Below.drew h.2.2⟩
theorem nrs_start {w : World} {C : Option Addr} {m d : Nat} {xs : List Int} (h : Fq.RdI w C m xs) : NrS w w.heap.size C m d xs (w.alloc (.cells #[.slice C m d] 103)) :=
 ⟨Blk.new w _ _, h.alloc _, (Below.refl w.heap.size w).alloc (Nat.le_refl _) _⟩
def symP (xs : List Int) (s : Int) (a b T : Nat) : Prop := Fq.spanV xs s = Fq.spanT (a : Int) (b : Int) 0 ∧ Fq.okF xs = true ∧ Fq.totF true xs = (T : Int) ∧ Sp a b T
def Two (w : World) (p low high : Nat) : Prop := w.cell? ⟨p, 0, none⟩ = some (.int .u32 (low : Int)) ∧ w.cell? ⟨p, 1, none⟩ = some (.int .u32 (high : Int)) ∧ w.frozen? ⟨p, 0, none⟩ = false ∧ w.frozen? ⟨p, 1, none⟩ = false
theorem Two.lt {w : World} {p low high : Nat} (h : Two w p low high) : p < w.heap.size := World.block_lt_of_cell? _ _ h.1
theorem Two.below {w u : World} {p low high : Nat} (h : Two w p low high) (hb : Below w.heap.size w u) : Two u p low high :=
 ⟨(hb.cell (p := ⟨p, 0, none⟩) h.lt).trans h.1, (hb.cell (p := ⟨p, 1, none⟩) h.lt).trans h.2.1, (hb.frozen (p := ⟨p, 0, none⟩) h.lt).trans h.2.2.1, (hb.frozen (p := ⟨p, 1, none⟩) h.lt).trans h.2.2.2⟩
theorem Two.drew {w : World} {p low high : Nat} (h : Two w p low high) : Two w.drew p low high := h
theorem narrow_ok (p low high a b T lo hi : Nat) (C : Option Addr) (m d : Nat) (xs : List Int) (s : Int) (w : World) (h1 : low ≤ high) (h2 : high < 4294967296) (hx : Hid (Fq.RdI w C m xs)) (hm : Hid (m ≤ maxLen)) (hsym : Hid (symP xs s a b T)) (h2c : Hid (Two w p low high))
  (hlo : Hid (lo = low + (high - low + 1) * a / T)) (hhi : Hid (hi = low + (high - low + 1) * b / T - 1)) (hb1 : Hid (1 ≤ (high - low + 1) * b / T)) (hlh : lo ≤ hi) (hhi2 : hi < 4294967296) :
  Calls Tryz.prog 86 #[.pointer (some ⟨p, 0, none⟩), .agg #[.slice C m d], .int .i64 s] w (NrP w p lo hi) := by
 obtain ⟨W, hW⟩ : ∃ W, W = high - low + 1 := ⟨_, rfl⟩
 have HWW := Lib.hid hW
 have W2 : W ≤ 4294967296 := by omega
 obtain ⟨S1, S2, S3⟩ := hsym.out.2.2.2
 have HLO := hlo.out
 have HHI := hhi.out
 have HB1 := hb1.out
 rw [← hW] at HLO HHI HB1
 obtain ⟨pa, hpa⟩ : ∃ pa, pa = W * a := ⟨_, rfl⟩
 obtain ⟨pb, hpb⟩ : ∃ pb, pb = W * b := ⟨_, rfl⟩
 have pa2 : pa ≤ 70368744177664 := by rw [hpa]; exact Nat.le_trans (Nat.mul_le_mul W2 (show a ≤ 16384 by omega)) (by omega)
 have pb2 : pb ≤ 70368744177664 := by rw [hpb]; exact Nat.le_trans (Nat.mul_le_mul W2 (show b ≤ 16384 by omega)) (by omega)
 have epa : (W : Int) * (a : Int) = (pa : Int) := by rw [hpa]; simp
 have epb : (W : Int) * (b : Int) = (pb : Int) := by rw [hpb]; simp
 obtain ⟨qa, hqa⟩ : ∃ qa, qa = pa / T := ⟨_, rfl⟩
 obtain ⟨qb, hqb⟩ : ∃ qb, qb = pb / T := ⟨_, rfl⟩
 have eqa : (pa : Int) / (T : Int) = (qa : Int) := by rw [hqa]; simp
 have eqb : (pb : Int) / (T : Int) = (qb : Int) := by rw [hqb]; simp
 rw [← hpa, ← hqa] at HLO
 rw [← hpb, ← hqb] at HHI HB1
 obtain ⟨qc, hqc⟩ : ∃ qc, qc + 1 = qb := ⟨qb - 1, by omega⟩
 have eqc : (qb : Int) - 1 = (qc : Int) := by omega
 have elo : (low : Int) + (qa : Int) = (lo : Int) := by omega
 have ehi : (low : Int) + (qc : Int) = (hi : Int) := by omega
 have qa3 : qa < 4294967296 := by omega
 have qc3 : qc < 4294967296 := by omega
 have qb3 : qb ≤ 4294967296 := by omega
 have T0 : ¬ (T : Int) = 0 := by omega
 have T0' : ((T : Int) == 0) = false := by simp; omega
 have T1 : T ≤ 16384 := S3
 have E1 := Lib.hid epa
 have E2 := Lib.hid epb
 have E3 := Lib.hid eqa
 have E4 := Lib.hid eqb
 have E5 := Lib.hid eqc
 have E6 := Lib.hid elo
 have E7 := Lib.hid ehi
 clear hW hpa hpb hqa hqb hqc HLO HHI HB1 epa epb eqa eqb eqc elo ehi
 have HS0 := Lib.hid (nrs_start (d := d) hx.out)
 go_enter Tryz.func86, Tryz.ntmps86
 go_wp2_with fail
 have H0 := Lib.hid (h2c.out.below (((Below.refl w.heap.size w).alloc (Nat.le_refl _) (.cells #[.slice C m d] 103))))
 obtain ⟨bf, hbf⟩ : ∃ bf, bf = w.heap.size := ⟨_, rfl⟩
 generalize w.alloc (.cells #[.slice C m d] 103) = w0 at HS0 H0 ⊢
 rw [← hbf] at HS0 ⊢
 have HBF := Lib.hid hbf
 clear hbf
 have hcon := Fq.span_any C m d xs s w0 (Lib.hid HS0.out.2.1) hm.out
 rw [hsym.out.1] at hcon
 refine hcon.mono ?_
 clear hcon
 rintro e w1 ⟨rfl, hb1⟩
 have HS1 := Lib.hid (HS0.out.next hb1)
 have H1 := Lib.hid (H0.out.below hb1)
 clear hb1 HS0 H0
 unfold Fq.spanT
 go_wp2_with fail
 obtain ⟨x1, x2, -, -⟩ := H1.out
 have x3 := Fq.blk0 HS1.out.1
 have v1 : IntKind.u64.wrap (T : Int) = (T : Int) := IntWalk.u64_in _ (by omega)
 have C1 := Lib.hid (show ∀ u, NrS w bf C m d xs u ∧ Two u p low high → Calls Tryz.prog 136 #[.agg #[.slice C m d]] u (fun e w' => e = .returned (.int .i64 (T : Int)) ∧ NrS w bf C m d xs w' ∧ Two w' p low high) from fun u h =>
  (Fq.total_any C m d xs true (T : Int) u (Lib.hid h.1.2.1) hm.out hsym.out.2.1 hsym.out.2.2.1).mono fun e w' ⟨h1, h2⟩ => ⟨h1, h.1.next h2, h.2.below h2⟩)
 have C2 := Lib.hid (show ∀ u, NrS w bf C m d xs u ∧ Two u p low high → Calls Tryz.prog 135 #[.agg #[.int .u32 (low : Int), .int .u32 (high : Int)]] u (fun e w' => e = .returned (.int .u64 (W : Int)) ∧ NrS w bf C m d xs w' ∧ Two w' p low high) from fun u h =>
  (size_any low high W u h1 h2 HWW).mono fun e w' ⟨h1, h2⟩ => ⟨h1, h.1.next h2, h.2.below h2⟩)
 go_region_held3 (fun w' => w'.cell? ⟨p, 0, none⟩ = some (.int .u32 (low : Int)) ∧ w'.cell? ⟨p, 1, none⟩ = some (.int .u32 (high : Int)) ∧ w'.cell? ⟨bf, 0, none⟩ = some (.slice C m d) ∧ NrS w bf C m d xs w' ∧ Two w' p low high) (first | exact ⟨hQ.2.1, hQ.2.2.1, Fq.blk0 hQ.1.1, hQ⟩ | exact ⟨x1, x2, x3, HS1.out, H1.out⟩ | exact ⟨x1, x2, x3, HS1.out.drew, H1.out.drew⟩) (first
  | (go_at_call 136; refine (C1.out _ (by first | exact hQ | exact ⟨HS1.out, H1.out⟩ | exact ⟨HS1.out.drew, H1.out.drew⟩)).mono ?_; rintro e w6 ⟨rfl, hQ⟩)
  | (go_at_call 135; refine (C2.out _ (by first | exact hQ | exact ⟨HS1.out, H1.out⟩ | exact ⟨HS1.out.drew, H1.out.drew⟩)).mono ?_; rintro e w6 ⟨rfl, hQ⟩))
 all_goals
  have HQ := Lib.hid hQ
  clear hQ x1 x2 x3 v1 C1 C2
  obtain ⟨y1, y2, y3, y4⟩ := HQ.out.2
  have e1 := E1.out
  have e2 := E2.out
  have e3 := E3.out
  have e4 := E4.out
  have e5 := E5.out
  have e6 := E6.out
  have e7 := E7.out
  go_wp2
  go_ret
  exact ⟨rfl, _, HQ.out.1.2.2, rfl⟩
theorem narrow_no (p : Nat) (C : Option Addr) (m d : Nat) (xs : List Int) (s : Int) (w : World) (hx : Hid (Fq.RdI w C m xs)) (hm : Hid (m ≤ maxLen)) (hsym : Hid (Fq.symB xs s = false)) :
  Calls Tryz.prog 86 #[.pointer (some ⟨p, 0, none⟩), .agg #[.slice C m d], .int .i64 s] w fun e w' => e = .returned (.int .i64 1) ∧ Below w.heap.size w w' := by
 have HS0 := Lib.hid (nrs_start (d := d) hx.out)
 go_enter Tryz.func86, Tryz.ntmps86
 go_wp2_with fail
 generalize w.alloc (.cells #[.slice C m d] 103) = w0 at HS0 ⊢
 have hcon := Fq.span_any C m d xs s w0 (Lib.hid HS0.out.2.1) hm.out
 obtain ⟨a, b, e, he, -, h1⟩ := spanV_some xs s
 obtain rfl := h1 hsym.out
 rw [he] at hcon
 refine hcon.mono ?_
 clear hcon he h1
 rintro e w1 ⟨rfl, hb1⟩
 have HS1 := Lib.hid (HS0.out.next hb1)
 clear hb1 HS0
 unfold Fq.spanT
 go_wp2
 go_ret
 exact ⟨rfl, HS1.out.2.2⟩
end Go.Proofs.YtkcoboamejefiaaGreatDoor.Cd
namespace Go.Proofs.YtkcoboamejefiaaGreatDoor.Cd
open Go.RowKit
def itC (x : It) : List Value := [.slice x.A x.n x.c, .int .i64 x.N]
def itCells (xs : List It) : List Value := xs.flatMap itC
theorem itCells_snoc (xs : List It) (x : It) : itCells (xs ++ [x]) = itCells xs ++ itC x := by simp [itCells]
theorem itCells_get (xs : List It) : ∀ (j : Nat) (x : It), xs[j]? = some x → (itCells xs)[j * 2]? = some (.slice x.A x.n x.c) ∧ (itCells xs)[j * 2 + 1]? = some (.int .i64 x.N) := by
 induction xs with
 | nil => intro j x h; simp at h
 | cons y xs ih =>
  intro j x h
  cases j with
  | zero =>
   have : y = x := by simpa using h
   subst this
   exact ⟨rfl, rfl⟩
  | succ j =>
   have h' : xs[j]? = some x := by simpa using h
   obtain ⟨a, b⟩ := ih j x h'
   have e : itCells (y :: xs) = itC y ++ itCells xs := by simp [itCells]
   have el : (itC y).length = 2 := rfl
   rw [e]
   refine ⟨?_, ?_⟩
   ·rw [List.getElem?_append_right (by omega), el, show (j + 1) * 2 - 2 = j * 2 by omega]; exact a
   ·rw [List.getElem?_append_right (by omega), el, show (j + 1) * 2 + 1 - 2 = j * 2 + 1 by omega]; exact b
def Apart (x : It) (p : Nat) : Prop := ∀ ad, x.A = some ad → 0 < x.n → ad.block ≠ p
theorem only_refl (w : World) (row : Option Nat) : w.grownBy w row := ⟨rfl, rfl, rfl, Nat.le_refl _, fun _ _ _ => rfl⟩
def wrC (low high wait N g k cap : Nat) : Array Value := #[.int .u32 (low : Int), .int .u32 (high : Int), .int .i64 (wait : Int), .slice (some ⟨g, 0, none⟩) k cap, .int .i64 (N : Int)]
structure Bs where
 w : World
 r : Nat
 o : Option Obj
def Kp (z : Bs) (p g : Nat) (w : World) : Prop := z.r ≠ p ∧ z.r ≠ g ∧ z.r < w.heap.size ∧ w.heap[z.r]? = z.o
structure WSx (z : Bs) (p g k cap : Nat) (xs : List It) (low high wait N : Nat) (out : List Bool) (w : World) : Prop where
 blk : Blk w p 144 (wrC low high wait N g k cap)
 own : w.ownsRow z.w.heap.size 75 2 (.slice (some ⟨g, 0, none⟩) k cap) k (itCells xs)
 hp : z.w.heap.size ≤ p
 hg : z.w.heap.size ≤ g
 ne : g ≠ p
 len : xs.length = k
 rd : ∀ x ∈ xs, Rd w x.A x.n x.bs ∧ x.ok = true ∧ Apart x p ∧ Apart x g
 bits : allBits xs = out
 few : k ≤ out.length + 1
 kp : Kp z p g w
section
variable {z : Bs} {p g k cap : Nat} {xs : List It} {low high wait N : Nat} {out : List Bool} {w w' : World}
theorem WSx.next (h : WSx z p g k cap xs low high wait N out w) (hb : Below w.heap.size w w') : WSx z p g k cap xs low high wait N out w' where
 blk := h.blk.below hb h.blk.lt
 own := World.ownsRow.kept h.own (only_of_below hb none) (.inr (by simp [Value.ownBlock]))
 hp := h.hp
 hg := h.hg
 ne := h.ne
 len := h.len
 rd := fun x hx => ⟨(h.rd x hx).1.below hb, (h.rd x hx).2⟩
 bits := h.bits
 few := h.few
 kp := ⟨h.kp.1, h.kp.2.1, Nat.lt_of_lt_of_le h.kp.2.2.1 hb.size, (hb.block _ h.kp.2.2.1).trans h.kp.2.2.2⟩
theorem WSx.drew (h : WSx z p g k cap xs low high wait N out w) : WSx z p g k cap xs low high wait N out w.drew := ⟨h.blk, h.own, h.hp, h.hg, h.ne, h.len, h.rd, h.bits, h.few, h.kp⟩
theorem WSx.put (h : WSx z p g k cap xs low high wait N out w) (i : Nat) (u : Value) {low' high' wait' N' : Nat} (he : (wrC low high wait N g k cap).setIfInBounds i u = wrC low' high' wait' N' g k cap) : WSx z p g k cap xs low' high' wait' N' out (w.setCell ⟨p, i, none⟩ u) where
 blk := by have := h.blk.set_ i u; rwa [he] at this
 own := World.ownsRow.kept h.own (only_setCell (only_refl w (some p)) (.inl rfl) u) (.inr (by simp [Value.ownBlock]; exact h.ne))
 hp := h.hp
 hg := h.hg
 ne := h.ne
 len := h.len
 rd := fun x hx => ⟨(h.rd x hx).1.only (only_setCell (only_refl w (some p)) (.inl rfl) u) (h.rd x hx).2.2.1, (h.rd x hx).2⟩
 bits := h.bits
 few := h.few
 kp := ⟨h.kp.1, h.kp.2.1, by simpa [World.setCell] using h.kp.2.2.1, (Below.heap_setCell w ⟨p, i, none⟩ u _ h.kp.1).trans h.kp.2.2.2⟩
theorem WSx.rdL (h : WSx z p g k cap xs low high wait N out w) : RdL w (some ⟨g, 0, none⟩) k xs := by
 refine ⟨h.len, fun _ => ⟨_, rfl, fun j x hx => ?_⟩⟩
 obtain ⟨a, b⟩ := itCells_get xs j x hx
 have c0 := World.ownsRow.cells h.own (g := g) rfl _ _ a
 have c1 := World.ownsRow.cells h.own (g := g) rfl _ _ b
 rw [add_own] at c0 c1
 refine ⟨by rw [add_own]; exact c0, ?_, (h.rd x (List.mem_of_getElem? hx)).1⟩
 rw [add_own]
 exact c1
theorem WSx.push (h : WSx z p g k cap xs low high wait N out w) (y : It) (hy : Rd w y.A y.n y.bs) (hok : y.ok = true) (hyp : Apart y p) (hyg : Apart y g) (hy1 : 1 ≤ y.bits.length) {g' cap' : Nat}
  (ho : w'.ownsRow z.w.heap.size 75 2 (.slice (some ⟨g', 0, none⟩) (k + 1) cap') (k + 1) (itCells xs ++ itC y)) (hgr : w.grownBy w' (some g)) (hat : g = g' ∨ w.heap.size ≤ g') :
  WSx z p g' (k + 1) cap' (xs ++ [y]) low high wait N (out ++ y.bits) (w'.setCell ⟨p, 3, none⟩ (.slice (some ⟨g', 0, none⟩) (k + 1) cap')) := by
 have hpw : p < w.heap.size := h.blk.lt
 have hne : g' ≠ p := by
  rcases hat with e | e
  ·rw [← e]; exact h.ne
  ·omega
 have hsc := only_setCell (only_refl w' (some p)) (p := ⟨p, 3, none⟩) (.inl rfl) (.slice (some ⟨g', 0, none⟩) (k + 1) cap')
 have far : ∀ x : It, Rd w x.A x.n x.bs → Apart x g → Apart x g' := by
  intro x hr ha ad e hn
  rcases hat with e' | e'
  ·rw [← e']; exact ha ad e hn
  ·have := hr.lies hn ad e
   omega
 refine ⟨?_, ?_, h.hp, (World.ownsRow.lt ho g' rfl).1, hne, by rw [List.length_append, h.len]; rfl, ?_, by rw [allBits_snoc, h.bits], by rw [List.length_append]; have := h.few; omega, h.kp.1, ?_, ?_, ?_⟩
 ·have := (h.blk.only hgr (fun e => h.ne e.symm)).set_ 3 (.slice (some ⟨g', 0, none⟩) (k + 1) cap')
  exact this
 ·rw [itCells_snoc]
  exact World.ownsRow.kept ho hsc (.inr (by simp [Value.ownBlock]; exact hne))
 ·intro x hx
  rw [List.mem_append] at hx
  rcases hx with hx | hx
  ·obtain ⟨a, b, c, d⟩ := h.rd x hx
   exact ⟨(a.only hgr d).only hsc c, b, c, far x a d⟩
  ·have : x = y := by simpa using hx
   subst this
   exact ⟨(hy.only hgr hyg).only hsc hyp, hok, hyp, far x hy hyg⟩
 ·rcases hat with e | e
  ·rw [← e]; exact h.kp.2.1
  ·have := h.kp.2.2.1; omega
 ·have := hgr.size; have := h.kp.2.2.1; simp [World.setCell]; omega
 ·exact ((Below.heap_setCell w' ⟨p, 3, none⟩ _ _ h.kp.1).trans (hgr.block _ h.kp.2.2.1 (fun e => h.kp.2.1 (by injection e)))).trans h.kp.2.2.2
theorem WSx.five (h : WSx z p g k cap xs low high wait N out w) : w.cell? ⟨p, 0, none⟩ = some (.int .u32 (low : Int)) ∧ w.cell? ⟨p, 1, none⟩ = some (.int .u32 (high : Int)) ∧ w.cell? ⟨p, 2, none⟩ = some (.int .i64 (wait : Int)) ∧ w.cell? ⟨p, 3, none⟩ = some (.slice (some ⟨g, 0, none⟩) k cap) ∧ w.cell? ⟨p, 4, none⟩ = some (.int .i64 (N : Int)) :=
 ⟨h.blk.cell 0, h.blk.cell 1, h.blk.cell 2, h.blk.cell 3, h.blk.cell 4⟩
theorem WSx.frz (h : WSx z p g k cap xs low high wait N out w) (i : Nat) : w.frozen? ⟨p, i, none⟩ = false := h.blk.frozen i
theorem WSx.two (h : WSx z p g k cap xs low high wait N out w) : Two w p low high := ⟨h.blk.cell 0, h.blk.cell 1, h.blk.frozen 0, h.blk.frozen 1⟩
end
def WSm (w0 : Bs) (p low high wait N : Nat) (out : List Bool) (w : World) : Prop := Below w0.w.heap.size w0.w w ∧ ∃ g k cap xs, WSx w0 p g k cap xs low high wait N out w
def WS (w0 : Bs) (p : Nat) (e : En) (w : World) : Prop := WSm w0 p e.low e.high e.wait e.out.length e.out w
section
variable {w0 : Bs} {w w' : World} {p low high wait N : Nat} {out : List Bool}
theorem WSm.next (h : WSm w0 p low high wait N out w) (hb : Below w.heap.size w w') : WSm w0 p low high wait N out w' := by
 obtain ⟨h1, g, k, cap, xs, h2⟩ := h
 exact ⟨h1.trans (hb.mono h1.size), g, k, cap, xs, h2.next hb⟩
theorem WSm.setIv (h : WSm w0 p low high wait N out w) (lo hi : Nat) : WSm w0 p lo hi wait N out ((w.setCell ⟨p, 1, none⟩ (.int .u32 (hi : Int))).setCell ⟨p, 0, none⟩ (.int .u32 (lo : Int))) := by
 obtain ⟨h1, g, k, cap, xs, h2⟩ := h
 exact ⟨(h1.setCell h2.hp _).setCell h2.hp _, g, k, cap, xs, (h2.put 1 _ (low' := low) (high' := hi) (wait' := wait) (N' := N) rfl).put 0 _ rfl⟩
theorem WSm.setIv' (h : WSm w0 p low high wait N out w) (lo hi : Nat) : WSm w0 p lo hi wait N out ((w.setCell ⟨p, 0, none⟩ (.int .u32 (lo : Int))).setCell ⟨p, 1, none⟩ (.int .u32 (hi : Int))) := by
 obtain ⟨h1, g, k, cap, xs, h2⟩ := h
 exact ⟨(h1.setCell h2.hp _).setCell h2.hp _, g, k, cap, xs, (h2.put 0 _ (low' := lo) (high' := high) (wait' := wait) (N' := N) rfl).put 1 _ rfl⟩
theorem WSm.setWait (h : WSm w0 p low high wait N out w) (wt : Nat) : WSm w0 p low high wt N out (w.setCell ⟨p, 2, none⟩ (.int .i64 (wt : Int))) := by
 obtain ⟨h1, g, k, cap, xs, h2⟩ := h
 exact ⟨h1.setCell h2.hp _, g, k, cap, xs, h2.put 2 _ rfl⟩
theorem WSm.setN (h : WSm w0 p low high wait N out w) (n : Nat) : WSm w0 p low high wait n out (w.setCell ⟨p, 4, none⟩ (.int .i64 (n : Int))) := by
 obtain ⟨h1, g, k, cap, xs, h2⟩ := h
 exact ⟨h1.setCell h2.hp _, g, k, cap, xs, h2.put 4 _ rfl⟩
theorem WSm.two (h : WSm w0 p low high wait N out w) : Two w p low high := by
 obtain ⟨_, g, k, cap, xs, h2⟩ := h
 exact h2.two
theorem WSm.wait_ (h : WSm w0 p low high wait N out w) : w.cell? ⟨p, 2, none⟩ = some (.int .i64 (wait : Int)) ∧ w.frozen? ⟨p, 2, none⟩ = false := by
 obtain ⟨_, g, k, cap, xs, h2⟩ := h
 exact ⟨h2.blk.cell 2, h2.blk.frozen 2⟩
theorem WSm.n_ (h : WSm w0 p low high wait N out w) : w.cell? ⟨p, 4, none⟩ = some (.int .i64 (N : Int)) ∧ w.frozen? ⟨p, 4, none⟩ = false := by
 obtain ⟨_, g, k, cap, xs, h2⟩ := h
 exact ⟨h2.blk.cell 4, h2.blk.frozen 4⟩
theorem WSm.lt (h : WSm w0 p low high wait N out w) : p < w.heap.size := by
 obtain ⟨_, g, k, cap, xs, h2⟩ := h
 exact h2.blk.lt
end
end Go.Proofs.YtkcoboamejefiaaGreatDoor.Cd
namespace Go.Proofs.YtkcoboamejefiaaGreatDoor.Cd
open Go.RowKit
theorem bitsOf_rep (x : Bool) (n : Nat) : bitsOf n (x.toNat * (2 ^ n - 1)) = List.replicate n x := by
 have h : num (List.replicate n x) = x.toNat * (2 ^ n - 1) := by
  cases x with
  | false => rw [num_rep_false]; simp
  | true => rw [num_rep_true]; simp
 have := bitsOf_num (List.replicate n x)
 rw [h, List.length_replicate] at this
 exact this
theorem pow64 : (2 : Nat) ^ 64 = 18446744073709551616 := by decide
theorem ones_nat (wd : Nat) (h : wd ≤ 64) : 18446744073709551615 / 2 ^ (64 - wd) = 2 ^ wd - 1 := by
 have e : 2 ^ (64 - wd) * 2 ^ wd = 18446744073709551616 := by rw [← Nat.pow_add, show 64 - wd + wd = 64 by omega, pow64]
 have ha : 0 < 2 ^ (64 - wd) := Nat.pow_pos (by omega)
 have hb : 0 < 2 ^ wd := Nat.pow_pos (by omega)
 generalize 2 ^ (64 - wd) = a at e ha
 generalize 2 ^ wd = b at e hb
 obtain ⟨c, rfl⟩ : ∃ c, b = c + 1 := ⟨b - 1, by omega⟩
 rw [Nat.mul_add, Nat.mul_one] at e
 rw [Nat.add_sub_cancel]
 refine Nat.div_eq_of_lt_le ?_ ?_
 ·rw [Nat.mul_comm]; omega
 ·rw [Nat.add_mul, Nat.mul_comm c, Nat.one_mul]; omega
theorem ones_int (wd t : Nat) (h : wd ≤ 64) (ht : t ≤ 1) : IntKind.u64.wrap ((t : Int) * (18446744073709551615 / 2 ^ (64 - wd))) = ((t * (2 ^ wd - 1) : Nat) : Int) := by
 have e2 : (18446744073709551615 : Int) / 2 ^ (64 - wd) = ((2 ^ wd - 1 : Nat) : Int) := by rw [← ones_nat wd h]; simp
 have hb : 2 ^ wd ≤ 2 ^ 64 := Nat.pow_le_pow_right (by omega) h
 rw [pow64] at hb
 rw [e2]
 rcases (show t = 0 ∨ t = 1 by omega) with rfl | rfl
 ·simp; rfl
 ·rw [Nat.one_mul, Int.natCast_one, Int.one_mul]
  exact IntWalk.u64_in _ (by omega)
def PcP (w : World) (l : List Bool) (n8 L : Nat) (e : Ending) (w' : World) : Prop :=
 ∃ g, e = .returned (.tuple #[.agg #[.slice (some ⟨g, 0, none⟩) n8 n8, .int .i64 (L : Int)], .int .i64 0]) ∧ w.heap.size ≤ g ∧ Blk w' g 5 (bcells (pack l)) ∧ Below w.heap.size w w'
theorem put_piece (x : Bool) (t wd n8 : Nat) (xi : Int) (w : World) (ht : t = x.toNat) (hw : wd ≤ 64) (hx : xi = ((t * (2 ^ wd - 1) : Nat) : Int)) (hn8 : n8 = (pack (List.replicate wd x)).length) :
  Calls Tryz.prog 179 #[.agg #[.slice none 0 0, .int .i64 0], .int .u64 xi, .int .i64 (wd : Int)] w (PcP w (List.replicate wd x) n8 wd) := by
 subst ht hx hn8
 refine (put_any _ [] (x.toNat * (2 ^ wd - 1)) wd w (IsB.nil_ w) hw ?_).mono ?_
 ·have : 0 < 2 ^ wd := Nat.pow_pos (by omega)
  cases x <;> simp <;> omega
 ·rintro e w' ⟨A, n, c, N, er, rfl, hb, h⟩
  rw [List.nil_append, bitsOf_rep] at h
  rcases h with ⟨_, rfl, g, hv, hg, hk, hl⟩ | ⟨h, _⟩
  ·refine ⟨g, ?_, hg, hk, hb⟩
   rw [hv, List.length_replicate]
  ·rw [List.length_replicate] at h; omega
theorem bits_rep (x : Bool) (wd n8 : Nat) (A : Option Addr) (c : Nat) : It.bits ⟨A, n8, c, (wd : Int), pack (List.replicate wd x)⟩ = List.replicate wd x := by
 unfold It.bits
 have := bitsIn_pack (List.replicate wd x)
 rw [List.length_replicate] at this
 exact this
theorem lay_push {w0 : Bs} {w3 w5 : World} {p g k cap low high wait M j : Nat} {xs : List It} {out : List Bool} {g' cap' : Nat} {o : Obj} (x : Bool) (wd n8 gp : Nat)
    (hx3 : WSx w0 p g k cap xs low high wait M (out ++ List.replicate j x) w3) (hxa : WSx w0 p g k cap xs low high wait M (out ++ List.replicate j x) (w3.alloc o).drew) (h13 : Below w0.w.heap.size w0.w w3) (hP : Blk w3 gp 5 (bcells (pack (List.replicate wd x)))) (hn8 : n8 = (pack (List.replicate wd x)).length) (hG : gp ≠ p ∧ gp ≠ g) (hw : wd ≤ 64) (hw1 : 1 ≤ wd)
    (ho : w5.ownsRow w0.w.heap.size 75 2 (.slice (some ⟨g', 0, none⟩) (k + 1) cap') (k + 1) (itCells xs ++ [.slice (some ⟨gp, 0, none⟩) n8 n8, .int .i64 (wd : Int)])) (hgr : (w3.alloc o).drew.grownBy w5 (Value.slice (some ⟨g, 0, none⟩) k cap).ownBlock) (hat : (Value.slice (some ⟨g, 0, none⟩) k cap).ownBlock = some g' ∨ g' = w3.heap.size + 1) :
    WSm w0 p low high wait M (out ++ List.replicate (j + wd) x) (w5.setCell ⟨p, 3, none⟩ (.slice (some ⟨g', 0, none⟩) (k + 1) cap')) := by
  have hb := bits_rep x wd n8 (some ⟨gp, 0, none⟩) n8
  have hr : Rd (w3.alloc o).drew (some ⟨gp, 0, none⟩) n8 (pack (List.replicate wd x)) := by
    rw [hn8]; exact Rd.of_blk (hP.alloc o).drew (pack_lt _)
  have hpush := hxa.push (w' := w5) (g' := g') (cap' := cap') ⟨some ⟨gp, 0, none⟩, n8, n8, (wd : Int), pack (List.replicate wd x)⟩ hr
    (by have := okB_pack (List.replicate wd x) (by rw [List.length_replicate]; omega); rw [List.length_replicate] at this; exact this)
    (by intro ad e _; injection e with e; rw [← e]; exact hG.1) (by intro ad e _; injection e with e; rw [← e]; exact hG.2) (by rw [hb, List.length_replicate]; exact hw1) ho hgr
    (by rcases hat with e | e
        · left; simpa [Value.ownBlock] using e
        · right; rw [e]; simp)
  rw [hb] at hpush
  have hbel : Below w0.w.heap.size w0.w w5 := (Below.drew (h13.alloc h13.size o)).grown hgr (by have := h13.size; simp; omega) (fun k hk => by
    have : g = k := by simpa [Value.ownBlock] using hk
    rw [← this]; exact hx3.hg)
  have hs : Below w0.w.heap.size w0.w (w5.setCell ⟨p, 3, none⟩ (.slice (some ⟨g', 0, none⟩) (k + 1) cap')) := hbel.setCell (p := ⟨p, 3, none⟩) hx3.hp _
  rw [← List.replicate_append_replicate, ← List.append_assoc]
  exact ⟨hs, g', k + 1, cap', _, hpush⟩
theorem info_bits : (Tryz.prog.info? 75).map (fun i => (i.zero, i.size, i.bytes)) = some (some (.agg #[.slice none 0 0, .int .i64 0]), 2, 32) := by kernel_rfl
theorem lay_w (w0 : Bs) (p low high wait N n M : Nat) (x : Bool) (t : Nat) (out out2 : List Bool) (w : World) (h : Hid (WSm w0 p low high wait N out w)) (ht : Hid (t = x.toNat)) (ht1 : t ≤ 1) (hn : n ≤ 100000) (ho : out.length ≤ 200000) (hN : N ≤ 300000) (hM : Hid (M = N + n)) (ho2 : Hid (out2 = out ++ List.replicate n x)) :
    Calls Tryz.prog 138 #[.pointer (some ⟨p, 0, none⟩), .int .u64 (t : Int), .int .i64 (n : Int)] w fun e w' => e = .returned (.tuple #[]) ∧ WSm w0 p low high wait M out2 w' := by
  obtain ⟨i0, hi0, hz0, hz1, hz2⟩ := info_parts info_bits
  obtain ⟨c4, f4⟩ := h.out.n_
  have eM : (N : Int) + (n : Int) = (M : Int) := by have := hM.out; omega
  go_enter Tryz.func138, Tryz.ntmps138
  go_wp2_with fail
  clear c4 f4 eM
  have HS := Lib.hid (h.out.setN M)
  generalize w.setCell ⟨p, 4, none⟩ (.int .i64 (M : Int)) = w1 at HS ⊢
  go_loopw [2] (fun vn wr => ∃ (r j : Nat), vn = .int .i64 (r : Int) ∧ r ≤ 100000 ∧ Hid (r + j = n ∧ WSm w0 p low high wait M (out ++ List.replicate j x) wr)) (fun vn _ => (intOf vn).toNat)
  case atStart => exact ⟨n, 0, rfl, hn, Lib.hid ⟨rfl, by simpa using HS.out⟩⟩
  case round =>
    obtain ⟨r, j, rfl, hr, HZ⟩ := hrel
    clear HS
    by_cases hgo : 0 < r
    · have d1 : decide ((0 : Int) < (r : Int)) = true := by simp; omega
      obtain ⟨wd, hwd⟩ : ∃ wd, wd = min r 64 := ⟨_, rfl⟩
      have em : min (r : Int) 64 = (wd : Int) := by omega
      have w1' : wd ≤ 64 := by omega
      have w2' : 1 ≤ wd := by omega
      have w3' : wd ≤ r := by omega
      obtain ⟨n8, hn8⟩ : ∃ n8, n8 = (pack (List.replicate wd x)).length := ⟨_, rfl⟩
      have HN8 := Lib.hid hn8
      clear hwd hn8
      go_wp2_with fail
      with_reducible refine (put_piece x t wd n8 _ wr ht.out w1' ?hx HN8.out).mono ?_
      case hx => exact ones_int wd t w1' ht1
      rintro e w2 ⟨gp, rfl, hgp, hkp, hb2⟩
      obtain ⟨h1, g, k, cap, xs, h2⟩ := HZ.out.2
      have HX := Lib.hid (h2.next hb2)
      have H1 := Lib.hid (h1.trans (hb2.mono h1.size))
      have HP := Lib.hid hkp
      have HG := Lib.hid (show gp ≠ p ∧ gp ≠ g from ⟨by have := h2.blk.lt; omega, by have := (World.ownsRow.lt h2.own g rfl).2; omega⟩)
      have HRJ := Lib.hid HZ.out.1
      clear hgp hkp hb2 h1 h2 HZ em
      go_wp2_with fail
      have HX3 := Lib.hid (HX.out.next ((Below.refl w2.heap.size w2).alloc (Nat.le_refl _) (.cells #[.slice (some ⟨gp, 0, none⟩) n8 n8, .int .i64 (wd : Int)] 75)))
      have H13 := Lib.hid (H1.out.alloc H1.out.size (.cells #[.slice (some ⟨gp, 0, none⟩) n8 n8, .int .i64 (wd : Int)] 75))
      have HP3 := Lib.hid (HP.out.alloc (.cells #[.slice (some ⟨gp, 0, none⟩) n8 n8, .int .i64 (wd : Int)] 75))
      have HB3 := Lib.hid (Blk.new w2 75 #[.slice (some ⟨gp, 0, none⟩) n8 n8, .int .i64 (wd : Int)])
      have bg : g < w2.heap.size := (World.ownsRow.lt HX.out.own g rfl).2
      obtain ⟨bx, hbx⟩ : ∃ bx, bx = w2.heap.size := ⟨_, rfl⟩
      rw [← hbx] at HB3 bg ⊢
      generalize w2.alloc (.cells #[.slice (some ⟨gp, 0, none⟩) n8 n8, .int .i64 (wd : Int)] 75) = w3 at HX3 H13 HP3 HB3 ⊢
      clear HX H1 HP hbx
      obtain ⟨-, -, -, c3, -⟩ := HX3.out.five
      have f3 := HX3.out.frz 3
      have b0 := HB3.out.cell 0
      have b1 := HB3.out.cell 1
      have lp : p < w3.heap.size := HX3.out.blk.lt
      have lx : bx < w3.heap.size := HB3.out.lt
      have ag : (Value.slice (some ⟨g, 0, none⟩) k cap).ownBlock ≠ some p := by simp [Value.ownBlock]; exact HX3.out.ne
      have ax : (Value.slice (some ⟨g, 0, none⟩) k cap).ownBlock ≠ some bx := by simp [Value.ownBlock]; omega
      have hk63 : k + 1 ≤ 400000 := by
        have h1 := HX3.out.few
        have h2 := HRJ.out
        rw [List.length_append, List.length_replicate] at h1
        omega
      have hnews := Lib.hid (World.news_of_block (cs := #[.slice (some ⟨gp, 0, none⟩) n8 n8, .int .i64 (wd : Int)]) (t := 75) (fr := (0, 0)) (heap_alloc_new w3 _))
      have HBA := Lib.hid (show w0.w.heap.size ≤ (w3.alloc (.cells #[.slice (some ⟨gp, 0, none⟩) n8 n8, .int .i64 (wd : Int)] 75)).drew.heap.size from by have := H13.out.size; simp; omega)
      have HXA := Lib.hid (HX3.out.next ((Below.refl w3.heap.size w3).alloc (Nat.le_refl _) (.cells #[.slice (some ⟨gp, 0, none⟩) n8 n8, .int .i64 (wd : Int)] 75))).drew
      have HBX := Lib.hid (HB3.out.alloc (.cells #[.slice (some ⟨gp, 0, none⟩) n8 n8, .int .i64 (wd : Int)] 75)).drew
      have SA := Lib.hid (show (w3.alloc (.cells #[.slice (some ⟨gp, 0, none⟩) n8 n8, .int .i64 (wd : Int)] 75)).drew.cell? ⟨p, 3, none⟩ = some (.slice (some ⟨g, 0, none⟩) k cap) ∧ (w3.alloc (.cells #[.slice (some ⟨gp, 0, none⟩) n8 n8, .int .i64 (wd : Int)] 75)).drew.cell? ⟨bx, 0, none⟩ = some (.slice (some ⟨gp, 0, none⟩) n8 n8) ∧ (w3.alloc (.cells #[.slice (some ⟨gp, 0, none⟩) n8 n8, .int .i64 (wd : Int)] 75)).drew.cell? ⟨bx, 1, none⟩ = some (.int .i64 (wd : Int)) ∧ (w3.alloc (.cells #[.slice (some ⟨gp, 0, none⟩) n8 n8, .int .i64 (wd : Int)] 75)).drew.frozen? ⟨p, 3, none⟩ = false from ⟨HXA.out.five.2.2.2.1, HBX.out.cell 0, HBX.out.cell 1, HXA.out.frz 3⟩)
      go_region_law
        ((refine step_append_lies _ (by rfl) _ _ _ (by rfl) w0.w.heap.size 75 i0 _ 2 32 Tryz.underlying142 hi0 hz0 hz1 hz2 rfl (by omega) (.slice (some ⟨g, 0, none⟩) k cap) k (itCells xs) (by rfl) ((HX3.out.own.alloc _).drew)
            ⟨w3.heap.size, 0, none⟩ 1 1 [.slice (some ⟨gp, 0, none⟩) n8 n8, .int .i64 (wd : Int)] (by rfl) (by rfl) hnews.out (by simp [Value.oneCell'])
            (by omega) (by unfold maxLen; omega) (by omega) HBA.out (w3.heap.size + 1) (by simp) ?_; intro g' cap' w5 hown1 hgrow hat hlt; have f5 : w5.frozen? ⟨p, 3, none⟩ = false := (hgrow.frozen_far _ (by simp; omega) (Ne.symm ag)).trans SA.out.2.2.2; have f6 : (w5.cell? ⟨p, 3, none⟩) = some (.slice (some ⟨g, 0, none⟩) k cap) := (hgrow.cell_far _ (by simp; omega) (Ne.symm ag)).trans SA.out.1))
      all_goals
        have HO1 := Lib.hid hown1
        have HG1 := Lib.hid hgrow
        have HA1 := Lib.hid hat
        clear hown1 hgrow hat
        go_wp2
        refine ⟨⟨r - wd, j + wd, by congr 1; omega, by omega, Lib.hid ⟨by have := HRJ.out; omega, ?_⟩⟩, by simp [intOf]; omega⟩
        exact lay_push x wd n8 gp HX3.out HXA.out H13.out HP3.out HN8.out HG.out w1' w2' HO1.out HG1.out HA1.out
    · have hr0 : r = 0 := by omega
      have HE := Lib.hid (show j = n by have := HZ.out.1; omega)
      have d1 : decide ((0 : Int) < (r : Int)) = false := by simp; omega
      go_wp2
      go_end0
      exact ⟨rfl, by rw [ho2.out, ← HE.out]; exact HZ.out.2⟩
end Go.Proofs.YtkcoboamejefiaaGreatDoor.Cd
namespace Go.Proofs.YtkcoboamejefiaaGreatDoor.Cd
open Go.RowKit
theorem emit_eq (out : List Bool) (x : Bool) (n : Nat) : emit out x n = (out ++ List.replicate 1 x) ++ List.replicate n (!x) := by simp [emit]
theorem lay_n (w0 : Bs) (p low high wait N n M : Nat) (ni : Int) (x : Bool) (t : Nat) (out out2 : List Bool) (w : World) (h : Hid (WSm w0 p low high wait N out w)) (ht : Hid (t = x.toNat)) (ht1 : t ≤ 1) (hni : ni = (n : Int)) (hn : n ≤ 100000) (ho : out.length ≤ 200000) (hN : N ≤ 300000) (hM : Hid (M = N + n)) (ho2 : Hid (out2 = out ++ List.replicate n x)) :
  Calls Tryz.prog 138 #[.pointer (some ⟨p, 0, none⟩), .int .u64 (t : Int), .int .i64 ni] w fun e w' => e = .returned (.tuple #[]) ∧ WSm w0 p low high wait M out2 w' := by
 subst hni
 exact lay_w w0 p low high wait N n M x t out out2 w h ht ht1 hn ho hN hM ho2
theorem send_w (w0 : Bs) (p low high wait N M : Nat) (x : Bool) (t : Nat) (out out2 : List Bool) (w : World) (h : Hid (WSm w0 p low high wait N out w)) (ht : Hid (t = x.toNat)) (ht1 : t ≤ 1) (hw : wait ≤ 100000) (hN : Hid (N = out.length)) (ho : out.length ≤ 190000) (hM : Hid (M = out2.length)) (ho2 : Hid (out2 = emit out x wait)) :
  Calls Tryz.prog 88 #[.pointer (some ⟨p, 0, none⟩), .int .u64 (t : Int)] w fun e w' => e = .returned (.tuple #[]) ∧ WSm w0 p low high 0 M out2 w' := by
 obtain ⟨t', ht'⟩ : ∃ t' : Nat, t' = (!x).toNat := ⟨_, rfl⟩
 have et : (1 : Int) - (t : Int) = (t' : Int) := by rw [ht', ht.out]; cases x <;> rfl
 have ht2 : t' ≤ 1 := by omega
 have HT' := Lib.hid ht'
 clear ht'
 have hl1 : (out ++ List.replicate 1 x).length = out.length + 1 := by simp
 have HM2 := Lib.hid (show M = (N + 1) + wait by rw [hM.out, ho2.out, emit_length, hN.out]; omega)
 have HL1 := Lib.hid hl1
 clear hl1
 have HN2 : N ≤ 190000 := by have := hN.out; omega
 go_enter Tryz.func88, Tryz.ntmps88
 go_wp2_with fail
 with_reducible refine (lay_n w0 p low high wait N 1 (N + 1) 1 x t out (out ++ List.replicate 1 x) w h ht ht1 rfl (by omega) (by omega) (by omega) (Lib.hid rfl) (Lib.hid rfl)).mono ?_
 rintro e w1 ⟨rfl, h1⟩
 have H1 := Lib.hid h1
 clear h1
 obtain ⟨c2, f2⟩ := H1.out.wait_
 go_wp2_with fail
 clear c2 f2
 with_reducible refine (lay_w w0 p low high wait (N + 1) wait M (!x) t' (out ++ List.replicate 1 x) out2 w1 H1 HT' ht2 (by omega) (by have := HL1.out; omega) (by omega) HM2 (Lib.hid (by rw [ho2.out, emit_eq]))).mono ?_
 rintro e w2 ⟨rfl, h2⟩
 have H2 := Lib.hid h2
 clear h2
 obtain ⟨c2, f2⟩ := H2.out.wait_
 go_wp2
 go_end0
 exact ⟨rfl, H2.out.setWait 0⟩
theorem send_n (w0 : Bs) (p low high wait N M : Nat) (ti : Int) (x : Bool) (t : Nat) (out out2 : List Bool) (w : World) (h : Hid (WSm w0 p low high wait N out w)) (hti : ti = (t : Int)) (ht : Hid (t = x.toNat)) (ht1 : t ≤ 1) (hw : wait ≤ 100000) (hN : Hid (N = out.length)) (ho : out.length ≤ 190000) (hM : Hid (M = out2.length)) (ho2 : Hid (out2 = emit out x wait)) :
  Calls Tryz.prog 88 #[.pointer (some ⟨p, 0, none⟩), .int .u64 ti] w fun e w' => e = .returned (.tuple #[]) ∧ WSm w0 p low high 0 M out2 w' := by
 subst hti
 exact send_w w0 p low high wait N M x t out out2 w h ht ht1 hw hN ho hM ho2
theorem double_n (p low high t lo hi : Nat) (ti : Int) (w : World) (hti : ti = (t : Int)) (h1 : t ≤ low) (h2 : t ≤ high) (h3 : lo = 2 * (low - t)) (h4 : hi = 2 * (high - t) + 1) (h5 : lo < 4294967296) (h6 : hi < 4294967296) (hlow : low < 4294967296) (hhigh : high < 4294967296) (h2c : Two w p low high) :
  Calls Tryz.prog 137 #[.pointer (some ⟨p, 0, none⟩), .int .u32 ti] w fun e w' => e = .returned (.tuple #[]) ∧ (w.setCell ⟨p, 0, none⟩ (.int .u32 (lo : Int))).setCell ⟨p, 1, none⟩ (.int .u32 (hi : Int)) = w' := by
 subst hti
 exact double_any p low high t lo hi w h1 h2 h3 h4 h5 h6 hlow hhigh h2c.1 h2c.2.1 h2c.2.2.1 h2c.2.2.2
def WidR (w0 : Bs) (p : Nat) (fin : En) (m : Nat) (wr : World) : Prop := ∃ e : En, WS w0 p e wr ∧ widE m e = fin ∧ Ok e.low e.high ∧ 4294967296 < wid e * 2 ^ (m + 1) ∧ len e + m ≤ 140000 ∧ e.wait + m ≤ 70000
theorem widR_zero {e : En} (hok : Ok e.low e.high) (h : 4294967296 < wid e * 2 ^ (0 + 1)) : kind e.low e.high = 3 := by
 by_cases hk : kind e.low e.high = 3
 ·exact hk
 ·have := wid_small hok hk
  simp at h
  omega
theorem stepE_wait {e : En} (h : kind e.low e.high ≠ 3) : (stepE e).wait ≤ e.wait + 1 := by
 rcases kind_cases e.low e.high with ⟨hk, _⟩ | ⟨hk, _⟩ | ⟨hk, _⟩ | ⟨hk, _⟩
 ·rw [stepE_0 hk]; exact Nat.zero_le _
 ·rw [stepE_1 hk]; exact Nat.zero_le _
 ·rw [stepE_2 hk]; exact Nat.le_refl _
 ·exact absurd hk h
theorem WidR.step {w0 : Bs} {wr : World} {p m : Nat} {fin e : En} (hok : Ok e.low e.high) (hk : kind e.low e.high ≠ 3) (hf : widE (m + 1) e = fin) (hw : 4294967296 < wid e * 2 ^ (m + 1 + 1)) (h1 : len e + (m + 1) ≤ 140000) (h2 : e.wait + (m + 1) ≤ 70000) (hs : WS w0 p (stepE e) wr) : WidR w0 p fin m wr := by
 refine ⟨stepE e, hs, ?_, (stepE_low hok hk).2.2, ?_, ?_, ?_⟩
 ·unfold widE at hf; rwa [if_neg hk] at hf
 ·rw [stepE_wid hok hk]
  rw [Nat.pow_succ 2 (m + 1)] at hw
  rw [Nat.mul_comm 2 (wid e), Nat.mul_assoc, Nat.mul_comm 2]
  exact hw
 ·rw [(stepE_off hk).2]; omega
 ·have := stepE_wait hk; omega
theorem widen_w (w0 : Bs) (p m : Nat) (fin : En) (w : World) (h : Hid (WidR w0 p fin m w)) :
  Calls Tryz.prog 87 #[.pointer (some ⟨p, 0, none⟩)] w fun e w' => e = .returned (.tuple #[]) ∧ WS w0 p fin w' := by
 go_enter Tryz.func87, Tryz.ntmps87
 go_wp2_with fail
 go_loopg [2] m (fun k _ wr => Hid (WidR w0 p fin k wr))
 case atStart => exact h
 case round =>
  have HR := hrel
  clear hrel h
  obtain ⟨e, hs, hf, hok, hw, hb1, hb2⟩ := HR.out
  obtain ⟨c0, c1, -, -⟩ := WSm.two hs
  have HS := Lib.hid hs
  have HF := Lib.hid hf
  have HOK := Lib.hid hok
  have HW := Lib.hid hw
  have HB1 := Lib.hid hb1
  have HB2 := Lib.hid hb2
  clear hs hf hok hw hb1 hb2 HR
  go_wp2_with fail
  obtain ⟨kk, hkk⟩ : ∃ kk, kind e.low e.high = kk := ⟨_, rfl⟩
  refine (excess_any e.low e.high kk _ hkk).mono ?_
  rintro ee w1 ⟨rfl, hb⟩
  have H1 := Lib.hid (WSm.next HS.out hb)
  clear hb HS c0 c1
  rcases kind_cases e.low e.high with ⟨hk, k1⟩ | ⟨hk, k1, k2⟩ | ⟨hk, k1, k2, k3, k4⟩ | ⟨hk, k1, k2, k3⟩
  ·obtain rfl : kk = 0 := by omega
   rw [excT_0]
   cases gk with
   | zero => exact absurd (widR_zero HOK.out HW.out) (by omega)
   | succ q =>
    obtain ⟨lo, hlo⟩ : ∃ lo, lo = 2 * (e.low - 0) := ⟨_, rfl⟩
    obtain ⟨hi, hhi⟩ : ∃ hi, hi = 2 * (e.high - 0) + 1 := ⟨_, rfl⟩
    have ok1 := HOK.out.1
    have ok2 := HOK.out.2
    have bw : e.wait ≤ 70000 := by have := HB2.out; omega
    have bo : e.out.length ≤ 140000 := by have := HB1.out; unfold len at this; omega
    have HK := Lib.hid hk
    have HLO := Lib.hid hlo
    have HHI := Lib.hid hhi
    have l1 : lo < 4294967296 := by omega
    have l2 : hi < 4294967296 := by omega
    clear hk hkk hlo hhi
    go_wp2_with fail
    with_reducible refine (send_n w0 p e.low e.high e.wait e.out.length (emit e.out false e.wait).length 0 false 0 e.out (emit e.out false e.wait) w1 H1 rfl (Lib.hid rfl) (by omega) (by omega) (Lib.hid rfl) (by omega) (Lib.hid rfl) (Lib.hid rfl)).mono ?_
    rintro ee w2 ⟨rfl, h2⟩
    have H2 := Lib.hid h2
    clear h2
    go_wp2_with fail
    with_reducible refine (double_n p e.low e.high 0 lo hi 0 w2 rfl (by omega) (by omega) HLO.out HHI.out l1 l2 (by omega) ok2 (WSm.two H2.out)).mono ?_
    rintro ee w3 ⟨rfl, rfl⟩
    have H3 := Lib.hid (WSm.setIv' H2.out lo hi)
    generalize ((w2.setCell ⟨p, 0, none⟩ (.int .u32 (lo : Int))).setCell ⟨p, 1, none⟩ (.int .u32 (hi : Int))) = w3 at H3 ⊢
    go_wp2
    go_roundg q
    case rel =>
     refine Lib.hid (WidR.step HOK.out (by rw [HK.out]; decide) HF.out HW.out HB1.out HB2.out ?_)
     rw [stepE_0 HK.out]
     have h3 := H3.out
     rw [HLO.out, HHI.out] at h3
     exact h3
    case measure => omega
  ·obtain rfl : kk = 1 := by omega
   rw [excT_1]
   cases gk with
   | zero => exact absurd (widR_zero HOK.out HW.out) (by omega)
   | succ q =>
    obtain ⟨lo, hlo⟩ : ∃ lo, lo = 2 * (e.low - 2147483648) := ⟨_, rfl⟩
    obtain ⟨hi, hhi⟩ : ∃ hi, hi = 2 * (e.high - 2147483648) + 1 := ⟨_, rfl⟩
    have ok1 := HOK.out.1
    have ok2 := HOK.out.2
    have bw : e.wait ≤ 70000 := by have := HB2.out; omega
    have bo : e.out.length ≤ 140000 := by have := HB1.out; unfold len at this; omega
    have HK := Lib.hid hk
    have HLO := Lib.hid hlo
    have HHI := Lib.hid hhi
    have l1 : lo < 4294967296 := by omega
    have l2 : hi < 4294967296 := by omega
    clear hk hkk hlo hhi
    go_wp2_with fail
    with_reducible refine (send_n w0 p e.low e.high e.wait e.out.length (emit e.out true e.wait).length 1 true 1 e.out (emit e.out true e.wait) w1 H1 rfl (Lib.hid rfl) (by omega) (by omega) (Lib.hid rfl) (by omega) (Lib.hid rfl) (Lib.hid rfl)).mono ?_
    rintro ee w2 ⟨rfl, h2⟩
    have H2 := Lib.hid h2
    clear h2
    go_wp2_with fail
    with_reducible refine (double_n p e.low e.high 2147483648 lo hi 2147483648 w2 rfl (by omega) (by omega) HLO.out HHI.out l1 l2 (by omega) ok2 (WSm.two H2.out)).mono ?_
    rintro ee w3 ⟨rfl, rfl⟩
    have H3 := Lib.hid (WSm.setIv' H2.out lo hi)
    generalize ((w2.setCell ⟨p, 0, none⟩ (.int .u32 (lo : Int))).setCell ⟨p, 1, none⟩ (.int .u32 (hi : Int))) = w3 at H3 ⊢
    go_wp2
    go_roundg q
    case rel =>
     refine Lib.hid (WidR.step HOK.out (by rw [HK.out]; decide) HF.out HW.out HB1.out HB2.out ?_)
     rw [stepE_1 HK.out]
     have h3 := H3.out
     rw [HLO.out, HHI.out] at h3
     exact h3
    case measure => omega
  ·obtain rfl : kk = 2 := by omega
   rw [excT_2]
   cases gk with
   | zero => exact absurd (widR_zero HOK.out HW.out) (by omega)
   | succ q =>
    obtain ⟨lo, hlo⟩ : ∃ lo, lo = 2 * (e.low - 1073741824) := ⟨_, rfl⟩
    obtain ⟨hi, hhi⟩ : ∃ hi, hi = 2 * (e.high - 1073741824) + 1 := ⟨_, rfl⟩
    have ok1 := HOK.out.1
    have ok2 := HOK.out.2
    have bw : e.wait ≤ 70000 := by have := HB2.out; omega
    have bo : e.out.length ≤ 140000 := by have := HB1.out; unfold len at this; omega
    have HK := Lib.hid hk
    have HLO := Lib.hid hlo
    have HHI := Lib.hid hhi
    have l1 : lo < 4294967296 := by omega
    have l2 : hi < 4294967296 := by omega
    clear hk hkk hlo hhi
    obtain ⟨c2, f2⟩ := WSm.wait_ H1.out
    go_wp2_with fail
    clear c2 f2
    have H2 := Lib.hid (WSm.setWait H1.out (e.wait + 1))
    have ew : (e.wait : Int) + 1 = ((e.wait + 1 : Nat) : Int) := by omega
    rw [ew]
    clear ew
    generalize w1.setCell ⟨p, 2, none⟩ (.int .i64 ((e.wait + 1 : Nat) : Int)) = w2 at H2 ⊢
    with_reducible refine (double_n p e.low e.high 1073741824 lo hi 1073741824 w2 rfl (by omega) (by omega) HLO.out HHI.out l1 l2 (by omega) ok2 (WSm.two H2.out)).mono ?_
    rintro ee w3 ⟨rfl, rfl⟩
    have H3 := Lib.hid (WSm.setIv' H2.out lo hi)
    generalize ((w2.setCell ⟨p, 0, none⟩ (.int .u32 (lo : Int))).setCell ⟨p, 1, none⟩ (.int .u32 (hi : Int))) = w3 at H3 ⊢
    go_wp2
    go_roundg q
    case rel =>
     refine Lib.hid (WidR.step HOK.out (by rw [HK.out]; decide) HF.out HW.out HB1.out HB2.out ?_)
     rw [stepE_2 HK.out]
     have h3 := H3.out
     rw [HLO.out, HHI.out] at h3
     exact h3
    case measure => omega
  ·obtain rfl : kk = 3 := by omega
   rw [excT_3]
   have HE := Lib.hid (show e = fin from by
    have := HF.out
    cases gk with
    | zero => exact this
    | succ q => unfold widE at this; rwa [if_pos hk] at this)
   clear hk hkk
   go_wp2
   exact bodyPost_ret (v := .tuple #[]) (by simp [results, Tryz.results87, go_sem]) rfl ⟨rfl, by rw [← HE.out]; exact H1.out⟩
end Go.Proofs.YtkcoboamejefiaaGreatDoor.Cd
namespace Go.Proofs.YtkcoboamejefiaaGreatDoor.Cd
open Go.RowKit
def putC (e : En) : Int := if e.out.length ≤ 65536 ∧ e.wait ≤ 65536 then 0 else 2
theorem widR_start {w0 : Bs} {w1 : World} {p : Nat} {e : En} {a b T : Nat} (h : WSm w0 p e.low e.high e.wait e.out.length e.out w1) (hok : Ok e.low e.high) (hk : kind e.low e.high = 3) (hS : Sp a b T) (ho : e.out.length ≤ 65536) (hw : e.wait ≤ 65536) {lo hi : Nat} (hlo : lo = e.low + (e.high - e.low + 1) * a / T) (hhi : hi = e.low + (e.high - e.low + 1) * b / T - 1) :
  WidR w0 p (putE e a b T) 40 ((w1.setCell ⟨p, 1, none⟩ (.int .u32 (hi : Int))).setCell ⟨p, 0, none⟩ (.int .u32 (lo : Int))) := by
 obtain ⟨n1, _, _, _, n5⟩ := nar_ok hok hk hS
 have hs := WSm.setIv h lo hi
 subst hlo hhi
 refine ⟨nar e a b T, hs, rfl, n1, ?_, ?_, ?_⟩
 ·rw [pow41]; omega
 ·show e.out.length + e.wait + 40 ≤ 140000; omega
 ·show e.wait + 40 ≤ 70000; omega
theorem put_w (w0 : Bs) (p : Nat) (e fin : En) (cd : Int) (C : Option Addr) (m d : Nat) (xs : List Int) (s : Int) (a b T : Nat) (w : World) (h : Hid (WS w0 p e w)) (hok : Hid (Ok e.low e.high)) (hk : Hid (kind e.low e.high = 3)) (ho : e.out.length ≤ 65536) (hw : e.wait ≤ 65536) (hx : Hid (Fq.RdI w C m xs)) (hm : Hid (m ≤ maxLen)) (hsym : Hid (symP xs s a b T)) (hfin : Hid (putE e a b T = fin)) (hcd : Hid (putC fin = cd)) :
  Calls Tryz.prog 58 #[.pointer (some ⟨p, 0, none⟩), .agg #[.slice C m d], .int .i64 s] w fun r w' => r = .returned (.int .i64 cd) ∧ WS w0 p fin w' := by
 obtain ⟨n1, -, n3, -, n5⟩ := nar_ok hok.out hk.out hsym.out.2.2.2
 obtain ⟨lo, hlo⟩ : ∃ lo, lo = e.low + (e.high - e.low + 1) * a / T := ⟨_, rfl⟩
 obtain ⟨hi, hhi⟩ : ∃ hi, hi = e.low + (e.high - e.low + 1) * b / T - 1 := ⟨_, rfl⟩
 have hb1 : 1 ≤ (e.high - e.low + 1) * b / T := by
  have hw := wide_wid hok.out hk.out
  have hw1 : 1073741824 ≤ e.high - e.low + 1 := hw.1
  exact Nat.lt_of_le_of_lt (Nat.zero_le _) (nar_parts hsym.out.2.2.2 (W := e.high - e.low + 1) (by omega)).1
 have l1 : lo ≤ hi := by rw [hlo, hhi]; exact n1.1
 have l2 : hi < 4294967296 := by rw [hhi]; exact n1.2
 have o1 := hok.out.1
 have o2 := hok.out.2
 have HLO := Lib.hid hlo
 have HHI := Lib.hid hhi
 have HB1 := Lib.hid hb1
 clear hlo hhi hb1 n1 n3 n5
 have HS0 := Lib.hid (nrs_start (d := d) hx.out)
 have HW0 := Lib.hid (WSm.next h.out ((Below.refl w.heap.size w).alloc (Nat.le_refl _) (.cells #[.slice C m d] 103)))
 go_enter Tryz.func58, Tryz.ntmps58
 go_wp2_with fail
 generalize w.alloc (.cells #[.slice C m d] 103) = w1 at HS0 HW0 ⊢
 obtain ⟨bf, hbf⟩ : ∃ bf, bf = w.heap.size := ⟨_, rfl⟩
 rw [← hbf] at HS0 ⊢
 clear hbf
 have c0 := Fq.blk0 HS0.out.1
 go_region_with (go_at_call 86; refine (narrow_ok p e.low e.high a b T lo hi C m d xs s _ o1 o2 (Lib.hid HS0.out.2.1.drew) hm hsym (Lib.hid (WSm.two HW0.out).drew) HLO HHI HB1 l1 l2).mono ?_; rintro r w2 ⟨rfl, w3, hb3, rfl⟩)
 have H3 := Lib.hid (WSm.next HW0.out (show Below w1.heap.size w1 w3 from ⟨hb3.os, hb3.tape, hb3.output, hb3.size, hb3.block⟩))
 have H4 := Lib.hid (widR_start H3.out hok.out hk.out hsym.out.2.2.2 ho hw HLO.out HHI.out)
 generalize (w3.setCell ⟨p, 1, none⟩ (.int .u32 (hi : Int))).setCell ⟨p, 0, none⟩ (.int .u32 (lo : Int)) = w4 at H4 ⊢
 clear hb3 c0 H3 HW0 HS0
 go_wp2_with fail
 rw [hfin.out] at H4
 with_reducible refine (widen_w w0 p 40 fin w4 H4).mono ?_
 rintro r w5 ⟨rfl, h5⟩
 have H5 := Lib.hid h5
 clear h5
 obtain ⟨c4, -⟩ := WSm.n_ H5.out
 obtain ⟨c2, -⟩ := WSm.wait_ H5.out
 by_cases q1 : fin.out.length ≤ 65536
 ·have d1 : decide ((65536 : Int) < (fin.out.length : Int)) = false := by simp; omega
  by_cases q2 : fin.wait ≤ 65536
  ·have d2 : decide ((65536 : Int) < (fin.wait : Int)) = false := by simp; omega
   have HC := Lib.hid (show cd = 0 by rw [← hcd.out, putC, if_pos ⟨q1, q2⟩])
   go_wp2
   go_ret
   exact ⟨by rw [HC.out]; rfl, H5.out⟩
  ·have d2 : decide ((65536 : Int) < (fin.wait : Int)) = true := by simp; omega
   have HC := Lib.hid (show cd = 2 by rw [← hcd.out, putC, if_neg (fun h => q2 h.2)])
   go_wp2
   go_ret
   exact ⟨by rw [HC.out]; rfl, H5.out⟩
 ·have d1 : decide ((65536 : Int) < (fin.out.length : Int)) = true := by simp; omega
  have HC := Lib.hid (show cd = 2 by rw [← hcd.out, putC, if_neg (fun h => q1 h.1)])
  go_wp2
  go_ret
  exact ⟨by rw [HC.out]; rfl, H5.out⟩
theorem put_no (w0 : Bs) (p low high wait N : Nat) (out : List Bool) (C : Option Addr) (m d : Nat) (xs : List Int) (s : Int) (w : World) (h : Hid (WSm w0 p low high wait N out w)) (hx : Hid (Fq.RdI w C m xs)) (hm : Hid (m ≤ maxLen)) (hsym : Hid (Fq.symB xs s = false)) :
  Calls Tryz.prog 58 #[.pointer (some ⟨p, 0, none⟩), .agg #[.slice C m d], .int .i64 s] w fun r w' => r = .returned (.int .i64 1) ∧ WSm w0 p low high wait N out w' := by
 have HS0 := Lib.hid (nrs_start (d := d) hx.out)
 have HW0 := Lib.hid (WSm.next h.out ((Below.refl w.heap.size w).alloc (Nat.le_refl _) (.cells #[.slice C m d] 103)))
 go_enter Tryz.func58, Tryz.ntmps58
 go_wp2_with fail
 generalize w.alloc (.cells #[.slice C m d] 103) = w1 at HS0 HW0 ⊢
 obtain ⟨bf, hbf⟩ : ∃ bf, bf = w.heap.size := ⟨_, rfl⟩
 rw [← hbf] at HS0 ⊢
 clear hbf
 have c0 := Fq.blk0 HS0.out.1
 go_region_with (go_at_call 86; refine (narrow_no p C m d xs s _ (Lib.hid HS0.out.2.1.drew) hm hsym).mono ?_; rintro r w3 ⟨rfl, hb3⟩)
 have H3 := Lib.hid (WSm.next HW0.out (show Below w1.heap.size w1 w3 from ⟨hb3.os, hb3.tape, hb3.output, hb3.size, hb3.block⟩))
 clear hb3 c0
 go_wp2
 go_ret
 exact ⟨rfl, H3.out⟩
end Go.Proofs.YtkcoboamejefiaaGreatDoor.Cd
namespace Go.Proofs.YtkcoboamejefiaaGreatDoor.Cd
open Go.RowKit
theorem end_join {w0 : Bs} {w : World} {p low high wait N : Nat} {out : List Bool} (h : WSm w0 p low high wait N out w) (ho : out.length ≤ 250000) :
  ∃ g k cap, w.cell? ⟨p, 3, none⟩ = some (.slice (some ⟨g, 0, none⟩) k cap) ∧ Calls Tryz.prog 89 #[.slice (some ⟨g, 0, none⟩) k cap] w (BOut w (JQ w.heap.size out)) := by
 obtain ⟨hb, g, k, cap, xs, h2⟩ := h
 refine ⟨g, k, cap, h2.blk.cell 3, ?_⟩
 have := join_out (some ⟨g, 0, none⟩) k cap xs w (by have := h2.few; omega) h2.rdL (fun x hx => (h2.rd x hx).2.1)
 rw [h2.bits] at this
 exact this
theorem JQ.far {B r : Nat} {l : List Bool} {v : Value} {er : Int} {w : World} (h : JQ B l v er w) (hr : r < B) (i : Nat) (a : Value) : JQ B l v er (w.setCell ⟨r, i, none⟩ a) := by
 rcases h with ⟨h2, h3, g, e, hg, hb, hl⟩ | h
 ·exact .inl ⟨h2, h3, g, e, hg, hb.far (by simp; omega) _, hl⟩
 ·exact .inr h
theorem JQ.mono {B B' : Nat} {l : List Bool} {v : Value} {er : Int} {w : World} (h : JQ B l v er w) (hb : B' ≤ B) : JQ B' l v er w := by
 rcases h with ⟨h2, h3, g, e, hg, hb2, hl⟩ | h
 ·exact .inl ⟨h2, h3, g, e, by omega, hb2, hl⟩
 ·exact .inr h
theorem WSm.rebase {w0 : Bs} {w : World} {p low high wait N : Nat} {out : List Bool} (h : WSm w0 p low high wait N out w) {r : Nat} (hr : r = w.heap.size) (o : Obj) : WSm ⟨w0.w, r, some o⟩ p low high wait N out (w.alloc o) := by
 subst hr
 have hn := h.next ((Below.refl w.heap.size w).alloc (Nat.le_refl _) o)
 obtain ⟨hb, g, k, cap, xs, h2⟩ := hn
 obtain ⟨_, g', k', cap', xs', h3⟩ := h
 have e : g' = g := by
  have a1 := h2.blk.cell 3
  have a2 := (World.cell?_alloc_lt w o ⟨p, 3, none⟩ h3.blk.lt).trans (h3.blk.cell 3)
  rw [a1] at a2
  have a3 : (some (Value.slice (some ⟨g, 0, none⟩) k cap)) = some (Value.slice (some ⟨g', 0, none⟩) k' cap') := a2
  injection a3 with a3; injection a3 with a3; injection a3 with a3; injection a3 with a3; exact a3.symm
 subst e
 refine ⟨hb, g', k, cap, xs, h2.blk, h2.own, h2.hp, h2.hg, h2.ne, h2.len, h2.rd, h2.bits, h2.few, ?_, ?_, ?_, ?_⟩
 ·have := h3.blk.lt; show w.heap.size ≠ p; omega
 ·have := (World.ownsRow.lt h3.own g' rfl).2; show w.heap.size ≠ g'; omega
 ·show w.heap.size < _; simp
 ·exact heap_alloc_new w o
theorem WSm.stay {w0 : Bs} {w : World} {p low high wait N : Nat} {out : List Bool} (h : WSm w0 p low high wait N out w) : w.heap[w0.r]? = w0.o := by
 obtain ⟨_, g, k, cap, xs, h2⟩ := h
 exact h2.kp.2.2.2
theorem WSm.base {w0 : Bs} {w : World} {p low high wait N : Nat} {out : List Bool} (h : WSm w0 p low high wait N out w) : Below w0.w.heap.size w0.w w := h.1
theorem end_w (w0 : Bs) (p : Nat) (e : En) (out2 : List Bool) (w : World) (h : Hid (WS w0 p e w)) (ho : e.out.length ≤ 65536) (hw : e.wait ≤ 65536) (ho2 : Hid (out2 = endBits e)) :
  Calls Tryz.prog 59 #[.pointer (some ⟨p, 0, none⟩)] w (BOut w0.w (JQ w0.w.heap.size out2)) := by
 have HW1 := Lib.hid (WSm.rebase (WSm.setWait h.out (e.wait + 1)) (r := w.heap.size) (by simp) (.cells #[.slice none 0 0, .int .i64 0] 75))
 have HB0 := Lib.hid (show w0.w.heap.size ≤ w.heap.size from h.out.1.size)
 have HL2 := Lib.hid (show out2.length = e.out.length + e.wait + 2 by rw [ho2.out, endBits_length]; rfl)
 obtain ⟨c2, f2⟩ := WSm.wait_ h.out
 obtain ⟨c0, -, -, -⟩ := WSm.two h.out
 have lp := WSm.lt h.out
 have ew : (e.wait : Int) + 1 = ((e.wait + 1 : Nat) : Int) := by omega
 have HEW := Lib.hid ew
 clear ew
 by_cases hl : 1073741824 ≤ e.low
 ·have d1 : decide ((e.low : Int) < 1073741824) = false := by simp; omega
  have HO := Lib.hid (show out2 = emit e.out true (e.wait + 1) by rw [ho2.out]; unfold endBits; rw [decide_eq_true hl])
  clear hl
  go_enter Tryz.func59, Tryz.ntmps59
  go_wp2_with fail
  clear c0 c2 f2
  rw [HEW.out]
  obtain ⟨br, hbr⟩ : ∃ br, br = w.heap.size := ⟨_, rfl⟩
  generalize ((w.setCell ⟨p, 2, none⟩ (.int .i64 ((e.wait + 1 : Nat) : Int))).alloc (.cells #[.slice none 0 0, .int .i64 0] 75)) = w1 at HW1 ⊢
  rw [← hbr] at HW1 ⊢
  have HBR := Lib.hid (show w0.w.heap.size ≤ br by have := HB0.out; omega)
  clear hbr lp HB0
  with_reducible refine (send_n ⟨w0.w, br, some (.cells #[.slice none 0 0, .int .i64 0] 75)⟩ p e.low e.high (e.wait + 1) e.out.length out2.length 1 true 1 e.out out2 w1 HW1 rfl (Lib.hid rfl) (by omega) (by omega) (Lib.hid rfl) (by omega) (Lib.hid rfl) HO).mono ?_
  rintro ee w2 ⟨rfl, h2⟩
  have H2 := Lib.hid h2
  have HR2 := Lib.hid (show Blk w2 br 75 #[.slice none 0 0, .int .i64 0] from h2.stay)
  obtain ⟨g, k, cap, c3, hj⟩ := end_join h2 (by have := HL2.out; omega)
  have HJ := Lib.hid hj
  clear h2 hj
  go_wp2_with fail
  with_reducible refine HJ.out.mono ?_
  rintro ee w3 ⟨A, n, c, N, er, rfl, hb3, hq⟩
  have HK3 := Lib.hid (HR2.out.below hb3 HR2.out.lt)
  have HQ3 := Lib.hid hq
  have HB3 := Lib.hid (H2.out.base.trans (hb3.mono H2.out.base.size))
  have HS3 := Lib.hid (show br < w2.heap.size ∧ w0.w.heap.size ≤ w2.heap.size from ⟨HR2.out.lt, H2.out.base.size⟩)
  clear hb3 hq HJ c3
  obtain ⟨y1, y2, y3, y4⟩ := blk2 HK3.out
  go_wp2
  exact bodyPost_ret (v := .tuple #[.agg #[.slice A n c, .int .i64 N], .int .i64 er]) (by simp [results, Tryz.results59, go_sem, y1, y2]) rfl ⟨A, n, c, N, er, rfl, (HB3.out.setCell HBR.out _).setCell HBR.out _, JQ.mono (JQ.far (JQ.far HQ3.out HS3.out.1 _ _) HS3.out.1 _ _) HS3.out.2⟩
 ·have d1 : decide ((e.low : Int) < 1073741824) = true := by simp; omega
  have HO := Lib.hid (show out2 = emit e.out false (e.wait + 1) by rw [ho2.out]; unfold endBits; rw [decide_eq_false hl])
  clear hl
  go_enter Tryz.func59, Tryz.ntmps59
  go_wp2_with fail
  clear c0 c2 f2
  rw [HEW.out]
  obtain ⟨br, hbr⟩ : ∃ br, br = w.heap.size := ⟨_, rfl⟩
  generalize ((w.setCell ⟨p, 2, none⟩ (.int .i64 ((e.wait + 1 : Nat) : Int))).alloc (.cells #[.slice none 0 0, .int .i64 0] 75)) = w1 at HW1 ⊢
  rw [← hbr] at HW1 ⊢
  have HBR := Lib.hid (show w0.w.heap.size ≤ br by have := HB0.out; omega)
  clear hbr lp HB0
  with_reducible refine (send_n ⟨w0.w, br, some (.cells #[.slice none 0 0, .int .i64 0] 75)⟩ p e.low e.high (e.wait + 1) e.out.length out2.length 0 false 0 e.out out2 w1 HW1 rfl (Lib.hid rfl) (by omega) (by omega) (Lib.hid rfl) (by omega) (Lib.hid rfl) HO).mono ?_
  rintro ee w2 ⟨rfl, h2⟩
  have H2 := Lib.hid h2
  have HR2 := Lib.hid (show Blk w2 br 75 #[.slice none 0 0, .int .i64 0] from h2.stay)
  obtain ⟨g, k, cap, c3, hj⟩ := end_join h2 (by have := HL2.out; omega)
  have HJ := Lib.hid hj
  clear h2 hj
  go_wp2_with fail
  with_reducible refine HJ.out.mono ?_
  rintro ee w3 ⟨A, n, c, N, er, rfl, hb3, hq⟩
  have HK3 := Lib.hid (HR2.out.below hb3 HR2.out.lt)
  have HQ3 := Lib.hid hq
  have HB3 := Lib.hid (H2.out.base.trans (hb3.mono H2.out.base.size))
  have HS3 := Lib.hid (show br < w2.heap.size ∧ w0.w.heap.size ≤ w2.heap.size from ⟨HR2.out.lt, H2.out.base.size⟩)
  clear hb3 hq HJ c3
  obtain ⟨y1, y2, y3, y4⟩ := blk2 HK3.out
  go_wp2
  exact bodyPost_ret (v := .tuple #[.agg #[.slice A n c, .int .i64 N], .int .i64 er]) (by simp [results, Tryz.results59, go_sem, y1, y2]) rfl ⟨A, n, c, N, er, rfl, (HB3.out.setCell HBR.out _).setCell HBR.out _, JQ.mono (JQ.far (JQ.far HQ3.out HS3.out.1 _ _) HS3.out.1 _ _) HS3.out.2⟩
end Go.Proofs.YtkcoboamejefiaaGreatDoor.Cd
namespace Go.Proofs.YtkcoboamejefiaaGreatDoor.Cd
open Go.RowKit
def rsC (low high : Nat) (wt : Int) (A : Option Addr) (n c : Nat) (N : Int) : Array Value := #[.int .u32 (low : Int), .int .u32 (high : Int), .int .i64 wt, .slice A n c, .int .i64 N]
def rsW (w : World) (low high : Nat) (wt : Int) (A : Option Addr) (n c : Nat) (N : Int) : World :=
 ((w.alloc (.cells (rsC low high wt A n c N) 110)).alloc (.cells #[.slice A n c, .int .i64 N] 75)).alloc (.cells #[.int .u32 (low : Int), .int .u32 (high : Int), .int .i64 wt, .slice (some ⟨w.heap.size + 1, 0, none⟩) 1 1, .int .i64 N] 144)
theorem rs_start {w : World} {low high k : Nat} {A : Option Addr} {n c : Nat} {N : Int} {l : List Bool} (h : IsB w (.agg #[.slice A n c, .int .i64 N]) l) :
  WSm ⟨w, w.heap.size, some (.cells (rsC low high (k : Int) A n c N) 110)⟩ (w.heap.size + 1 + 1) low high k l.length l (rsW w low high (k : Int) A n c N) := by
 obtain ⟨hn, hN, hr, hl⟩ := isB_parts h
 have hb : Below w.heap.size w (rsW w low high (k : Int) A n c N) := (((Below.refl w.heap.size w).alloc (Nat.le_refl _) _).alloc (by simp) _).alloc (by simp; omega) _
 have hr2 : Rd (rsW w low high (k : Int) A n c N) A n (pack l) := hr.below hb
 refine ⟨hb, w.heap.size + 1, 1, 1, [⟨A, n, c, N, pack l⟩], ?_, ?_, ?_, ?_, ?_, rfl, ?_, ?_, ?_, ?_, ?_, ?_, ?_⟩
 ·rw [hN]
  exact Blk.newAt (by simp)
 ·refine ⟨rfl, .inr ⟨w.heap.size + 1, 1, #[.slice A n c, .int .i64 N], rfl, by show w.heap.size ≤ _; omega, ?_, by omega, by unfold maxLen; omega, rfl, rfl⟩⟩
  have : Blk ((w.alloc (.cells (rsC low high (k : Int) A n c N) 110)).alloc (.cells #[.slice A n c, .int .i64 N] 75)) (w.heap.size + 1) 75 #[.slice A n c, .int .i64 N] := Blk.newAt (by simp)
  exact this.alloc _
 ·show w.heap.size ≤ _; omega
 ·show w.heap.size ≤ _; omega
 ·omega
 ·intro x hx
  have : x = ⟨A, n, c, N, pack l⟩ := by simpa using hx
  subst this
  refine ⟨hr2, by show okB (pack l) N = true; rw [hN]; exact okB_pack l hl, ?_, ?_⟩
  ·intro ad e hn
   have := hr.lies hn ad e
   omega
  ·intro ad e hn
   have := hr.lies hn ad e
   omega
 ·show bitsIn (pack l) N.toNat ++ [] = l
  rw [hN, List.append_nil]
  exact bitsIn_pack l
 ·omega
 ·show w.heap.size ≠ _; omega
 ·show w.heap.size ≠ _; omega
 ·show w.heap.size < _; unfold rsW; simp; omega
 ·have : Blk (w.alloc (.cells (rsC low high (k : Int) A n c N) 110)) w.heap.size 110 (rsC low high (k : Int) A n c N) := Blk.new w _ _
  exact (this.alloc _).alloc _
def RsOk (w : World) (low high k : Nat) (l : List Bool) (e : Ending) (w' : World) : Prop :=
 ∃ z p, z.w = w ∧ e = .returned (.tuple #[.pointer (some ⟨p, 0, none⟩), .int .i64 0]) ∧ WSm z p low high k l.length l w'
theorem resume_ok (low high k : Nat) (A : Option Addr) (n c : Nat) (N : Int) (l : List Bool) (w : World) (_hl : low < 4294967296) (_hh : high < 4294967296) (hk : k ≤ 65536) (hw : Hid (kind low high = 3)) (hib : Hid (IsB w (.agg #[.slice A n c, .int .i64 N]) l)) :
  Calls Tryz.prog 56 #[encV low high (k : Int) A n c N] w (RsOk w low high k l) := by
 unfold encV
 have HS := Lib.hid (rs_start (low := low) (high := high) (k := k) hib.out)
 unfold rsW rsC at HS
 have d1 : decide ((k : Int) < 0) = false := by simp
 have d2 : decide ((65536 : Int) < (k : Int)) = false := by simp; omega
 go_enter Tryz.func56, Tryz.ntmps56
 go_wp2_with fail
 generalize ((w.alloc (.cells #[.int .u32 (low : Int), .int .u32 (high : Int), .int .i64 (k : Int), .slice A n c, .int .i64 N] 110)).alloc (.cells #[.slice A n c, .int .i64 N] 75)).alloc (.cells #[.int .u32 (low : Int), .int .u32 (high : Int), .int .i64 (k : Int), .slice (some ⟨w.heap.size + 1, 0, none⟩) 1 1, .int .i64 N] 144) = w1 at HS ⊢
 refine (excess_any low high 3 w1 hw.out).mono ?_
 rintro e w2 ⟨rfl, hb2⟩
 have H2 := Lib.hid (WSm.next HS.out hb2)
 have HE2 := Lib.hid (show Blk w2 w.heap.size 110 #[.int .u32 (low : Int), .int .u32 (high : Int), .int .i64 (k : Int), .slice A n c, .int .i64 N] from H2.out.stay)
 clear hb2 HS
 rw [excT_3]
 obtain ⟨x1, x2, x3, x4, x5⟩ := blk5 HE2.out
 go_wp2_with fail
 have hcon := check_any A n c N (pack l) w2 ((isB_parts hib.out).2.2.1.below H2.out.base)
 rw [show okB (pack l) N = true by rw [(isB_parts hib.out).2.1]; exact okB_pack l (isB_parts hib.out).2.2.2] at hcon
 refine hcon.mono ?_
 clear hcon
 rintro e w3 ⟨rfl, hb3⟩
 have H3 := Lib.hid (WSm.next H2.out hb3)
 clear hb3
 go_wp2
 go_ret2
 exact ⟨_, _, rfl, rfl, H3.out⟩
theorem below5 {B g : Nat} {w u : World} (h : Below B w u) (hg : B ≤ g) (a b c d e : Value) : Below B w (((((u.setCell ⟨g, 0, none⟩ a).setCell ⟨g, 1, none⟩ b).setCell ⟨g, 2, none⟩ c).setCell ⟨g, 3, none⟩ d).setCell ⟨g, 4, none⟩ e) :=
 ((((h.setCell hg a).setCell hg b).setCell hg c).setCell hg d).setCell hg e
theorem below5a {g : Nat} {w u : World} (h : Below w.heap.size w u) (hg : w.heap.size ≤ g) (a b c d e : Value) (o : Obj) : Below w.heap.size w ((((((u.setCell ⟨g, 0, none⟩ a).setCell ⟨g, 1, none⟩ b).setCell ⟨g, 2, none⟩ c).setCell ⟨g, 3, none⟩ d).setCell ⟨g, 4, none⟩ e).alloc o) :=
 (below5 h hg a b c d e).alloc (below5 h hg a b c d e).size o
theorem begin_any (w : World) : Calls Tryz.prog 57 #[] w fun e w' => e = .returned (encV 0 4294967295 0 none 0 0 0) ∧ Below w.heap.size w w' := by
 have HK := Lib.hid (Blk.new w 110 #[.int .u32 0, .int .u32 0, .int .i64 0, .slice none 0 0, .int .i64 0])
 have HB := Lib.hid ((Below.refl w.heap.size w).alloc (Nat.le_refl _) (.cells #[.int .u32 0, .int .u32 0, .int .i64 0, .slice none 0 0, .int .i64 0] 110))
 go_enter Tryz.func57, Tryz.ntmps57
 go_wp2_with fail
 generalize w.alloc (.cells #[.int .u32 0, .int .u32 0, .int .i64 0, .slice none 0 0, .int .i64 0] 110) = w1 at HK HB ⊢
 refine (whole_any w1).mono ?_
 rintro e w2 ⟨rfl, hb2⟩
 have HK2 := Lib.hid (HK.out.below hb2 HK.out.lt)
 have HB2 := Lib.hid (HB.out.trans (hb2.mono HB.out.size))
 clear hb2 HB HK
 unfold ivV
 have b2 := HK2.out.lt
 obtain ⟨x1, x2, x3, x4, x5⟩ := blk5 HK2.out
 obtain ⟨f1, f2, f3, f4, f5, -⟩ := frz6 HK2.out
 go_wp2
 exact bodyPost_ret (v := encV 0 4294967295 0 none 0 0 0) (by simp [results, Tryz.results57, go_sem, encV, x1, x2, x3, x4, x5, b2]) rfl ⟨rfl, below5a HB2.out (Nat.le_refl _) _ _ _ _ _ _⟩
end Go.Proofs.YtkcoboamejefiaaGreatDoor.Cd
namespace Go.Proofs.YtkcoboamejefiaaGreatDoor.Cd
open Go.RowKit
structure Tb where
 C : Option Addr
 m : Nat
 d : Nat
 xs : List Int
def RdT (w : World) (L : Option Addr) (n : Nat) (ts : List Tb) : Prop :=
 ts.length = n ∧ (0 < n → ∃ ad, L = some ad ∧ ∀ j t, ts[j]? = some t → w.cell? (ad.add j) = some (.slice t.C t.m t.d) ∧ Fq.RdI w t.C t.m t.xs ∧ t.m ≤ maxLen)
section
variable {w w' : World} {L : Option Addr} {n : Nat} {ts : List Tb}
theorem RdT.none_ : RdT w L 0 [] := ⟨rfl, fun h => absurd h (by omega)⟩
theorem RdT.below (h : RdT w L n ts) (hb : Below w.heap.size w w') : RdT w' L n ts := by
 refine ⟨h.1, fun hn => ?_⟩
 obtain ⟨ad, e, hc⟩ := h.2 hn
 refine ⟨ad, e, fun j t ht => ?_⟩
 obtain ⟨h1, h2, h3⟩ := hc j t ht
 exact ⟨(hb.cell (World.block_lt_of_cell? _ _ h1)).trans h1, h2.below hb, h3⟩
theorem RdT.at_ (h : RdT w L n ts) {k : Nat} (hk : k < n) : ∃ ad t, L = some ad ∧ ts[k]? = some t ∧ ad.block < w.heap.size ∧ w.cell? (ad.add k) = some (.slice t.C t.m t.d) ∧ Fq.RdI w t.C t.m t.xs ∧ t.m ≤ maxLen := by
 obtain ⟨ad, e, hc⟩ := h.2 (by omega)
 have hl : k < ts.length := by have := h.1; omega
 obtain ⟨t, ht⟩ : ∃ t, ts[k]? = some t := ⟨ts[k], by simp [hl]⟩
 obtain ⟨h1, h2, h3⟩ := hc k t ht
 have hb := World.block_lt_of_cell? _ _ h1
 rw [block_of_add] at hb
 exact ⟨ad, t, e, ht, hb, h1, h2, h3⟩
end
abbrev Pr := Int × List Int
def spA (q : Pr) : Nat := (q.2.getD q.1.toNat 0).toNat
def spB (q : Pr) : Nat := (q.2.getD (q.1.toNat + 1) 0).toNat
def spT (xs : List Int) : Nat := (Fq.totF true xs).toNat
def okP (q : Pr) : Bool := Fq.symB q.2 q.1
theorem symP_of {q : Pr} (h : okP q = true) : symP q.2 q.1 (spA q) (spB q) (spT q.2) := by
 have h' := h
 unfold okP Fq.symB at h'
 simp only [Bool.and_eq_true, decide_eq_true_eq] at h'
 obtain ⟨hok, h0, h1⟩ := h'
 have hp := Fq.okF_parts hok
 have i1 : q.1.toNat + 1 < q.2.length := by omega
 have b1 := Fq.okF_bd hok (i := q.1.toNat) (by omega)
 have b2 := Fq.okF_bd hok (i := q.1.toNat + 1) i1
 have b3 := Fq.okF_bd hok (i := q.2.length - 1) (by omega)
 have m1 := Fq.okF_mono hok (i := q.1.toNat) (j := q.1.toNat + 1) (by omega) i1
 have m2 := Fq.mono_le hok (i := q.1.toNat + 1) (j := q.2.length - 1) (by omega) (by omega)
 have e1 : ((spA q : Nat) : Int) = q.2.getD q.1.toNat 0 := by unfold spA; omega
 have e2 : ((spB q : Nat) : Int) = q.2.getD (q.1.toNat + 1) 0 := by unfold spB; omega
 have e3 : ((spT q.2 : Nat) : Int) = q.2.getD (q.2.length - 1) 0 := by unfold spT Fq.totF; simp only [if_true]; omega
 refine ⟨?_, hok, ?_, ?_, ?_, ?_⟩
 ·unfold Fq.spanV
  unfold okP at h
  rw [h, e1, e2]
  rfl
 ·rw [e3]; rfl
 ·omega
 ·omega
 ·omega
def put1 (e : En) (q : Pr) : En := putE e (spA q) (spB q) (spT q.2)
def stE (e : En) (ps : List Pr) : En := ps.foldl put1 e
theorem stE_cons (e : En) (q : Pr) (ps : List Pr) : stE e (q :: ps) = stE (put1 e q) ps := rfl
theorem stE_snoc (e : En) (ps : List Pr) (q : Pr) : stE e (ps ++ [q]) = put1 (stE e ps) q := by simp [stE]
theorem putC_cases (e : En) : (putC e = 0 ∧ e.out.length ≤ 65536 ∧ e.wait ≤ 65536) ∨ putC e = 2 := by
 unfold putC
 split
 ·rename_i h; exact .inl ⟨rfl, h⟩
 ·exact .inr rfl
def allErr (e : En) : List Pr → Int
 | [] => 0
 | q :: r => if okP q = true then (if putC (put1 e q) = 0 then allErr (put1 e q) r else 2) else 1
theorem allErr_no {e : En} {q : Pr} {r : List Pr} (h : okP q = false) : allErr e (q :: r) = 1 := by unfold allErr; rw [h]; rfl
theorem allErr_long {e : En} {q : Pr} {r : List Pr} (h : okP q = true) (h2 : putC (put1 e q) = 2) : allErr e (q :: r) = 2 := by unfold allErr; rw [if_pos h, if_neg (by rw [h2]; decide)]
theorem allErr_ok {e : En} {q : Pr} {r : List Pr} (h : okP q = true) (h2 : putC (put1 e q) = 0) : allErr e (q :: r) = allErr (put1 e q) r := by rw [allErr, if_pos h, if_pos h2]
def Fine (e : En) : Prop := Ok e.low e.high ∧ kind e.low e.high = 3 ∧ e.out.length ≤ 65536 ∧ e.wait ≤ 65536
theorem Fine.put {e : En} {q : Pr} (h : Fine e) (hq : okP q = true) (hc : putC (put1 e q) = 0) : Fine (put1 e q) := by
 obtain ⟨a, b, _⟩ := put_facts h.1 h.2.1 (symP_of hq).2.2.2
 rcases putC_cases (put1 e q) with ⟨_, c, d⟩ | c
 ·exact ⟨a, b, c, d⟩
 ·rw [c] at hc; cases hc
theorem fine0 : Fine e0 := ⟨e0_ok.1, e0_ok.2, by decide, by decide⟩
theorem allErr_zero {ps : List Pr} : ∀ {e : En}, Fine e → allErr e ps = 0 → Fine (stE e ps) ∧ ∀ q ∈ ps, okP q = true := by
 induction ps with
 | nil => intro e h _; exact ⟨h, by simp⟩
 | cons q r ih =>
  intro e h h0
  cases hq : okP q with
  | false => rw [allErr_no hq] at h0; cases h0
  | true =>
   rcases putC_cases (put1 e q) with ⟨c, _, _⟩ | c
   ·rw [allErr_ok hq c] at h0
    obtain ⟨a, b⟩ := ih (h.put hq c) h0
    rw [stE_cons]
    refine ⟨a, fun q' hq' => ?_⟩
    rcases List.mem_cons.1 hq' with e | e
    ·rw [e]; exact hq
    ·exact b q' e
   ·rw [allErr_long hq c] at h0; cases h0
def AllOut (w : World) (ps : List Pr) (e : Ending) (w' : World) : Prop :=
 (allErr e0 ps = 0 ∧ BOut w (JQ w.heap.size (endBits (stE e0 ps))) e w') ∨ (allErr e0 ps ≠ 0 ∧ BBad w (allErr e0 ps) e w')
end Go.Proofs.YtkcoboamejefiaaGreatDoor.Cd
namespace Go.Proofs.YtkcoboamejefiaaGreatDoor.Cd
open Go.RowKit
def prs (ss : List Int) (ts : List Tb) : List Pr := ss.zip (ts.map (·.xs))
theorem prs_get {ss : List Int} {ts : List Tb} {k : Nat} {t : Tb} (h1 : k < ss.length) (h2 : ts[k]? = some t) : (prs ss ts).drop k = (ss.getD k 0, t.xs) :: (prs ss ts).drop (k + 1) ∧ (prs ss ts).take (k + 1) = (prs ss ts).take k ++ [(ss.getD k 0, t.xs)] := by
 obtain ⟨hk, e⟩ := List.getElem?_eq_some_iff.1 h2
 have hl : k < (prs ss ts).length := by unfold prs; rw [List.length_zip, List.length_map]; omega
 have hg : (prs ss ts)[k] = (ss.getD k 0, t.xs) := by
  have : (prs ss ts)[k]? = some (ss.getD k 0, t.xs) := by
   unfold prs
   rw [List.getElem?_zip_eq_some]
   exact ⟨Fq.get_of_lt h1, by rw [List.getElem?_map, h2]; rfl⟩
  rw [List.getElem?_eq_getElem hl] at this
  injection this
 exact ⟨by rw [List.drop_eq_getElem_cons hl, hg], by rw [List.take_succ_eq_append_getElem hl, hg]⟩
def AllR (w : World) (z : Bs) (p br : Nat) (ps : List Pr) (k : Nat) (wr : World) : Prop :=
 WS z p (stE e0 (ps.take k)) wr ∧ Fine (stE e0 (ps.take k)) ∧ allErr e0 ps = allErr (stE e0 (ps.take k)) (ps.drop k) ∧ Blk z.w br 75 #[.slice none 0 0, .int .i64 0] ∧ Below w.heap.size w z.w ∧ w.heap.size ≤ br
theorem AllR.below {w : World} {z : Bs} {p br : Nat} {ps : List Pr} {k : Nat} {wr : World} (h : AllR w z p br ps k wr) : Below w.heap.size w wr := h.2.2.2.2.1.trans (h.1.1.mono h.2.2.2.2.1.size)
theorem BOut.store {w w1 w2 : World} {br : Nat} {l : List Bool} {A : Option Addr} {n c : Nat} {N er : Int} (hb : Below w.heap.size w w1) (hbr : w.heap.size ≤ br) (hlt : br < w1.heap.size) (h2 : Below w1.heap.size w1 w2) (hq : JQ w1.heap.size l (.agg #[.slice A n c, .int .i64 N]) er w2) (a b : Value) :
  BOut w (JQ w.heap.size l) (.returned (.tuple #[.agg #[.slice A n c, .int .i64 N], .int .i64 er])) ((w2.setCell ⟨br, 0, none⟩ a).setCell ⟨br, 1, none⟩ b) :=
 ⟨A, n, c, N, er, rfl, ((hb.trans (h2.mono hb.size)).setCell hbr _).setCell hbr _, JQ.mono (JQ.far (JQ.far hq hlt _ _) hlt _ _) hb.size⟩
theorem all_walk (A : Option Addr) (n c : Nat) (L : Option Addr) (d : Nat) (ss : List Int) (ts : List Tb) (w : World) (hn : Hid (n ≤ maxLen)) (hs : Hid (Fq.RdI w A n ss)) (ht : Hid (RdT w L n ts)) :
  Calls Tryz.prog 36 #[.slice A n c, .slice L n d] w (AllOut w (prs ss ts)) := by
 obtain ⟨ps, hps⟩ : ∃ ps, ps = prs ss ts := ⟨_, rfl⟩
 rw [← hps]
 have HPS := Lib.hid hps
 clear hps
 have d1 : ((n : Int) != (n : Int)) = false := by simp
 have b1 : n ≤ 9223372036854775807 := by have := hn.out; unfold maxLen at this; omega
 have HK := Lib.hid (Blk.new w 75 #[.slice none 0 0, .int .i64 0])
 have HB := Lib.hid ((Below.refl w.heap.size w).alloc (Nat.le_refl _) (.cells #[.slice none 0 0, .int .i64 0] 75))
 go_enter Tryz.func36, Tryz.ntmps36
 go_wp2_with fail
 generalize w.alloc (.cells #[.slice none 0 0, .int .i64 0] 75) = w1 at HK HB ⊢
 obtain ⟨br, hbr⟩ : ∃ br, br = w.heap.size := ⟨_, rfl⟩
 have HBR := Lib.hid (show w.heap.size ≤ br by omega)
 rw [← hbr] at HK ⊢
 clear hbr
 refine (begin_any w1).mono ?_
 rintro e w2 ⟨rfl, hb2⟩
 have HK2 := Lib.hid (HK.out.below hb2 HK.out.lt)
 have HB2 := Lib.hid (HB.out.trans (hb2.mono HB.out.size))
 clear hb2 HB HK
 have hcon := resume_ok 0 4294967295 0 none 0 0 0 [] w2 (by omega) (by omega) (by omega) (Lib.hid e0_ok.2) (Lib.hid (IsB.nil_ w2))
 unfold encV at hcon ⊢
 go_wp2_with fail
 refine hcon.mono ?_
 clear hcon
 rintro e w3 ⟨z, p, hz, rfl, h3⟩
 have HR0 := Lib.hid (show AllR w z p br ps 0 w3 from ⟨h3, fine0, rfl, by rw [hz]; exact HK2.out, by rw [hz]; exact HB2.out, HBR.out⟩)
 clear hz h3 HK2 HB2
 go_wp2
 go_loopw [28] (fun v wr => ∃ k : Nat, v = .int .i64 (k : Int) ∧ k ≤ n ∧ Hid (AllR w z p br ps k wr)) (fun v _ => n - (intOf v).toNat)
 case atStart => exact ⟨0, rfl, by omega, HR0⟩
 case round =>
  obtain ⟨k, rfl, hk, HZ⟩ := hrel
  clear HR0
  by_cases hlt : k < n
  ·obtain ⟨ad, rfl, had, x1⟩ := (hs.out.below HZ.out.below).at_ hlt
   obtain ⟨ad2, t, rfl, hget, had2, x2, hx, hm⟩ := (ht.out.below HZ.out.below).at_ hlt
   obtain ⟨g1, g2⟩ := prs_get (ss := ss) (by have := hs.out.1; omega) hget
   rw [← HPS.out] at g1 g2
   obtain ⟨s, hs'⟩ : ∃ s, s = ss.getD k 0 := ⟨_, rfl⟩
   rw [← hs'] at x1 g1 g2
   have HG1 := Lib.hid g1
   have HG2 := Lib.hid g2
   have HX := Lib.hid hx
   have HM := Lib.hid hm
   obtain ⟨C, m, dd, xs⟩ := t
   dsimp only at x2 HX HM HG1 HG2
   clear hs' g1 g2 hget hx hm
   cases hq : okP (s, xs) with
   | false =>
    have HQ := Lib.hid hq
    clear hq
    go_wp2_with fail
    refine (put_no z p _ _ _ _ _ C m dd xs s _ (Lib.hid HZ.out.1) HX HM HQ).mono ?_
    rintro e w5 ⟨rfl, h5⟩
    have HE := Lib.hid (show allErr e0 ps = 1 by rw [HZ.out.2.2.1, HG1.out, allErr_no HQ.out])
    have HK5 := Lib.hid (HZ.out.2.2.2.1.below h5.base HZ.out.2.2.2.1.lt)
    have HB5 := Lib.hid (HZ.out.2.2.2.2.1.trans (h5.base.mono HZ.out.2.2.2.2.1.size))
    clear h5 x1 x2
    obtain ⟨y1, y2, y3, y4⟩ := blk2 HK5.out
    go_wp2
    exact bodyPost_ret (v := .tuple #[zeroB, .int .i64 1]) (by simp [results, Tryz.results36, go_sem, zeroB, y1, y2]) rfl (.inr ⟨by rw [HE.out]; decide, by rw [HE.out], (HB5.out.setCell HBR.out _).setCell HBR.out _⟩)
   | true =>
    have HQ := Lib.hid hq
    clear hq
    have HF := Lib.hid HZ.out.2.1
    obtain ⟨E, hE⟩ : ∃ E, E = stE e0 (ps.take k) := ⟨_, rfl⟩
    have HWS := Lib.hid (show WS z p E wr by rw [hE]; exact HZ.out.1)
    rw [← hE] at HF
    have HEE := Lib.hid hE
    clear hE
    have f3 : E.out.length ≤ 65536 := HF.out.2.2.1
    have f4 : E.wait ≤ 65536 := HF.out.2.2.2
    rcases putC_cases (put1 E (s, xs)) with ⟨hc, -, -⟩ | hc
    ·have HC := Lib.hid hc
     clear hc
     go_wp2_with fail
     refine (put_w z p E (put1 E (s, xs)) 0 C m dd xs s _ _ _ _ HWS (Lib.hid HF.out.1) (Lib.hid HF.out.2.1) f3 f4 HX HM (Lib.hid (symP_of HQ.out)) (Lib.hid rfl) HC).mono ?_
     rintro e w5 ⟨rfl, h5⟩
     have HR5 := Lib.hid (show AllR w z p br ps (k + 1) w5 from by
      refine ⟨?_, ?_, ?_, HZ.out.2.2.2⟩
      ·rw [HG2.out, stE_snoc, ← HEE.out]; exact h5
      ·rw [HG2.out, stE_snoc, ← HEE.out]; exact HF.out.put HQ.out HC.out
      ·rw [HG2.out, stE_snoc, ← HEE.out, HZ.out.2.2.1, HG1.out, ← HEE.out, allErr_ok HQ.out HC.out])
     clear h5 x1 x2
     go_wp2
     go_roundw
     case rel => exact ⟨k + 1, by go_num, by omega, HR5⟩
     case measure => simp [intOf]; omega
    ·have HC := Lib.hid hc
     clear hc
     go_wp2_with fail
     refine (put_w z p E (put1 E (s, xs)) 2 C m dd xs s _ _ _ _ HWS (Lib.hid HF.out.1) (Lib.hid HF.out.2.1) f3 f4 HX HM (Lib.hid (symP_of HQ.out)) (Lib.hid rfl) HC).mono ?_
     rintro e w5 ⟨rfl, h5⟩
     have HE := Lib.hid (show allErr e0 ps = 2 by rw [HZ.out.2.2.1, HG1.out, ← HEE.out, allErr_long HQ.out HC.out])
     have HK5 := Lib.hid (HZ.out.2.2.2.1.below (WSm.base h5) HZ.out.2.2.2.1.lt)
     have HB5 := Lib.hid (HZ.out.2.2.2.2.1.trans ((WSm.base h5).mono HZ.out.2.2.2.2.1.size))
     clear h5 x1 x2
     obtain ⟨y1, y2, y3, y4⟩ := blk2 HK5.out
     go_wp2
     exact bodyPost_ret (v := .tuple #[zeroB, .int .i64 2]) (by simp [results, Tryz.results36, go_sem, zeroB, y1, y2]) rfl (.inr ⟨by rw [HE.out]; decide, by rw [HE.out], (HB5.out.setCell HBR.out _).setCell HBR.out _⟩)
  ·obtain rfl : k = n := by omega
   have hpl : ps.length = k := by rw [HPS.out]; unfold prs; rw [List.length_zip, List.length_map, hs.out.1, ht.out.1]; omega
   obtain ⟨E, hE⟩ : ∃ E, E = stE e0 ps := ⟨_, rfl⟩
   obtain ⟨q1, q2, q3, q4, q5, -⟩ := HZ.out
   rw [List.take_of_length_le (by omega), ← hE] at q1 q2 q3
   rw [List.drop_of_length_le (by omega)] at q3
   have Q1 := Lib.hid q1
   have Q2 := Lib.hid q2
   have Q3 := Lib.hid (show allErr e0 ps = 0 from q3)
   have Q4 := Lib.hid q4
   have Q5 := Lib.hid q5
   have HE := Lib.hid hE
   have f3 : E.out.length ≤ 65536 := q2.2.2.1
   have f4 : E.wait ≤ 65536 := q2.2.2.2
   clear q1 q2 q3 q4 q5 hE hpl HZ
   go_wp2_with fail
   refine (end_w z p E (endBits E) _ Q1 f3 f4 (Lib.hid rfl)).mono ?_
   rintro e w5 ⟨A5, n5, c5, N5, er5, rfl, hb5, hq5⟩
   have HK5 := Lib.hid (Q4.out.below hb5 Q4.out.lt)
   have HB5 := Lib.hid hb5
   have HQ5 := Lib.hid hq5
   clear hb5 hq5
   obtain ⟨y1, y2, y3, y4⟩ := blk2 HK5.out
   go_wp2
   refine bodyPost_ret (v := .tuple #[.agg #[.slice A5 n5 c5, .int .i64 N5], .int .i64 er5]) (by simp [results, Tryz.results36, go_sem, y1, y2]) rfl (.inl ⟨Q3.out, ?_⟩)
   rw [← HE.out]
   exact BOut.store Q5.out HBR.out Q4.out.lt HB5.out HQ5.out _ _
end Go.Proofs.YtkcoboamejefiaaGreatDoor.Cd
namespace Go.Proofs.YtkcoboamejefiaaGreatDoor.Fq
open Go.RowKit
def ncells (xs : List Nat) : Array Value := icells (xs.map fun x : Nat => (x : Int))
def CmpOk (w : World) (B C : Nat) (ls : List Int) : Prop :=
 C ≠ B ∧ ∃ A m c, w.cell? ⟨C, 0, none⟩ = some (.slice A m c) ∧ RdI w A m ls ∧ ∀ ad, A = some ad → 0 < m → ad.block ≠ B
theorem CmpOk.only {w w' : World} {B C : Nat} {ls : List Int} (h : CmpOk w B C ls) (hg : w.grownBy w' (some B)) : CmpOk w' B C ls := by
 obtain ⟨h1, A, m, c, h2, h3, h4⟩ := h
 refine ⟨h1, A, m, c, ?_, h3.only hg h4, h4⟩
 exact (World.cell?_of_block (hg.block C (World.block_lt_of_cell? _ _ h2) (fun e => h1 (by injection e)))).trans h2
theorem CmpOk.drewN {w : World} {B C : Nat} {ls : List Int} (h : CmpOk w B C ls) (n : Nat) : CmpOk (w.drewN n) B C ls := h
end Go.Proofs.YtkcoboamejefiaaGreatDoor.Fq
namespace Go.Proofs.YtkcoboamejefiaaGreatDoor.Fq
open Go.RowKit
def St (w wr : World) (B : Nat) (xs : List Nat) : Prop := w.grownBy wr (some B) ∧ Blk wr B 3 (ncells xs)
theorem St.drewN {w wr : World} {B : Nat} {xs : List Nat} (h : St w wr B xs) (n : Nat) : St w (wr.drewN n) B xs := ⟨only_drewN h.1 n, h.2⟩
theorem St.drew {w wr : World} {B : Nat} {xs : List Nat} (h : St w wr B xs) : St w wr.drew B xs := ⟨only_drew h.1, h.2⟩
theorem St.trans {w wr wr' : World} {B : Nat} {xs ys : List Nat} (h : St w wr B xs) (h' : St wr wr' B ys) : St w wr' B ys :=
 ⟨World.grownBy.trans h.1 h'.1, h'.2⟩
def Ins (xs : List Nat) (n : Nat) : Prop := ∀ x ∈ xs, x < n
theorem Ins.at_ {xs : List Nat} {n i : Nat} (h : Ins xs n) (hi : i < xs.length) : xs.getD i 0 < n := by
 have e : xs.getD i 0 = xs[i] := by simp [List.getD_eq_getElem?_getD, hi]
 rw [e]; exact h _ (List.getElem_mem hi)
end Go.Proofs.YtkcoboamejefiaaGreatDoor.Fq
namespace Go.Proofs.YtkcoboamejefiaaGreatDoor.Fq
open Go.RowKit
def PmP (w : World) (B : Nat) (xs : List Nat) (e : Ending) (w' : World) : Prop := e = .returned (.tuple #[]) ∧ ∃ ys : List Nat, ys.Perm xs ∧ St w w' B ys
theorem PmP.next {w w1 w2 : World} {B : Nat} {xs ys zs : List Nat} (hp : ys.Perm xs) (h : St w w1 B ys) (hp2 : zs.Perm ys) (h2 : St w1 w2 B zs) : ∃ zs : List Nat, zs.Perm xs ∧ St w w2 B zs :=
 ⟨zs, hp2.trans hp, h.trans h2⟩
theorem St.self {w wr : World} {B : Nat} {xs : List Nat} (h : St w wr B xs) : St wr wr B xs := ⟨World.grownBy.refl _ _, h.2⟩
end Go.Proofs.YtkcoboamejefiaaGreatDoor.Fq
namespace Go.Proofs.YtkcoboamejefiaaGreatDoor.Fq
open Go.RowKit
def CSt (w wr : World) (B : Nat) (xs : List Nat) : Prop := ∃ ys : List Nat, ys.Perm xs ∧ St w wr B ys
theorem CSt.drewN {w wr : World} {B : Nat} {xs : List Nat} (h : CSt w wr B xs) (n : Nat) : CSt w (wr.drewN n) B xs := by
 obtain ⟨ys, h1, h2⟩ := h
 exact ⟨ys, h1, h2.drewN n⟩
end Go.Proofs.YtkcoboamejefiaaGreatDoor.Fq
namespace Go.Proofs.YtkcoboamejefiaaGreatDoor.Fq
open Go.RowKit
end Go.Proofs.YtkcoboamejefiaaGreatDoor.Fq
namespace Go.Proofs.YtkcoboamejefiaaGreatDoor.Fq
open Go.RowKit
end Go.Proofs.YtkcoboamejefiaaGreatDoor.Fq
namespace Go.Proofs.YtkcoboamejefiaaGreatDoor.Fq
open Go.RowKit
theorem and_low (n : Nat) (h : n ≤ 1000000) : bits BinOp.and IntKind.u64 (n : Int) 4294967295 = (n : Int) := by
 rw [show (4294967295 : Int) = ((4294967295 : Nat) : Int) from rfl, u64_and_nat _ _ (by omega) (by omega)]
 have h : n &&& 4294967295 = n := by
  have := Nat.and_two_pow_sub_one_of_lt_two_pow (x := n) (n := 32) (by omega)
  simpa using this
 rw [h]
theorem mul64_one (n : Nat) (w : World) (hn : n ≤ 1000000) :
  Calls Tryz.prog 216 #[.int .u64 1, .int .u64 (n : Int)] w fun e w' => e = .returned (.tuple #[.int .u64 0, .int .u64 (n : Int)]) ∧ w = w' := by
 have a1 : bits BinOp.and IntKind.u64 1 4294967295 = 1 := by decide +kernel
 have a2 := and_low n hn
 have a3 : (n : Int) / 4294967296 = 0 := by omega
 have a4 : bits BinOp.and IntKind.u64 0 4294967295 = 0 := by decide +kernel
 go_enter Tryz.func216, Tryz.ntmps216
 go_wp2
 exact bodyPost_ret (v := .tuple #[.int .u64 0, .int .u64 (n : Int)]) (by simp [results, Tryz.results216, go_sem]) rfl ⟨rfl, rfl⟩
theorem mul_one (n : Nat) (w : World) (hn : n ≤ 1000000) :
  Calls Tryz.prog 206 #[.int .u64 1, .int .u64 (n : Int)] w fun e w' => e = .returned (.tuple #[.int .u64 0, .int .u64 (n : Int)]) ∧ w = w' := by
 go_enter Tryz.func206, Tryz.ntmps206
 go_wp2_with fail
 refine (mul64_one n _ hn).mono ?_
 rintro e w' ⟨rfl, rfl⟩
 go_wp2
 exact bodyPost_ret (v := .tuple #[.int .u64 0, .int .u64 (n : Int)]) (by simp [results, Tryz.results206, go_sem]) rfl ⟨rfl, rfl⟩
end Go.Proofs.YtkcoboamejefiaaGreatDoor.Fq
namespace Go.Proofs.YtkcoboamejefiaaGreatDoor.Fq
open Go.RowKit
theorem size_int : (Tryz.prog.info? 3).map (·.size) = some 1 := by kernel_rfl
def ones (k n : Nat) : List Int := List.replicate k 1 ++ List.replicate (n - k) 0
theorem ones_length (k n : Nat) (h : k ≤ n) : (ones k n).length = n := by simp [ones]; omega
theorem ones_all (n : Nat) : ones n n = List.replicate n 1 := by simp [ones]
theorem ones_copy (k t n : Nat) (k1 : Nat) (hk1 : k1 = k + t) : ((icells (ones k n)).toList.take k ++ List.replicate t (Value.int .i64 1) ++ (icells (ones k n)).toList.drop (k + (List.replicate t (Value.int .i64 1)).length)).toArray = icells (ones k1 n) := by
 subst hk1
 rw [List.length_replicate]
 have e : (icells (ones k n)).toList = List.replicate k (Value.int .i64 1) ++ List.replicate (n - k) (Value.int .i64 0) := by simp [icells, ones]
 rw [e]
 have e1 : (List.replicate k (Value.int .i64 1) ++ List.replicate (n - k) (Value.int .i64 0)).take k = List.replicate k (Value.int .i64 1) := List.take_left' (by simp)
 have e2 : (List.replicate k (Value.int .i64 1) ++ List.replicate (n - k) (Value.int .i64 0)).drop (k + t) = List.replicate (n - (k + t)) (Value.int .i64 0) := by
  rw [List.drop_append, List.drop_of_length_le (by simp), List.drop_replicate]
  simp; omega
 rw [e1, e2]
 simp only [icells, ones, List.map_append, List.map_replicate]
 rw [List.replicate_append_replicate]
theorem one_rep (t : Nat) : ∀ v ∈ List.replicate t (Value.int .i64 1), v.oneCell' = true := by
 intro v hv
 rw [(List.mem_replicate.1 hv).2]
 rfl
theorem ones_src {w : World} {g : Nat} {t : TypeId} {k n m : Nat} (h : Blk w g t (icells (ones k n))) (hm : m ≤ k) (hk : k ≤ n) : ∀ j v, (List.replicate m (Value.int .i64 1))[j]? = some v → w.cell? ((⟨g, 0, none⟩ : Addr).add j) = some v := by
 intro j v hv
 obtain ⟨hj, rfl⟩ := List.getElem?_eq_some_iff.1 hv
 rw [List.length_replicate] at hj
 rw [add_own, blk_at h (by rw [ones_length _ _ hk]; omega)]
 simp [ones, List.getD_eq_getElem?_getD, List.getElem?_append, show j < k by omega]
def RepP (w : World) (n : Nat) (e : Ending) (w' : World) : Prop :=
 ∃ g, e = .returned (.slice (some ⟨g, 0, none⟩) n n) ∧ w.heap.size ≤ g ∧ Blk w' g 3 (icells (List.replicate n 1)) ∧ Below w.heap.size w w'
theorem repeat_one (G n c : Nat) (w : World) (hg : Hid (Blk w G 3 (icells [1]))) (h1 : 1 ≤ n) (hn : n ≤ 1000) :
    Calls Tryz.prog 194 #[.slice (some ⟨G, 0, none⟩) 1 c, .int .i64 (n : Int)] w (RepP w n) := by
  have hmk : ∀ u : World, (Instr.makeSlice 38 (.int .i64 (n : Int)) (.int .i64 (n : Int))).run Tryz.prog u = .ok (.slice (some ⟨u.heap.size, 0, none⟩) n n) (u.alloc (.cells (madeCells #[.int .i64 0] n) 3)) := fun u => 
    run_make_row' (P := Tryz.prog) 38 3 (.int .i64 0) 8 Tryz.underlying38 info_int rfl .i64 .i64 n (by omega) (by omega) u
  have HB0 := Lib.hid (show Blk (w.alloc (.cells (madeCells #[.int .i64 0] n) 3)) w.heap.size 3 (icells (ones 0 n)) by
    rw [icells_zero]
    have : ones 0 n = List.replicate n 0 := by simp [ones]
    rw [this]
    exact Blk.new w _ _)
  have hcp := run_copy_row (P := Tryz.prog) (w.alloc (.cells (madeCells #[.int .i64 0] n) 3)) 38 38 3 3 w.heap.size 0 n n ⟨G, 0, none⟩ 1 c (icells (ones 0 n)) 3 (List.replicate 1 (Value.int .i64 1)) Tryz.underlying38 size_int HB0.out
    (by rw [List.length_replicate]; exact (Nat.min_eq_left h1).symm) (by
      intro j v hv
      obtain ⟨hj, rfl⟩ := List.getElem?_eq_some_iff.1 hv
      rw [List.length_replicate] at hj
      have : j = 0 := by omega
      subst this
      rw [add_own]
      exact (hg.out.alloc _).cell 0) (by rw [icells_size, ones_length _ _ (by omega)]; simp; omega) (one_rep 1)
  rw [ones_copy 0 1 n 1 rfl, List.length_replicate] at hcp
  go_enter Tryz.func194, Tryz.ntmps194
  go_wp2_with fail
  refine (mul_one n _ (by omega)).mono ?_
  rintro e w' ⟨rfl, rfl⟩
  go_wp2
  clear hcp hmk
  have HW := Lib.hid (show Below w.heap.size w ((w.alloc (.cells (madeCells #[.int .i64 0] n) 3)).setRow w.heap.size (icells (ones 1 n))) from below_setRow ((Below.refl _ w).alloc (Nat.le_refl _) _) (Nat.le_refl _) _)
  have HB := Lib.hid (show Blk ((w.alloc (.cells (madeCells #[.int .i64 0] n) 3)).setRow w.heap.size (icells (ones 1 n))) w.heap.size 3 (icells (ones 1 n)) from setRow_heap _ _ _ _ _ _ HB0.out)
  generalize (w.alloc (.cells (madeCells #[.int .i64 0] n) 3)).setRow w.heap.size (icells (ones 1 n)) = w1 at HW HB ⊢
  clear HB0
  go_loopw [8] (fun vk wr => ∃ k : Nat, vk = .int .i64 (k : Int) ∧ 1 ≤ k ∧ k ≤ n ∧ Hid (Blk wr w.heap.size 3 (icells (ones k n)) ∧ Below w.heap.size w wr)) (fun vk _ => n - (intOf vk).toNat)
  case atStart => exact ⟨1, rfl, by omega, by omega, Lib.hid ⟨HB.out, HW.out⟩⟩
  case round =>
    obtain ⟨k, rfl, hk1, hkn, HZ⟩ := hrel
    clear HB HW
    by_cases hlt : k < n
    · have hlt' : (k : Int) < (n : Int) := by omega
      obtain ⟨t, ht⟩ : ∃ t, t = Nat.min k (n - k) := ⟨_, rfl⟩
      have ht1 : 1 ≤ t := by rw [ht]; exact Nat.le_min.2 ⟨hk1, by omega⟩
      have ht2 : k + t ≤ n := by have : t ≤ n - k := by rw [ht]; exact Nat.min_le_right _ _
                                 omega
      have ht3 : t ≤ k := by rw [ht]; exact Nat.min_le_left _ _
      have hcp := run_copy_row (P := Tryz.prog) wr.drew 38 38 3 3 w.heap.size k (n - k) (n - k) ⟨w.heap.size, 0, none⟩ k n (icells (ones k n)) 3 (List.replicate t (Value.int .i64 1)) Tryz.underlying38 size_int HZ.out.1
        (by rw [List.length_replicate]; exact ht) (ones_src (w := wr.drew) HZ.out.1 ht3 hkn) (by rw [icells_size, ones_length _ _ hkn, List.length_replicate]; exact ht2) (one_rep t)
      clear ht
      obtain ⟨k2, hk2⟩ : ∃ k2, k2 = k + t := ⟨_, rfl⟩
      rw [ones_copy k t n k2 hk2, List.length_replicate] at hcp
      have e1 : (k : Int) + (t : Int) = (k2 : Int) := by omega
      have b0 : (0 : Int) ≤ (k : Int) := by omega
      have b1 : (k : Int) ≤ (n : Int) := by omega
      have b2 : ¬ n = k := by omega
      have HK2 := Lib.hid hk2
      clear hk2
      go_wp2_with fail
      go_region
      all_goals
        clear hcp
        go_wp2
        go_roundw
        case rel =>
          refine ⟨k2, rfl, by have := HK2.out; omega, by have := HK2.out; omega, Lib.hid ⟨?_, ?_⟩⟩
          · exact setRow_heap _ _ _ _ _ _ HZ.out.1
          · exact below_setRow (Below.drew HZ.out.2) (Nat.le_refl _) _
        case measure => have := HK2.out; simp [intOf]; omega
    · have hlt' : ¬ (k : Int) < (n : Int) := by omega
      obtain rfl : k = n := by omega
      go_wp2
      go_ret
      exact ⟨w.heap.size, rfl, Nat.le_refl _, by rw [← ones_all]; exact HZ.out.1, HZ.out.2⟩
end Go.Proofs.YtkcoboamejefiaaGreatDoor.Fq
namespace Go.Proofs.YtkcoboamejefiaaGreatDoor.Fq
open Go.RowKit
theorem tot_rep (n : Nat) : tot (List.replicate n 1) = (n : Int) := by
 induction n with
 | zero => rfl
 | succ n ih => rw [List.replicate_succ, tot_cons, ih]; omega
theorem okN_rep (n : Nat) (h1 : 1 ≤ n) (h2 : n ≤ 256) : okN (List.replicate n 1) = true := by
 unfold okN
 refine decide_eq_true ⟨by simpa using h1, by simpa using h2, fun x hx => ?_, by rw [tot_rep]; omega⟩
 rw [(List.mem_replicate.1 hx).2]; omega
theorem even_ok (n : Nat) (w : World) (h1 : 1 ≤ n) (h2 : n ≤ 256) :
  Calls Tryz.prog 176 #[.int .i64 (n : Int)] w (NewP w (acc (List.replicate n 1))) := by
 go_enter Tryz.func176, Tryz.ntmps176
 go_wp2_with fail
 refine (isSize_yes _ _ (by omega) (by omega)).mono ?_
 rintro e w' ⟨rfl, rfl⟩
 go_wp2_with fail
 have HK0 := Lib.hid (show Blk ((w.alloc (.cells #[.slice none 0 0] 103)).alloc (.cells #[.int .i64 1] 3)) w.heap.size 103 #[.slice none 0 0] from (Blk.new w _ _).alloc _)
 have HG0 := Lib.hid (show Blk ((w.alloc (.cells #[.slice none 0 0] 103)).alloc (.cells #[.int .i64 1] 3)) (w.heap.size + 1) 3 (icells [1]) from Blk.newAt (by simp))
 have HW0 := Lib.hid (show Below w.heap.size w ((w.alloc (.cells #[.slice none 0 0] 103)).alloc (.cells #[.int .i64 1] 3)) from ((Below.refl w.heap.size w).alloc (Nat.le_refl _) _).alloc (by simp) _)
 generalize (w.alloc (.cells #[.slice none 0 0] 103)).alloc (.cells #[.int .i64 1] 3) = w0 at HK0 HG0 HW0 ⊢
 refine (repeat_one _ n _ w0 HG0 h1 (by omega)).mono ?_
 rintro e w1 ⟨g, rfl, hg, hB, hb⟩
 have HK1 := Lib.hid (HK0.out.below hb HK0.out.lt)
 have HW1 := Lib.hid (HW0.out.trans (hb.mono HW0.out.size))
 have HR1 := Lib.hid (RdI.of_blk hB (n := n) (by simp))
 clear hg hB hb
 go_wp2_with fail
 refine (new_ok _ n n _ w1 HR1 (okN_rep n h1 h2)).mono ?_
 rintro e w2 ⟨g2, rfl, hg, hB, hb⟩
 have HK2 := Lib.hid (HK1.out.below hb HK1.out.lt)
 have HW2 := Lib.hid (HW1.out.trans (hb.mono HW1.out.size))
 have HB2 := Lib.hid hB
 have HG2 := Lib.hid (Nat.le_trans HW1.out.size hg)
 have HNE := Lib.hid (show g2 ≠ w.heap.size by have := HK1.out.lt; omega)
 clear hg hB hb
 have c0 := HK2.out.cell 0
 have f0 := HK2.out.frozen 0
 simp at c0
 obtain ⟨m, hm⟩ : ∃ m, (acc (List.replicate n 1)).length = m := ⟨_, rfl⟩
 rw [hm]
 have HM := Lib.hid hm
 clear hm
 unfold freqV
 go_wp2
 exact bodyPost_ret (v := .tuple #[freqV g2 m, .int .i64 0]) (by simp [results, Tryz.results176, go_sem, c0, freqV]) rfl ⟨g2, by rw [HM.out], HG2.out, Blk.far HB2.out HNE.out _, HW2.out.setCell (Nat.le_refl _) _⟩
end Go.Proofs.YtkcoboamejefiaaGreatDoor.Fq
namespace Go.Proofs.YtkcoboamejefiaaGreatDoor.Fq
end Go.Proofs.YtkcoboamejefiaaGreatDoor.Fq
