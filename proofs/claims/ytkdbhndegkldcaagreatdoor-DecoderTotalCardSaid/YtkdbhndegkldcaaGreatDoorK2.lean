/-
  Own texts, laid together: ML, MN, MW, MX, MQ, Cm, Bb, Ca, Cb, Cd, Ce.
-/
import Derived.Test.YtkdbhndegkldcaaGreatDoorK1
set_option maxHeartbeats 8000000
set_option linter.unusedSimpArgs false
set_option linter.unusedVariables false
set_option maxRecDepth 100000
namespace Go.Proofs.YtkdbhndegkldcaaGreatDoor.Lp
open Go.RowKit Fx Fq Tb
def Mem (w0 : World) (L : List (Nat × TypeId × List Int)) (w : World) : Prop :=
 Below w0.heap.size w0 w ∧ (∀ e ∈ L, Blk w e.1 e.2.1 (icells e.2.2)) ∧ (∀ e ∈ L, w0.heap.size ≤ e.1) ∧ L.Pairwise (fun a b => a.1 ≠ b.1)
section
variable {w0 w w' : World} {L : List (Nat × TypeId × List Int)} {g : Nat} {T : TypeId} {xs : List Int}
theorem Mem.start (w : World) : Mem w [] w := ⟨Below.refl _ _, by simp, by simp, .nil⟩
theorem Mem.get (h : Mem w0 L w) (hm : (g, T, xs) ∈ L) : Blk w g T (icells xs) := h.2.1 _ hm
theorem Mem.alloc (h : Mem w0 L w) (T : TypeId) (xs : List Int) : Mem w0 ((w.heap.size, T, xs) :: L) (w.alloc (.cells (icells xs) T)) := by
 obtain ⟨h1, h2, h3, h4⟩ := h
 refine ⟨h1.alloc h1.size _, fun e he => ?_, fun e he => ?_, .cons (fun e he => Nat.ne_of_gt (h2 e he).lt) h4⟩
 ·rcases List.mem_cons.1 he with rfl | he
  ·exact Blk.new w _ _
  ·exact (h2 e he).alloc _
 ·rcases List.mem_cons.1 he with rfl | he
  ·exact h1.size
  ·exact h3 e he
theorem Mem.below (h : Mem w0 L w) (hb : Below w.heap.size w w') : Mem w0 L w' :=
 ⟨h.1.trans (hb.mono h.1.size), fun e he => (h.2.1 e he).below hb (h.2.1 e he).lt, h.2.2.1, h.2.2.2⟩
theorem Mem.drew (h : Mem w0 L w) : Mem w0 L w.drew := ⟨⟨h.1.os, h.1.tape, h.1.output, h.1.size, h.1.block⟩, h.2.1, h.2.2⟩
theorem Mem.drewN (h : Mem w0 L w) (n : Nat) : Mem w0 L (w.drewN n) := ⟨below_drewN h.1 n, h.2.1, h.2.2⟩
theorem Mem.tail {e : Nat × TypeId × List Int} (h : Mem w0 (e :: L) w) : Mem w0 L w :=
 ⟨h.1, fun e he => h.2.1 e (.tail _ he), fun e he => h.2.2.1 e (.tail _ he), (List.pairwise_cons.1 h.2.2.2).2⟩
theorem Mem.sub {L' : List (Nat × TypeId × List Int)} (h : Mem w0 L w) (hs : L'.Sublist L) : Mem w0 L' w :=
 ⟨h.1, fun e he => h.2.1 e (hs.mem he), fun e he => h.2.2.1 e (hs.mem he), h.2.2.2.sublist hs⟩
theorem pw_ne {i j : Nat} {a b : Nat × TypeId × List Int} (h : L.Pairwise (fun a b => a.1 ≠ b.1)) (hi : L[i]? = some a) (hj : L[j]? = some b) (hij : i ≠ j) : a.1 ≠ b.1 := by
 obtain ⟨hi1, hi2⟩ := List.getElem?_eq_some_iff.1 hi
 obtain ⟨hj1, hj2⟩ := List.getElem?_eq_some_iff.1 hj
 rw [List.pairwise_iff_getElem] at h
 rcases Nat.lt_or_gt_of_ne hij with k | k
 ·have := h i j hi1 hj1 k
  rwa [hi2, hj2] at this
 ·have := h j i hj1 hi1 k
  rw [hi2, hj2] at this; exact this.symm
theorem Mem.turn (h : Mem w0 L w) (i : Nat) (hi : L[i]? = some (g, T, xs)) (ys : List Int) (hb : w.grownBy w' (some g)) (hg : Blk w' g T (icells ys)) : Mem w0 (L.set i (g, T, ys)) w' := by
 obtain ⟨h1, h2, h3, h4⟩ := h
 have hmem : (g, T, xs) ∈ L := List.mem_of_getElem? hi
 have hil := (List.getElem?_eq_some_iff.1 hi).1
 refine ⟨below_grown h1 hb (h3 _ hmem) h1.size, fun e he => ?_, fun e he => ?_, ?_⟩
 ·obtain ⟨j, hj⟩ := List.mem_iff_getElem?.1 he
  rw [List.getElem?_set] at hj
  by_cases hij : i = j
  ·rw [if_pos hij, if_pos (by omega)] at hj
   injection hj with hj
   subst hj
   exact hg
  ·rw [if_neg hij] at hj
   have hm := List.mem_of_getElem? hj
   exact (h2 e hm).only hb (fun k => pw_ne h4 hi hj hij k.symm)
 ·rcases List.mem_or_eq_of_mem_set he with he | rfl
  ·exact h3 e he
  ·show w0.heap.size ≤ g; exact h3 _ hmem
 ·rw [List.pairwise_iff_getElem] at h4 ⊢
  intro a b ha hb' hab
  have e1 : ((L.set i (g, T, ys))[a]).1 = (L[a]'(by simpa using ha)).1 := by
   rw [List.getElem_set]
   by_cases k : i = a
   ·subst k
    rw [if_pos rfl]
    have := (List.getElem?_eq_some_iff.1 hi).2
    rw [this]
   ·rw [if_neg k]
  have e2 : ((L.set i (g, T, ys))[b]).1 = (L[b]'(by simpa using hb')).1 := by
   rw [List.getElem_set]
   by_cases k : i = b
   ·subst k
    rw [if_pos rfl]
    have := (List.getElem?_eq_some_iff.1 hi).2
    rw [this]
   ·rw [if_neg k]
  rw [e1, e2]
  exact h4 a b _ _ hab
theorem grown_set (w : World) (g j : Nat) (v : Value) : w.grownBy (w.setCell ⟨g, j, none⟩ v) (some g) := only_setCell (only_of_below (Below.refl _ _) _) (.inl rfl) _
theorem grown_row (w : World) (g : Nat) (cs : Array Value) : w.grownBy (w.setRow g cs) (some g) :=
 ⟨rfl, rfl, rfl, by simp, fun i _ hne => setRow_other w g i cs (fun e => hne (by rw [e]))⟩
theorem Mem.put (h : Mem w0 L w) (i : Nat) (hi : L[i]? = some (g, T, xs)) (j : Nat) (v : Int) : Mem w0 (L.set i (g, T, xs.set j v)) (w.setCell ⟨g, j, none⟩ (.int .i64 v)) :=
 h.turn i hi _ (grown_set w g j _) (blk_put (h.get (List.mem_of_getElem? hi)) j v)
theorem Mem.row (h : Mem w0 L w) (i : Nat) (hi : L[i]? = some (g, T, xs)) (ys : List Int) : Mem w0 (L.set i (g, T, ys)) (w.setRow g (icells ys)) :=
 h.turn i hi _ (grown_row w g _) (setRow_heap w g _ _ T _ (h.get (List.mem_of_getElem? hi)))
theorem Mem.rd (h : Mem w0 L w) (hm : (g, T, xs) ∈ L) {n : Nat} (hn : xs.length = n) : RdI w (some ⟨g, 0, none⟩) n xs := RdI.of_blk (h.get hm) hn
theorem Mem.cell (h : Mem w0 L w) (hm : (g, T, xs) ∈ L) {k : Nat} (hk : k < xs.length) : w.cell? ⟨g, k, none⟩ = some (.int .i64 (xs.getD k 0)) := blk_at (h.get hm) hk
theorem Mem.free (h : Mem w0 L w) (hm : (g, T, xs) ∈ L) (k : Nat) : w.frozen? ⟨g, k, none⟩ = false := (h.get hm).frozen k
end
def zr (n : Nat) : List Int := List.replicate n 0
theorem zr_length (n : Nat) : (zr n).length = n := List.length_replicate
def Arr (T : TypeId) (n : Nat) : Prop :=
 (∃ d, Tryz.prog.underlying T = some d ∧ d.isRow = true) ∧ (Tryz.prog.info? T).map (fun i => (i.zero, i.size)) = some (some (.agg (icells (zr n))), n)
theorem Arr.size {T : TypeId} {n : Nat} (h : Arr T n) : (Tryz.prog.info? T).map (·.size) = some n := by
 obtain ⟨_, h⟩ := h
 cases hq : Tryz.prog.info? T with
 | none => simp [hq] at h
 | some i => simp [hq] at h; simp [h.2]
theorem Arr.zero {T : TypeId} {n : Nat} (h : Arr T n) (w : World) : (zeroValue T).run Tryz.prog w = .ok (.agg (icells (zr n))) w := by
 obtain ⟨_, h⟩ := h
 cases hq : Tryz.prog.info? T with
 | none => simp [hq] at h
 | some i => simp [hq] at h; simp [zeroValue, typeInfo, hq, h.1]
theorem icells_one (xs : List Int) : (icells xs).all (·.oneCell') = true :=
 Array.all_eq_true_iff_forall_mem.2 (fun v hv => by
  simp only [icells, List.mem_toArray, List.mem_map] at hv
  obtain ⟨x, -, rfl⟩ := hv
  rfl)
theorem arrPcm : Arr 35 16 := ⟨⟨.array 16 3, by kernel_rfl, rfl⟩, by kernel_rfl⟩
theorem arrSpec : Arr 89 16 := ⟨⟨.array 16 3, by kernel_rfl, rfl⟩, by kernel_rfl⟩
theorem arrTail : Arr 27 16 := ⟨⟨.array 16 3, by kernel_rfl, rfl⟩, by kernel_rfl⟩
theorem arrWave : Arr 111 32 := ⟨⟨.array 32 3, by kernel_rfl, rfl⟩, by kernel_rfl⟩
theorem arrPair : Arr 173 32 := ⟨⟨.array 32 3, by kernel_rfl, rfl⟩, by kernel_rfl⟩
section
variable {ops : Array Oper} {rest : List Oper} {o : Oper} {a : Act} {w w0 : World} {Q : Exit → Act → World → Prop} {L : List (Nat × TypeId × List Int)}
theorem wl_step (hgd : Region.wanted o (yielded ops a.tmps) = true) (h : ∀ K : Act → World → Prop, (∀ a w, wpList Tryz.prog ops Q rest a w → K a w) → o.wp Tryz.prog a w K Q) : wpList Tryz.prog ops Q (o :: rest) a w :=
 wpList_step fun K hK => by rw [if_pos hgd]; exact h K hK
theorem wl_alloc (hgd : Region.wanted o (yielded ops a.tmps) = true) (T : TypeId) (ho : o.op = .alloc T) {n : Nat} (ha : Arr T n) (hm : Hid (Mem w0 L w))
  (h : ∀ g w', Hid (Mem w0 ((g, T, zr n) :: L) w') → wpList Tryz.prog ops Q rest (a.put o.dst (.pointer (some ⟨g, 0, none⟩))) w') : wpList Tryz.prog ops Q (o :: rest) a w :=
 wl_step hgd fun K hK => by
  have hz := ha.zero w
  have := hK _ _ (h w.heap.size _ (Lib.hid (hm.out.alloc T (zr n))))
  unfold Oper.wp execOp
  simp only [ho, Instr.alloc, newVar, newRow, Sem.run_bind, hz, Result.andThen, Value.cells, Sem.run_pure]
  exact this
theorem wl_box (hgd : Region.wanted o (yielded ops a.tmps) = true) (T : TypeId) (x : Operand) (ho : o.op = .box T x) {xs : List Int} (hx : a.eval x = .agg (icells xs)) (hm : Hid (Mem w0 L w))
  (h : ∀ g w', Hid (Mem w0 ((g, T, xs) :: L) w') → wpList Tryz.prog ops Q rest (a.put o.dst (.pointer (some ⟨g, 0, none⟩))) w') : wpList Tryz.prog ops Q (o :: rest) a w :=
 wl_step hgd fun K hK => by
  have := hK _ _ (h w.heap.size _ (Lib.hid (hm.out.alloc T xs)))
  unfold Oper.wp execOp
  simp only [ho, Instr.box, newVar, newRow, Sem.run_bind, hx, Result.andThen, Value.cells, Sem.run_pure]
  exact this
theorem run_load_mem {g n : Nat} {T : TypeId} {xs : List Int} (ha : Arr T n) (hm : Mem w0 L w) (hin : (g, T, xs) ∈ L) (hl : xs.length = n) : (loadVar T ⟨g, 0, none⟩).run Tryz.prog w = .ok (.agg (icells xs)) w := by
 obtain ⟨d, h1, h2⟩ := ha.1
 exact run_loadVar_row w g T T (icells xs) (0, 0) d (hm.get hin) h1 (by cases d <;> first | rfl | cases h2) (by rw [ha.size, icells_size, hl])
theorem wl_load (hgd : Region.wanted o (yielded ops a.tmps) = true) (T : TypeId) (x : Operand) (ho : o.op = .load T x) {g n : Nat} (hx : a.eval x = .pointer (some ⟨g, 0, none⟩)) (ha : Arr T n) {xs : List Int} (hm : Hid (Mem w0 L w))
  (hin : (g, T, xs) ∈ L) (hl : Hid (xs.length = n)) (h : wpList Tryz.prog ops Q rest (a.put o.dst (.agg (icells xs))) w) : wpList Tryz.prog ops Q (o :: rest) a w :=
 wl_step hgd fun K hK => by
  have := hK _ _ h
  unfold Oper.wp execOp
  simp only [ho, hx, Instr.loadAt, Instr.sureAddr, Sem.run_bind, Sem.run_pure, Result.andThen_ok, run_load_mem ha hm.out hin hl.out]
  exact this
theorem run_store_mem {g n : Nat} {T : TypeId} {xs ys : List Int} (ha : Arr T n) (hm : Mem w0 L w) (hin : (g, T, xs) ∈ L) (hl : xs.length = n) (hl' : ys.length = n) : (storeVar T ⟨g, 0, none⟩ (.agg (icells ys))).run Tryz.prog w = .ok () (w.setRow g (icells ys)) :=
 run_storeVar_row w g T T (icells xs) (icells ys) (hm.get hin) (by rw [ha.size, icells_size, hl']) (by rw [icells_size, icells_size, hl, hl']) (icells_one ys)
theorem wl_store (hgd : Region.wanted o (yielded ops a.tmps) = true) (T : TypeId) (x y : Operand) (ho : o.op = .store T x y) {g n : Nat} (hx : a.eval x = .pointer (some ⟨g, 0, none⟩)) {ys : List Int} (hy : a.eval y = .agg (icells ys)) (ha : Arr T n) {xs : List Int}
  (hm : Hid (Mem w0 L w)) (i : Nat) (hi : L[i]? = some (g, T, xs)) (hl : Hid (xs.length = n)) (hl' : Hid (ys.length = n))
  (h : ∀ w', Hid (Mem w0 (L.set i (g, T, ys)) w') → wpList Tryz.prog ops Q rest (a.put o.dst undef) w') : wpList Tryz.prog ops Q (o :: rest) a w :=
 wl_step hgd fun K hK => by
  have := hK _ _ (h _ (Lib.hid (hm.out.row i hi ys)))
  unfold Oper.wp execOp
  simp only [ho, hx, hy, Instr.storeAt, Instr.sureAddr, Sem.run_bind, Sem.run_pure, Result.andThen_ok, run_store_mem ha hm.out (List.mem_of_getElem? hi) hl.out hl'.out]
  exact this
end
/- short words for the arms: the premises find themselves -/
theorem q7a {T : TypeId} {n : Nat} (h : Arr T n := by first | exact arrPcm | exact arrSpec | exact arrTail | exact arrWave | exact arrPair | exact arrLev | exact arrAll | exact arrHop | exact arrSix | exact arrFr) : Arr T n := h
theorem q7e {e : Nat × TypeId × List Int} {L : List (Nat × TypeId × List Int)} (h : e ∈ L := by repeat' (first | exact .head _ | refine .tail _ ?_)) : e ∈ L := h
theorem q7l {xs : List Int} {n : Nat} (h : Hid (xs.length = n) := by with_reducible first | assumption | exact Lib.hid (zr_length _) | exact Lib.hid (tab_length _ _)) : Hid (xs.length = n) := h
theorem q7u {L L' : List (Nat × TypeId × List Int)} (h : List.Sublist L L' := by repeat' first | exact List.nil_sublist _ | exact .slnil | refine List.Sublist.cons_cons _ ?_ | refine List.Sublist.cons _ ?_) : List.Sublist L L' := h
def Nth (L : List (Nat × TypeId × List Int)) (i : Nat) (e : Nat × TypeId × List Int) : Prop := L[i]? = some e
theorem Nth.hd {e : Nat × TypeId × List Int} {L : List (Nat × TypeId × List Int)} : Nth (e :: L) 0 e := rfl
theorem Nth.tl {e x : Nat × TypeId × List Int} {L : List (Nat × TypeId × List Int)} {i : Nat} (h : Nth L i e) : Nth (x :: L) (i + 1) e := by
 unfold Nth at h ⊢; rw [List.getElem?_cons_succ]; exact h
theorem q7x {L : List (Nat × TypeId × List Int)} {i : Nat} {e : Nat × TypeId × List Int} (h : Nth L i e := by first | exact Nth.hd | exact Nth.tl (Nth.hd) | exact Nth.tl (Nth.tl (Nth.hd)) | exact Nth.tl (Nth.tl (Nth.tl (Nth.hd))) | exact Nth.tl (Nth.tl (Nth.tl (Nth.tl (Nth.hd)))) | exact Nth.tl (Nth.tl (Nth.tl (Nth.tl (Nth.tl (Nth.hd))))) | exact Nth.tl (Nth.tl (Nth.tl (Nth.tl (Nth.tl (Nth.tl (Nth.hd)))))) | exact Nth.tl (Nth.tl (Nth.tl (Nth.tl (Nth.tl (Nth.tl (Nth.tl (Nth.hd))))))) | exact Nth.tl (Nth.tl (Nth.tl (Nth.tl (Nth.tl (Nth.tl (Nth.tl (Nth.tl (Nth.hd)))))))) | exact Nth.tl (Nth.tl (Nth.tl (Nth.tl (Nth.tl (Nth.tl (Nth.tl (Nth.tl (Nth.tl (Nth.hd))))))))) | exact Nth.tl (Nth.tl (Nth.tl (Nth.tl (Nth.tl (Nth.tl (Nth.tl (Nth.tl (Nth.tl (Nth.tl (Nth.hd)))))))))) | exact Nth.tl (Nth.tl (Nth.tl (Nth.tl (Nth.tl (Nth.tl (Nth.tl (Nth.tl (Nth.tl (Nth.tl (Nth.tl (Nth.hd))))))))))) | exact Nth.tl (Nth.tl (Nth.tl (Nth.tl (Nth.tl (Nth.tl (Nth.tl (Nth.tl (Nth.tl (Nth.tl (Nth.tl (Nth.tl (Nth.hd)))))))))))) | exact Nth.tl (Nth.tl (Nth.tl (Nth.tl (Nth.tl (Nth.tl (Nth.tl (Nth.tl (Nth.tl (Nth.tl (Nth.tl (Nth.tl (Nth.tl (Nth.hd)))))))))))))) : Nth L i e := h
def dL {w0 w : World} {L : List (Nat × TypeId × List Int)} (_ : Hid (Mem w0 L w)) : Nat := L.length
section
variable {ops : Array Oper} {rest : List Oper} {o : Oper} {a : Act} {w w0 : World} {Q : Exit → Act → World → Prop} {L : List (Nat × TypeId × List Int)}
theorem wl_storeM (hgd : Region.wanted o (yielded ops a.tmps) = true) (T : TypeId) (x y : Operand) (ho : o.op = .store T x y) {g n : Nat} (hx : a.eval x = .pointer (some ⟨g, 0, none⟩)) {ys : List Int} (hy : a.eval y = .agg (icells ys)) (ha : Arr T n) {xs : List Int}
  (hm : Hid (Mem w0 L w)) {i : Nat} (hi : Nth L i (g, T, xs)) (hl : Hid (xs.length = n)) (hl' : Hid (ys.length = n))
  (h : ∀ w', Hid (Mem w0 (L.set i (g, T, ys)) w') → wpList Tryz.prog ops Q rest (a.put o.dst undef) w') : wpList Tryz.prog ops Q (o :: rest) a w :=
 wl_store hgd T x y ho hx hy ha hm i hi hl hl' h
end
theorem arn_elem (w : World) : (sizeOf 3).run Tryz.prog w = .ok 1 w := by kernel_rfl
section
variable {ops : Array Oper} {rest : List Oper} {o : Oper} {a : Act} {w w0 : World} {Q : Exit → Act → World → Prop} {L : List (Nat × TypeId × List Int)}
theorem q8v (hgd : Region.wanted o (yielded ops a.tmps) = true) (T : TypeId) (ho : o.op = .build T #[]) {n : Nat} (ha : Arr T n) (hu : Tryz.prog.underlying T = some (.array n 3))
  (h : wpList Tryz.prog ops Q rest (a.put o.dst (.agg (icells (zr n)))) w) : wpList Tryz.prog ops Q (o :: rest) a w :=
 wl_step hgd fun K hK => by
  have := hK _ _ h
  unfold Oper.wp execOp
  simp only [ho, Instr.build, Sem.run_bind, ha.zero w, Result.andThen_ok, run_underlying hu w, Value.cells, List.map_toArray, List.map_nil]
  simp only [arn_elem w, Result.andThen_ok, Instr.fill, Sem.run_pure]
  exact this
theorem wl_built (hgd : Region.wanted o (yielded ops a.tmps) = true) (T : TypeId) (parts : Array (Nat × Operand)) (ho : o.op = .build T parts) (xs : List Int)
  (hf : Tryz.prog.built T (parts.map fun (i, x) => (i, a.eval x)).toList = some (icells xs))
  (h : wpList Tryz.prog ops Q rest (a.put o.dst (.agg (icells xs))) w) : wpList Tryz.prog ops Q (o :: rest) a w :=
 wl_step hgd fun K hK => by
  have := hK _ _ h
  refine wp_build T parts ho (by rw [hf]; rfl) ?_
  rw [hf]
  exact this
end
theorem Mem.add {w0 w w' : World} {L : List (Nat × TypeId × List Int)} (h : Mem w0 L w) (hb : Below w.heap.size w w') {r : Nat} {T : TypeId} {xs : List Int} (hr : w.heap.size ≤ r) (hB : Blk w' r T (icells xs)) : Mem w0 ((r, T, xs) :: L) w' := by
 refine ⟨h.1.trans (hb.mono h.1.size), fun e he => ?_, fun e he => ?_, .cons (fun e he => Nat.ne_of_gt (Nat.lt_of_lt_of_le (h.2.1 e he).lt hr)) h.2.2.2⟩
 ·rcases List.mem_cons.1 he with rfl | he
  ·exact hB
  ·exact (h.2.1 e he).below hb (h.2.1 e he).lt
 ·rcases List.mem_cons.1 he with rfl | he
  ·exact Nat.le_trans h.1.size hr
  ·exact h.2.2.1 e he
theorem rd_sub {w : World} {g : Nat} {T : TypeId} {xs : List Int} (h : Blk w g T (icells xs)) (o n : Nat) (hn : (xs.drop o).length = n) : RdI w (some ⟨g, o, none⟩) n (xs.drop o) := by
 refine ⟨hn, fun _ => ⟨_, rfl, fun j x hx => ?_⟩⟩
 rw [Addr.add_mid, h.cell]
 rw [List.getElem?_drop] at hx
 simp [icells, hx]
set_option maxRecDepth 20000 in
theorem run_copy_mem {w : World} {g : Nat} {T : TypeId} {zs xs : List Int} (hg : Blk w g T (icells zs)) (o dLen dCap : Nat) {ad : Addr} {n : Nat} (sCap : Nat) (hr : RdI w (some ad) n xs) (hn : n = Nat.min n dLen) (hfit : o + n ≤ zs.length) (ys : List Int)
  (hys : zs.take o ++ xs ++ zs.drop (o + n) = ys) :
  (Builtin.copy_ #[23, 23] 3 #[.slice (some ⟨g, o, none⟩) dLen dCap, .slice (some ad) n sCap]).run Tryz.prog w = .ok (goInt n) (w.setRow g (icells ys)) := by
 have hl := hr.1
 have := run_copy_row (P := Tryz.prog) w 23 23 3 3 g o dLen dCap ad n sCap (icells zs) T (xs.map fun x => Value.int .i64 x) Tryz.underlying23 (by kernel_rfl) hg (by rw [List.length_map, hl]; exact hn)
  (fun j v hv => by
   rw [List.getElem?_map] at hv
   cases hx : xs[j]? with
   | none => rw [hx] at hv; cases hv
   | some x =>
    rw [hx] at hv
    injection hv with hv
    subst hv
    by_cases h0 : 0 < n
    ·obtain ⟨ad', e, hc⟩ := hr.2 h0
     injection e with e
     subst e
     exact hc j x hx
    ·have := (List.getElem?_eq_some_iff.1 hx).1; omega)
  (by rw [icells_size, List.length_map, hl]; exact hfit)
  (fun v hv => by
   rw [List.mem_map] at hv
   obtain ⟨x, -, rfl⟩ := hv
   rfl)
 rw [this, List.length_map, hl]
 congr 2
 rw [← hys]
 simp [icells, List.map_take, List.map_drop]
theorem run_index (T : TypeId) {n : Nat} (hT : Tryz.prog.underlying T = some (.array n 3)) (xs : List Int) (hl : xs.length = n) (k : Nat) (hk : k < n) (w : World) :
  (Instr.index T (.agg (icells xs)) (.int .i64 (k : Int))).run Tryz.prog w = .ok (.int .i64 (xs.getD k 0)) w := by
 have hs : (sizeOf 3).run Tryz.prog w = .ok 1 w := by kernel_rfl
 have ha : (isAgg 3).run Tryz.prog w = .ok false w := by kernel_rfl
 have hc : (icells xs)[k]? = some (.int .i64 (xs.getD k 0)) := icells_get (by omega)
 simp only [Instr.index, asIntOf, Sem.run_bind, Sem.run_pure, Result.andThen_ok, run_underlying hT w]
 rw [if_pos ⟨by omega, by omega⟩]
 simp [Sem.run_bind, hs, part, ha, Result.andThen, hc]
theorem getD_ext {xs ys : List Int} (h : xs.length = ys.length) (hk : ∀ k, k < xs.length → xs.getD k 0 = ys.getD k 0) : xs = ys := by
 refine List.ext_getElem h fun k h1 h2 => ?_
 have := hk k h1
 simpa [List.getD_eq_getElem?_getD, h1, h2] using this
theorem res_one {fn : Func} {p : Tmp} {ty : TypeId} (h : fn.results = #[.cell p ty]) (tmps : Array Value) {w w0 : World} {L : List (Nat × TypeId × List Int)} {g n : Nat} {xs : List Int}
  (hp : tmps.getD p undef = .pointer (some ⟨g, 0, none⟩)) (ha : Arr ty n) (hm : Hid (Mem w0 L w)) (hin : (g, ty, xs) ∈ L) (hl : Hid (xs.length = n)) : (results fn tmps).run Tryz.prog w = .ok (.agg (icells xs)) w := by
 obtain ⟨d, h1, h2⟩ := ha.1
 exact results_cell_row h tmps w g ty (icells xs) (0, 0) d hp (hm.out.get hin) h1 (by cases d <;> first | rfl | cases h2) (by rw [ha.size, icells_size, hl.out])
theorem res_two {fn : Func} {p u : Tmp} {ty : TypeId} (h : fn.results = #[.cell p ty, .tmp u]) (tmps : Array Value) {w w0 : World} {L : List (Nat × TypeId × List Int)} {g n : Nat} {xs : List Int} {v : Value}
  (hp : tmps.getD p undef = .pointer (some ⟨g, 0, none⟩)) (hv : tmps.getD u undef = v) (ha : Arr ty n) (hm : Hid (Mem w0 L w)) (hin : (g, ty, xs) ∈ L) (hl : Hid (xs.length = n)) :
  (results fn tmps).run Tryz.prog w = .ok (.tuple #[.agg (icells xs), v]) w := by
 rw [results_cell_tmp h, hp, hv]
 simp only [asAddr, Sem.run_pure, Result.andThen_ok, run_load_mem ha hm.out hin hl.out]
theorem res_three {fn : Func} {p q u : Tmp} {ty tz : TypeId} (h : fn.results = #[.cell p ty, .cell q tz, .tmp u]) (tmps : Array Value) {w w0 : World} {L : List (Nat × TypeId × List Int)} {g k n m : Nat} {xs ys : List Int} {v : Value}
  (hp : tmps.getD p undef = .pointer (some ⟨g, 0, none⟩)) (hq : tmps.getD q undef = .pointer (some ⟨k, 0, none⟩)) (hv : tmps.getD u undef = v) (ha : Arr ty n) (hb : Arr tz m) (hm : Hid (Mem w0 L w))
  (hin : (g, ty, xs) ∈ L) (hin' : (k, tz, ys) ∈ L) (hl : Hid (xs.length = n)) (hl' : Hid (ys.length = m)) :
  (results fn tmps).run Tryz.prog w = .ok (.tuple #[.agg (icells xs), .agg (icells ys), v]) w := by
 have hp' : tmps[p]?.getD undef = .pointer (some ⟨g, 0, none⟩) := by simpa using hp
 have hq' : tmps[q]?.getD undef = .pointer (some ⟨k, 0, none⟩) := by simpa using hq
 have hv' : tmps[u]?.getD undef = v := by simpa using hv
 simp [results, h, hp', hq', hv', asAddr, Sem.run_bind, Result.andThen, run_load_mem ha hm.out hin hl.out, run_load_mem hb hm.out hin' hl'.out]
def winP (n : Nat) : Int := sinP (2 * n + 1)
def kerP (n k : Nat) : Int := cosP ((2 * n + 17) * (2 * k + 1) % 128)
theorem kerP_is (n k : Nat) : kerI (n : Int) (k : Int) = kerP n k := by
 have e : (2 * (n : Int) + 17) * (2 * (k : Int) + 1) = (((2 * n + 17) * (2 * k + 1) : Nat) : Int) := by simp
 have e2 : pl (phI (n : Int) (k : Int)) = (2 * n + 17) * (2 * k + 1) % 128 := by
  unfold pl phI
  rw [e]
  generalize (2 * n + 17) * (2 * k + 1) = z
  omega
 unfold kerI kerP
 rw [e2]
theorem small_all : ∀ n, n < 128 → -16777300 ≤ cosP n ∧ cosP n ≤ 16777300 ∧ -16777300 ≤ sinP n ∧ sinP n ≤ 16777300 := by decide +kernel
theorem win_bd {n : Nat} (h : n < 32) : -16777300 ≤ winP n ∧ winP n ≤ 16777300 := by
 have := small_all (2 * n + 1) (by omega)
 exact ⟨this.2.2.1, this.2.2.2⟩
theorem ker_bd (n k : Nat) : -16777300 ≤ kerP n k ∧ kerP n k ≤ 16777300 := by
 have := small_all ((2 * n + 17) * (2 * k + 1) % 128) (Nat.mod_lt _ (by omega))
 exact ⟨this.1, this.2.1⟩
theorem mul_bd {x y A B : Int} (hx1 : -A ≤ x) (hx2 : x ≤ A) (hy1 : -B ≤ y) (hy2 : y ≤ B) : -(A * B) ≤ x * y ∧ x * y ≤ A * B := by
 have hA : 0 ≤ A := by omega
 have hB : 0 ≤ B := by omega
 have h : (x * y).natAbs ≤ A.natAbs * B.natAbs := by
  rw [Int.natAbs_mul]
  exact Nat.mul_le_mul (by omega) (by omega)
 have e : ((A.natAbs * B.natAbs : Nat) : Int) = A * B := by
  rw [Int.natCast_mul, Int.natAbs_of_nonneg hA, Int.natAbs_of_nonneg hB]
 omega
def sumN (f : Nat → Int) : Nat → Int
 | 0 => 0
 | n + 1 => sumN f n + f n
theorem sumN_succ (f : Nat → Int) (n : Nat) : sumN f (n + 1) = sumN f n + f n := rfl
theorem sumN_bd (f : Nat → Int) (M : Int) : ∀ n : Nat, (∀ i, i < n → -M ≤ f i ∧ f i ≤ M) → -(M * (n : Int)) ≤ sumN f n ∧ sumN f n ≤ M * (n : Int)
 | 0, _ => by simp [sumN]
 | n + 1, h => by
  have ih := sumN_bd f M n fun i hi => h i (by omega)
  have h1 := h n (by omega)
  rw [sumN_succ, Int.natCast_add, Int.mul_add]
  simp only [Int.natCast_one, Int.mul_one]
  omega
theorem sumN_congr (f g : Nat → Int) : ∀ n : Nat, (∀ i, i < n → f i = g i) → sumN f n = sumN g n
 | 0, _ => rfl
 | n + 1, h => by rw [sumN_succ, sumN_succ, sumN_congr f g n fun i hi => h i (by omega), h n (by omega)]
theorem round_lit (v : Int) (b : Nat) (P H : Int) (hb : 1 ≤ b) (hb2 : b ≤ 62) (hP : ((2 ^ b : Nat) : Int) = P) (hH : ((2 ^ (b - 1) : Nat) : Int) = H) : roundI v (b : Int) = v / P + v / H % 2 := by
 unfold roundI
 rw [if_neg (by omega), if_neg (by omega), show ((b : Nat) : Int).toNat = b by omega, hP, hH]
theorem round16 (v : Int) : roundI v 16 = v / 65536 + v / 32768 % 2 := round_lit v 16 65536 32768 (by omega) (by omega) (by decide) (by decide)
theorem round20 (v : Int) : roundI v 20 = v / 1048576 + v / 524288 % 2 := round_lit v 20 1048576 524288 (by omega) (by omega) (by decide) (by decide)
theorem round27 (v : Int) : roundI v 27 = v / 134217728 + v / 67108864 % 2 := round_lit v 27 134217728 67108864 (by omega) (by omega) (by decide) (by decide)
theorem round28 (v : Int) : roundI v 28 = v / 268435456 + v / 134217728 % 2 := round_lit v 28 268435456 134217728 (by omega) (by omega) (by decide) (by decide)
def tab (n : Nat) (f : Nat → Int) : List Int := (List.range n).map f
theorem tab_length (n : Nat) (f : Nat → Int) : (tab n f).length = n := by rw [tab, List.length_map, List.length_range]
theorem tab_get {n : Nat} (f : Nat → Int) {i : Nat} (h : i < n) : (tab n f)[i]? = some (f i) := by
 unfold tab; rw [List.getElem?_map, List.getElem?_range h]; rfl
theorem tab_getD {n : Nat} (f : Nat → Int) {i : Nat} (h : i < n) : (tab n f).getD i 0 = f i := by
 rw [List.getD_eq_getElem?_getD, tab_get f h]; rfl
theorem tab_congr {n : Nat} {f g : Nat → Int} (h : ∀ i, i < n → f i = g i) : tab n f = tab n g := by
 unfold tab; exact List.map_congr_left fun i hi => h i (List.mem_range.1 hi)
theorem tab_set {n : Nat} {f g : Nat → Int} {j : Nat} {v : Int} (hv : v = g j) (h : ∀ i, i < n → i ≠ j → f i = g i) : (tab n f).set j v = tab n g := by
 refine List.ext_getElem? fun i => ?_
 rw [List.getElem?_set, tab_length]
 by_cases hi : i < n
 ·rw [tab_get f hi, tab_get g hi]
  by_cases k : j = i
  ·subst k; rw [if_pos rfl, if_pos hi, hv]
  ·rw [if_neg k, h i hi (Ne.symm k)]
 ·rw [List.getElem?_eq_none (by rw [tab_length]; omega), List.getElem?_eq_none (by rw [tab_length]; omega)]
  split
  ·rw [if_neg (by omega)]
  ·rfl
theorem tab_zero (n : Nat) : tab n (fun _ => 0) = zr n := by
 unfold tab zr
 exact List.map_const' ..|>.trans (by rw [List.length_range])
theorem tab_self {n : Nat} {xs : List Int} (h : xs.length = n) : tab n (fun i => xs.getD i 0) = xs := by
 refine List.ext_getElem (by rw [tab_length, h]) fun i h1 h2 => ?_
 have := tab_get (fun i => xs.getD i 0) (n := n) (i := i) (by omega)
 rw [List.getElem?_eq_getElem h1] at this
 injection this with this
 rw [this]
 simp [List.getD_eq_getElem?_getD, h2]
def part2 (k : Nat) (f g : Nat → Int) : Nat → Int := fun i => if i < k then f i else g i
theorem part2_set {n k : Nat} (f g : Nat → Int) : (tab n (part2 k f g)).set k (f k) = tab n (part2 (k + 1) f g) :=
 tab_set (by unfold part2; rw [if_pos (by omega)]) fun i _ hne => by
  unfold part2
  by_cases h : i < k
  ·rw [if_pos h, if_pos (by omega)]
  ·rw [if_neg h, if_neg (by omega)]
theorem part2_all {n : Nat} (f g : Nat → Int) : tab n (part2 n f g) = tab n f := tab_congr fun i hi => by unfold part2; rw [if_pos hi]
theorem part2_none (n : Nat) (f g : Nat → Int) : tab n (part2 0 f g) = tab n g := tab_congr fun i _ => by unfold part2; rw [if_neg (by omega)]
def inR (lo hi : Int) (zs : List Int) : Bool := decide (∀ k, k < zs.length → lo ≤ zs.getD k 0 ∧ zs.getD k 0 ≤ hi)
def smp (p q : List Int) (n : Nat) : Int := if n < 16 then p.getD n 0 else q.getD (n - 16) 0
def wgt (p q : List Int) (n : Nat) : Int := roundI (smp p q n * winP n) 16
def fwd (p q : List Int) (k : Nat) : Int := roundI (sumN (fun n => wgt p q n * kerP n k) 32) 28
def fwdL (p q : List Int) : List Int := tab 16 (fwd p q)
def mixN (x : List Int) (n : Nat) : Int := sumN (fun k => x.getD k 0 * kerP n k) 16
def inv (x : List Int) (n : Nat) : Int := roundI (roundI (mixN x n) 20 * winP n) 27
def invL (x : List Int) : List Int := tab 32 (inv x)
def lapN (t w : List Int) (i : Nat) : Int := satI (roundI (t.getD i 0 + w.getD i 0) 8) 16
def lapL (t w : List Int) : List Int := tab 16 (lapN t w)
def leftL (w : List Int) : List Int := tab 16 (fun i => w.getD (16 + i) 0)
def okP (p : List Int) : Bool := inR (-32768) 32767 p
def okX (x : List Int) : Bool := inR (-67108864) 67108864 x
def okW (w : List Int) : Bool := inR (-1099511627776) 1099511627776 w
def fwdV (p q : List Int) : Value := if okP p = true ∧ okP q = true then .tuple #[.agg (icells (fwdL p q)), .int .i64 0] else .tuple #[.agg (icells (zr 16)), .int .i64 1]
def invV (x : List Int) : Value := if okX x = true then .tuple #[.agg (icells (invL x)), .int .i64 0] else .tuple #[.agg (icells (zr 32)), .int .i64 1]
def lapV (t w : List Int) : Value := if okW t = true ∧ okW w = true then .tuple #[.agg (icells (lapL t w)), .agg (icells (leftL w)), .int .i64 0] else .tuple #[.agg (icells (zr 16)), .agg (icells (zr 16)), .int .i64 1]
def eng (x : List Int) : Int := if okX x = true then sumN (fun k => x.getD k 0 * x.getD k 0) 16 else 0
theorem inR_of {lo hi : Int} {zs : List Int} (h : inR lo hi zs = true) {k : Nat} (hk : k < zs.length) : lo ≤ zs.getD k 0 ∧ zs.getD k 0 ≤ hi := of_decide_eq_true h k hk
theorem inR_bd {lo hi : Int} {zs : List Int} (h : inR lo hi zs = true) (h0 : lo ≤ 0) (h1 : 0 ≤ hi) (k : Nat) : lo ≤ zs.getD k 0 ∧ zs.getD k 0 ≤ hi := by
 by_cases hk : k < zs.length
 ·exact inR_of h hk
 ·rw [List.getD_eq_getElem?_getD, List.getElem?_eq_none (by omega)]; exact ⟨h0, h1⟩
theorem inR_iff {lo hi : Int} {zs : List Int} {n : Nat} (hl : zs.length = n) : inR lo hi zs = true ↔ ∀ k, k < n → lo ≤ zs.getD k 0 ∧ zs.getD k 0 ≤ hi := by
 subst hl; unfold inR; rw [decide_eq_true_eq]
theorem smp_bd {p q : List Int} (hp : okP p = true) (hq : okP q = true) (n : Nat) : -32768 ≤ smp p q n ∧ smp p q n ≤ 32768 := by
 unfold smp
 have h1 := inR_bd hp (by omega) (by omega) n
 have h2 := inR_bd hq (by omega) (by omega) (n - 16)
 split <;> omega
theorem wgt_in {p q : List Int} (hp : okP p = true) (hq : okP q = true) {n : Nat} (hn : n < 32) : -549758566400 ≤ smp p q n * winP n ∧ smp p q n * winP n ≤ 549758566400 := by
 have h1 := smp_bd hp hq n
 have h2 := win_bd hn
 have := mul_bd (A := 32768) (B := 16777300) (by omega) h1.2 (by omega) h2.2
 omega
theorem wgt_bd {p q : List Int} (hp : okP p = true) (hq : okP q = true) {n : Nat} (hn : n < 32) : -8388700 ≤ wgt p q n ∧ wgt p q n ≤ 8388700 := by
 have := wgt_in hp hq hn
 unfold wgt
 rw [round16]
 omega
theorem fwd_term {p q : List Int} (hp : okP p = true) (hq : okP q = true) {n : Nat} (hn : n < 32) (k : Nat) : -140739737000000 ≤ wgt p q n * kerP n k ∧ wgt p q n * kerP n k ≤ 140739737000000 := by
 have h1 := wgt_bd hp hq hn
 have h2 := ker_bd n k
 have := mul_bd (A := 8388700) (B := 16777300) (by omega) h1.2 (by omega) h2.2
 omega
theorem fwd_sum {p q : List Int} (hp : okP p = true) (hq : okP q = true) (k j : Nat) (hj : j ≤ 32) : -4503671584000000 ≤ sumN (fun n => wgt p q n * kerP n k) j ∧ sumN (fun n => wgt p q n * kerP n k) j ≤ 4503671584000000 := by
 have := sumN_bd (fun n => wgt p q n * kerP n k) 140739737000000 j fun i hi => fwd_term hp hq (by omega) k
 omega
theorem mix_term {x : List Int} (hx : okX x = true) (n k : Nat) : -1125905544000000 ≤ x.getD k 0 * kerP n k ∧ x.getD k 0 * kerP n k ≤ 1125905544000000 := by
 have h1 := inR_bd hx (by omega) (by omega) k
 have h2 := ker_bd n k
 have := mul_bd (A := 67108864) (B := 16777300) (by omega) h1.2 (by omega) h2.2
 omega
theorem mix_sum {x : List Int} (hx : okX x = true) (n j : Nat) (hj : j ≤ 16) : -18014488704000000 ≤ sumN (fun k => x.getD k 0 * kerP n k) j ∧ sumN (fun k => x.getD k 0 * kerP n k) j ≤ 18014488704000000 := by
 have := sumN_bd (fun k => x.getD k 0 * kerP n k) 1125905544000000 j fun i hi => mix_term hx n i
 omega
theorem inv_mid {x : List Int} (hx : okX x = true) (n : Nat) : -17179967000 ≤ roundI (mixN x n) 20 ∧ roundI (mixN x n) 20 ≤ 17179967000 := by
 have := mix_sum hx n 16 (by omega)
 unfold mixN
 rw [round20]
 omega
theorem inv_in {x : List Int} (hx : okX x = true) {n : Nat} (hn : n < 32) : -288233460350000000 ≤ roundI (mixN x n) 20 * winP n ∧ roundI (mixN x n) 20 * winP n ≤ 288233460350000000 := by
 have h1 := inv_mid hx n
 have h2 := win_bd hn
 have := mul_bd (A := 17179967000) (B := 16777300) (by omega) h1.2 (by omega) h2.2
 omega
theorem inv_bd {x : List Int} (hx : okX x = true) {n : Nat} (hn : n < 32) : -2147507000 ≤ inv x n ∧ inv x n ≤ 2147507000 := by
 have := inv_in hx hn
 unfold inv
 rw [round27]
 omega
theorem okW_inv {x : List Int} (hx : okX x = true) : okW (invL x) = true := (inR_iff (tab_length 32 _)).2 fun k hk => by
 show _ ≤ (tab 32 (inv x)).getD k 0 ∧ (tab 32 (inv x)).getD k 0 ≤ _
 rw [tab_getD _ hk]
 have := inv_bd hx hk
 omega
theorem hold31_id {a : Int} (h1 : -2147483648 ≤ a) (h2 : a ≤ 2147483647) : hold31 a = a := by
 unfold hold31 holdI
 omega
theorem mulI_wgt {p q : List Int} (hp : okP p = true) (hq : okP q = true) {n : Nat} (hn : n < 32) : mulI (smp p q n) (winP n) 16 = wgt p q n := by
 have h1 := smp_bd hp hq n
 have h2 := win_bd hn
 unfold mulI wgt
 rw [hold31_id (by omega) (by omega), hold31_id (by omega) (by omega)]
theorem eng_term {x : List Int} (hx : okX x = true) (k : Nat) : 0 ≤ x.getD k 0 * x.getD k 0 ∧ x.getD k 0 * x.getD k 0 ≤ 4503599627370496 := by
 have h1 := inR_bd hx (by omega) (by omega) k
 have := mul_bd (A := 67108864) (B := 67108864) (by omega) h1.2 (by omega) h1.2
 refine ⟨?_, by omega⟩
 generalize x.getD k 0 = v
 rcases Int.le_total 0 v with g | g
 ·exact Int.mul_nonneg g g
 ·exact Int.mul_nonneg_of_nonpos_of_nonpos g g
theorem eng_sum {x : List Int} (hx : okX x = true) : ∀ j : Nat, j ≤ 16 → 0 ≤ sumN (fun k => x.getD k 0 * x.getD k 0) j ∧ sumN (fun k => x.getD k 0 * x.getD k 0) j ≤ 4503599627370496 * (j : Int)
 | 0, _ => by simp [sumN]
 | j + 1, h => by
  have ih := eng_sum hx j (by omega)
  have := eng_term hx j
  rw [sumN_succ]
  omega
theorem within_any (lo hi : Int) (A : Option Addr) (n c : Nat) (zs : List Int) (b : Bool) (w : World) (hr : Hid (RdI w A n zs)) (hn : n ≤ maxLen) (hb : inR lo hi zs = b) :
  Calls Tryz.prog 32 #[.int .i64 lo, .int .i64 hi, .slice A n c] w fun e w' => e = .returned (.bool b) ∧ w = w' := by
 have HI := Lib.hid (inR_iff (lo := lo) (hi := hi) hr.out.1)
 rw [hb] at HI
 clear hb
 unfold maxLen at hn
 go_enter Tryz.func32, Tryz.ntmps32
 go_wp2_with fail
 go_loop [11] (fun vi => ∃ k : Nat, vi = .int .i64 (k : Int) ∧ k ≤ n ∧ Hid (∀ j, j < k → lo ≤ zs.getD j 0 ∧ zs.getD j 0 ≤ hi)) (fun vi => n - (intOf vi).toNat)
 case atStart => exact ⟨0, rfl, by omega, Lib.hid (fun j hj => by omega)⟩
 case round =>
  obtain ⟨k, rfl, hk, HK⟩ := hrel
  by_cases hlt : k < n
  ·obtain ⟨ad, rfl, hlt2, hcell⟩ := hr.out.at_ hlt
   obtain ⟨x, hx⟩ : ∃ x, zs.getD k 0 = x := ⟨_, rfl⟩
   rw [hx] at hcell
   have HX := Lib.hid hx
   clear hx hlt2
   by_cases h1 : x < lo
   ·obtain rfl : b = false := by
     cases b with
     | false => rfl
     | true => have := HI.out.1 rfl k hlt; rw [HX.out] at this; omega
    go_wp2
    go_ret
    exact ⟨rfl, rfl⟩
   ·by_cases h2 : hi < x
    ·obtain rfl : b = false := by
      cases b with
      | false => rfl
      | true => have := HI.out.1 rfl k hlt; rw [HX.out] at this; omega
     go_wp2
     go_ret
     exact ⟨rfl, rfl⟩
    ·go_wp2
     go_round
     case rel =>
      refine ⟨k + 1, by go_num, by omega, Lib.hid fun j hj => ?_⟩
      by_cases hjk : j < k
      ·exact HK.out j hjk
      ·obtain rfl : j = k := by omega
       rw [HX.out]; omega
     case measure => simp [intOf]; omega
  ·obtain rfl : k = n := by omega
   obtain rfl : b = true := HI.out.2 HK.out
   go_wp2
   go_ret
   exact ⟨rfl, rfl⟩
theorem areNumbers_any (x : List Int) (b : Bool) (w : World) (hl : x.length = 16) (hb : okX x = b) :
  Calls Tryz.prog 119 #[.agg (icells x)] w fun e w' => e = .returned (.bool b) ∧ Below w.heap.size w w' := by
 have HL := Lib.hid hl
 have HB := Lib.hid hb
 have HM := Lib.hid (Mem.start w)
 clear hl hb
 go_enter Tryz.func119, Tryz.ntmps119
 go_wp2_with (first | (refine aNw ?_; first | (have q:dL HM = 0:=rfl;clear q HM;intro g1 u1 HM) | (have q:dL HM = 1:=rfl;clear q HM;intro g2 u2 HM) | (have q:dL HM = 2:=rfl;clear q HM;intro g3 u3 HM) | (have q:dL HM = 3:=rfl;clear q HM;intro g4 u4 HM)) | (refine aLo ?_) | (refine aSt ?_; clear HM; intro us HM; dsimp only [List.set] at HM) | (refine aZe ?_))
 refine (within_any _ _ _ 16 16 x b _ (Lib.hid (HM.out.rd (.head _) HL.out)) (by unfold maxLen; omega) HB.out).mono ?_
 rintro e w2 ⟨rfl, rfl⟩
 go_wp2
 go_ret
 exact ⟨rfl, HM.out.1⟩
theorem check_any (p : List Int) (b : Bool) (z : Int) (w : World) (hl : p.length = 16) (hb : okP p = b) (hz : z = if b = true then 0 else 1) :
  Calls Tryz.prog 13 #[.agg (icells p)] w fun e w' => e = .returned (.int .i64 z) ∧ Below w.heap.size w w' := by
 have HL := Lib.hid hl
 have HB := Lib.hid hb
 have HM := Lib.hid (Mem.start w)
 clear hl hb
 cases b with
 | true =>
  obtain rfl : z = 0 := by rw [hz]; rfl
  clear hz
  go_enter Tryz.func13, Tryz.ntmps13
  go_wp2_with (first | (refine aNw ?_; first | (have q:dL HM = 0:=rfl;clear q HM;intro g1 u1 HM) | (have q:dL HM = 1:=rfl;clear q HM;intro g2 u2 HM) | (have q:dL HM = 2:=rfl;clear q HM;intro g3 u3 HM) | (have q:dL HM = 3:=rfl;clear q HM;intro g4 u4 HM)) | (refine aLo ?_) | (refine aSt ?_; clear HM; intro us HM; dsimp only [List.set] at HM) | (refine aZe ?_))
  refine (within_any _ _ _ 16 16 p true _ (Lib.hid (HM.out.rd (.head _) HL.out)) (by unfold maxLen; omega) HB.out).mono ?_
  rintro e w2 ⟨rfl, rfl⟩
  go_wp2
  go_ret
  exact ⟨rfl, HM.out.1⟩
 | false =>
  obtain rfl : z = 1 := by rw [hz]; rfl
  clear hz
  go_enter Tryz.func13, Tryz.ntmps13
  go_wp2_with (first | (refine aNw ?_; first | (have q:dL HM = 0:=rfl;clear q HM;intro g1 u1 HM) | (have q:dL HM = 1:=rfl;clear q HM;intro g2 u2 HM) | (have q:dL HM = 2:=rfl;clear q HM;intro g3 u3 HM) | (have q:dL HM = 3:=rfl;clear q HM;intro g4 u4 HM)) | (refine aLo ?_) | (refine aSt ?_; clear HM; intro us HM; dsimp only [List.set] at HM) | (refine aZe ?_))
  refine (within_any _ _ _ 16 16 p false _ (Lib.hid (HM.out.rd (.head _) HL.out)) (by unfold maxLen; omega) HB.out).mono ?_
  rintro e w2 ⟨rfl, rfl⟩
  go_wp2
  go_ret
  exact ⟨rfl, HM.out.1⟩
theorem win_any (n : Nat) (z v : Int) (w : World) (hn : n < 32) (hz : z = (n : Int)) (hv : winP n = v) :
  Calls Tryz.prog 121 #[.int .i64 z] w fun e w' => e = .returned (.int .i64 v) ∧ Below w.heap.size w w' := by
 have HW := Lib.hid (window_any z)
 rw [show winT z = .tuple #[.int .i64 v, .int .i64 0] by
  unfold winT
  rw [if_pos ⟨by omega, by omega⟩, show pl (2 * z + 1) = 2 * n + 1 by unfold pl; omega]
  rw [← hv]; rfl] at HW
 clear hv hz
 go_enter Tryz.func121, Tryz.ntmps121
 go_wp2_with fail
 refine (HW.out _).mono ?_
 rintro e w2 ⟨rfl, h1⟩
 have H1 := Lib.hid h1
 clear h1
 go_wp2
 go_ret
 exact ⟨rfl, H1.out⟩
def rowP (k : Nat) : List Int := tab 32 (fun n => kerP n k)
theorem rowP_is (k : Nat) : rowI (k : Int) = rowP k := by
 unfold rowI rowP tab
 exact List.map_congr_left fun n _ => kerP_is n k
def RowQ2 (w : World) (xs : List Int) (e : Ending) (w' : World) : Prop := ∃ r, e = .returned (.tuple #[.slice (some ⟨r, 0, none⟩) 32 32, .int .i64 0]) ∧ w.heap.size ≤ r ∧ Blk w' r 3 (icells xs) ∧ Below w.heap.size w w'
theorem row_at (k : Int) (w : World) (h0 : 0 ≤ k) (h1 : k ≤ 15) : Calls Tryz.prog 168 #[.int .i64 k] w (RowQ2 w (rowI k)) := by
 have hmk : ∀ u : World, (Instr.makeSlice 23 (.int .i64 32) (.int .i64 32)).run Tryz.prog u = .ok (.slice (some ⟨u.heap.size, 0, none⟩) 32 32) (u.alloc (.cells (madeCells #[.int .i64 0] 32) 3)) := fun u =>
  run_make_row' (P := Tryz.prog) 23 3 (.int .i64 0) 8 Tryz.underlying23 info_intT rfl .i64 .i64 32 (by omega) (by omega) u
 go_enter Tryz.func168, Tryz.ntmps168
 go_wp2_with fail
 refine (isNumber_any k true _ (decide_eq_true ⟨h0, h1⟩)).mono ?_
 rintro e w1 ⟨rfl, rfl⟩
 go_wp2_with fail
 refine (newCircle_any _).mono ?_
 rintro e w1 ⟨rfl, hB, hb1⟩
 have HB := Lib.hid hB
 have HW := Lib.hid hb1
 clear hB hb1
 go_wp2_with fail
 have HS := Lib.hid (show RowS w1 w.heap.size w1.heap.size (rowK k 0) (w1.alloc (.cells (madeCells #[.int .i64 0] 32) 3)) from ⟨(Cs.fresh HB.out).below ((Below.refl w1.heap.size w1).alloc (Nat.le_refl _) _), by rw [rowK_none, ← icells_zero]; exact Blk.new _ _ _, HB.out.lt, Nat.le_refl _⟩)
 clear hmk
 generalize w1.alloc (.cells (madeCells #[.int .i64 0] 32) 3) = w2 at HS ⊢
 generalize w1.heap.size = r at HS ⊢
 obtain ⟨g, hg⟩ : ∃ g, g = w.heap.size := ⟨_, rfl⟩
 rw [← hg] at HS HB ⊢
 have HG := Lib.hid hg
 clear hg
 go_loopw [6, 14] (fun _ vi wr => ∃ j : Nat, j ≤ 32 ∧ vi = .int .i64 (j : Int) ∧ Hid (RowS w1 g r (rowK k j) wr)) (fun _ vi _ => 32 - (intOf vi).toNat)
 case atStart => exact ⟨0, by omega, rfl, HS⟩
 case round =>
  obtain ⟨j, hj, rfl, HR⟩ := hrel
  by_cases hlt : j < 32
  ·obtain ⟨z, hz⟩ : ∃ z, phI (j : Int) k = z := ⟨_, rfl⟩
   have HZ := Lib.hid hz
   obtain ⟨q1, q2⟩ := pl_is z
   have HV := Lib.hid (show cosP (pl z) = kerI (j : Int) k by unfold kerI; rw [hz])
   generalize pl z = n at q1 q2 HV
   have HQ1 := Lib.hid q1
   have HQ2 := Lib.hid q2
   have hi := run_at0 (cosP n) (sinP n)
   clear hz q1 q2
   go_wp2_with fail
   refine (phase_any (j : Int) k z _ (by omega) (by omega) h0 h1 HZ.out).mono ?_
   rintro e w3 ⟨rfl, rfl⟩
   go_wp2_with fail
   refine (rounded_any g n z wr HQ1.out HQ2.out (Lib.hid HR.out.1.self)).mono ?_
   rintro e w3 ⟨rfl, hQ⟩
   obtain ⟨c1, c2⟩ := HR.out.1.next hQ
   have hb3 := HR.out.2.1.only c2 (by have := HR.out.2.2.1; omega)
   have HC3 := Lib.hid c1
   have HB3 := Lib.hid hb3
   have c0 := blk_at hb3 (i := j) (by rw [rowK_length]; exact hlt)
   have f0 := Blk.frozen hb3 j
   have j32 : (j : Int) < 32 := by omega
   have HP := Lib.hid (show RowS w1 g r (rowK k (j + 1)) (w3.setCell ⟨r, j, none⟩ (.int .i64 (cosP n))) from by
    refine ⟨?_, ?_, HR.out.2.2⟩
    ·obtain ⟨kk, k1, k2, k3, k4⟩ := HC3.out
     exact ⟨kk, k1, k2, k3.far (p := ⟨r, j, none⟩) (by show g ≠ r; have := HR.out.2.2.1; omega) _, only_setCell k4 (p := ⟨r, j, none⟩) (.inr HR.out.2.2.2) _⟩
    ·have := blk_put HB3.out j (cosP n)
     rwa [HV.out, rowK_set k j hlt, ← HV.out] at this)
   clear hQ c1 c2 hb3 HR
   go_wp2
   go_roundw
   case rel => exact ⟨j + 1, by omega, by go_num, HP⟩
   case measure => simp [intOf]; omega
  ·obtain rfl : j = 32 := by omega
   rw [rowK_all] at HR
   go_wp2
   go_ret2
   exact ⟨r, rfl, (by have := HR.out.2.2.2; have := HW.out.size; have := HG.out; omega), HR.out.2.1, by rw [← HG.out]; have := HW.out; rw [← HG.out] at this; obtain ⟨kk, -, -, -, k4⟩ := HR.out.1; exact below_grown this k4 (Nat.le_refl _) (by have := HW.out.size; have := HG.out; omega)⟩
def RowPQ (w : World) (xs : List Int) (e : Ending) (w' : World) : Prop := ∃ r, e = .returned (.slice (some ⟨r, 0, none⟩) 32 32) ∧ w.heap.size ≤ r ∧ Blk w' r 3 (icells xs) ∧ Below w.heap.size w w'
theorem kernels_any (k : Nat) (z : Int) (w : World) (hk : k < 16) (hz : z = (k : Int)) :
  Calls Tryz.prog 142 #[.int .i64 z] w fun e w' => RowPQ w (rowP k) e w' := by
 have HW := Lib.hid (row_at z)
 rw [hz] at HW
 rw [rowP_is] at HW
 subst hz
 go_enter Tryz.func142, Tryz.ntmps142
 go_wp2_with fail
 refine (HW.out _ (by omega) (by omega)).mono ?_
 rintro e w2 ⟨r, rfl, hr, hB, h1⟩
 have HR := Lib.hid hr
 have H1 := Lib.hid h1
 have HB := Lib.hid hB
 clear h1 hB hr
 go_wp2
 go_ret
 exact ⟨r, rfl, HR.out, HB.out, H1.out⟩
theorem i64_w {x : Int} (h1 : -9223372036854775808 ≤ x) (h2 : x ≤ 9223372036854775807) : IntKind.i64.wrap x = x := IntWalk.i64_in _ (by omega)
def ShQ (w : World) (v : Int) (e : Ending) (w' : World) : Prop := e = .returned (.int .i64 v) ∧ Below w.heap.size w w'
theorem share_any (p q : List Int) (k : Nat) (w : World) (hp : okP p = true) (hq : okP q = true) (hk : k < 16) :
  Calls Tryz.prog 100 #[.agg (icells (tab 32 (wgt p q))), .int .i64 (k : Int)] w (ShQ w (sumN (fun n => wgt p q n * kerP n k) 32)) := by
 have HP := Lib.hid hp
 have HQ := Lib.hid hq
 have HM := Lib.hid (Mem.start w)
 have HK := Lib.hid (fun u => kernels_any k (k : Int) u hk rfl)
 clear hp hq
 go_enter Tryz.func100, Tryz.ntmps100
 go_wp2_with (first | (refine aNw ?_; first | (have q:dL HM = 0:=rfl;clear q HM;intro g1 u1 HM) | (have q:dL HM = 1:=rfl;clear q HM;intro g2 u2 HM) | (have q:dL HM = 2:=rfl;clear q HM;intro g3 u3 HM) | (have q:dL HM = 3:=rfl;clear q HM;intro g4 u4 HM)) | (refine aLo ?_) | (refine aSt ?_; clear HM; intro us HM; dsimp only [List.set] at HM) | (refine aZe ?_))
 refine (HK.out _).mono ?_
 rintro e w2 ⟨r, rfl, hr, hB, h1⟩
 have HM2 := Lib.hid (HM.out.add h1 hr hB)
 clear hr hB h1 HM HK
 go_wp2_with fail
 go_loop [5, 11] (fun vs vi => ∃ j : Nat, j ≤ 32 ∧ vi = .int .i64 (j : Int) ∧ vs = .int .i64 (sumN (fun n => wgt p q n * kerP n k) j)) (fun _ vi => 32 - (intOf vi).toNat)
 case atStart => exact ⟨0, by omega, rfl, rfl⟩
 case round =>
  obtain ⟨j, hj, rfl, rfl⟩ := hrel
  by_cases hlt : j < 32
  ·have c1 := HM2.out.cell (.head _) (k := j) (by rw [rowP, tab_length]; omega)
   have c2 := HM2.out.cell (.tail _ (.head _)) (k := j) (by rw [tab_length]; omega)
   rw [rowP, tab_getD _ hlt] at c1
   rw [tab_getD _ hlt] at c2
   have t1 := fwd_term HP.out HQ.out hlt k
   have t2 := fwd_sum HP.out HQ.out k j (by omega)
   have t3 := fwd_sum HP.out HQ.out k (j + 1) (by omega)
   rw [sumN_succ] at t3
   have HT := Lib.hid (show sumN (fun n => wgt p q n * kerP n k) (j + 1) = _ from sumN_succ _ _)
   generalize sumN (fun n => wgt p q n * kerP n k) j = S at t2 t3 HT ⊢
   generalize wgt p q j = x at c2 t1 t3 HT
   generalize kerP j k = y at c1 t1 t3 HT
   have e1 : IntKind.i64.wrap (x * y) = x * y := i64_w (by omega) (by omega)
   have e2 : IntKind.i64.wrap (S + x * y) = S + x * y := i64_w (by omega) (by omega)
   have j32 : (j : Int) < 32 := by omega
   have HJ := Lib.hid j32
   clear t1 t2 t3
   go_wp2
   go_round
   case rel => exact ⟨j + 1, by omega, by go_num, by rw [HT.out]⟩
   case measure => simp [intOf]; omega
  ·obtain rfl : j = 32 := by omega
   go_wp2
   go_ret
   exact ⟨rfl, HM2.out.1⟩
def AggQ (w : World) (xs : List Int) (e : Ending) (w' : World) : Prop := e = .returned (.agg (icells xs)) ∧ Below w.heap.size w w'
theorem smp_app {p q : List Int} (hp : p.length = 16) (hq : q.length = 16) : p ++ q = tab 32 (smp p q) := by
 refine List.ext_getElem? fun i => ?_
 by_cases h : i < 16
 ·rw [tab_get _ (by omega), List.getElem?_append_left (by omega), get_of_lt (by omega)]
  unfold smp
  rw [if_pos h]
 ·by_cases h2 : i < 32
  ·rw [tab_get _ (by omega), List.getElem?_append_right (by omega), hp, get_of_lt (by omega)]
   unfold smp
   rw [if_neg h]
  ·rw [List.getElem?_eq_none (by rw [List.length_append]; omega), List.getElem?_eq_none (by rw [tab_length]; omega)]
theorem weigh_any (p q : List Int) (w : World) (hp : okP p = true) (hq : okP q = true) (lp : p.length = 16) (lq : q.length = 16) :
  Calls Tryz.prog 99 #[.agg (icells p), .agg (icells q)] w (AggQ w (tab 32 (wgt p q))) := by
 have HP := Lib.hid hp
 have HQ := Lib.hid hq
 have LP := Lib.hid lp
 have LQ := Lib.hid lq
 have HM := Lib.hid (Mem.start w)
 clear hp hq lp lq
 go_enter Tryz.func99, Tryz.ntmps99
 go_wp2_with (first | (refine aNw ?_; first | (have q:dL HM = 0:=rfl;clear q HM;intro g1 u1 HM) | (have q:dL HM = 1:=rfl;clear q HM;intro g2 u2 HM) | (have q:dL HM = 2:=rfl;clear q HM;intro g3 u3 HM) | (have q:dL HM = 3:=rfl;clear q HM;intro g4 u4 HM) | (have q:dL HM = 4:=rfl;clear q HM;intro g5 u5 HM) | (have q:dL HM = 5:=rfl;clear q HM;intro g6 u6 HM) | (have q:dL HM = 6:=rfl;clear q HM;intro g7 u7 HM)) | (refine aLo ?_) | (refine aSt ?_; clear HM; intro us HM; dsimp only [List.set] at HM) | (refine aZe ?_))
 have hcp := run_copy_mem (HM.out.drew.get (.head _)) 0 16 32 16 (HM.out.drew.rd (.tail _ (.tail _ (.tail _ (.head _)))) LP.out) rfl (by rw [zr_length]; omega) (p ++ zr 16) (by simp [zr])
 go_region_with (fail)
 have HM2 := Lib.hid (HM.out.drew.row 0 rfl (p ++ zr 16))
 simp only [List.set_cons_zero] at HM2
 clear hcp HM
 generalize u4.drew.setRow g4 _ = u5 at HM2 ⊢
 go_wp2_with fail
 have hcp := run_copy_mem (HM2.out.drew.get (.head _)) 16 16 16 16 (HM2.out.drew.rd (.tail _ (.tail _ (.head _))) LQ.out) rfl (by rw [List.length_append, LP.out, zr_length]; omega) (p ++ q) (by
  rw [List.take_append_of_le_length (by rw [LP.out]; omega), List.take_of_length_le (by rw [LP.out]; omega), List.drop_eq_nil_of_le (by rw [List.length_append, LP.out, zr_length]; omega), List.append_nil])
 go_region_with (fail)
 have HM3 := Lib.hid (HM2.out.drew.row 0 rfl (p ++ q))
 simp only [List.set_cons_zero] at HM3
 clear hcp HM2
 rw [smp_app LP.out LQ.out] at HM3 ⊢
 generalize u5.drew.setRow g4 _ = u6 at HM3 ⊢
 have HM := HM3
 clear HM3
 have HL := Lib.hid (tab_length 32 (smp p q))
 go_wp2_with (first | (refine aNw ?_; first | (have q:dL HM = 0:=rfl;clear q HM;intro g1 u1 HM) | (have q:dL HM = 1:=rfl;clear q HM;intro g2 u2 HM) | (have q:dL HM = 2:=rfl;clear q HM;intro g3 u3 HM) | (have q:dL HM = 3:=rfl;clear q HM;intro g4 u4 HM) | (have q:dL HM = 4:=rfl;clear q HM;intro g5 u5 HM) | (have q:dL HM = 5:=rfl;clear q HM;intro g6 u6 HM) | (have q:dL HM = 6:=rfl;clear q HM;intro g7 u7 HM)) | (refine aLo ?_) | (refine aSt ?_; clear HM; intro us HM; dsimp only [List.set] at HM) | (refine aZe ?_))
 rw [← part2_none 32 (wgt p q) (smp p q)] at HM
 go_loopw [15] (fun vi wr => ∃ k : Nat, k ≤ 32 ∧ vi = .int .i64 (k : Int) ∧ Hid (Mem w [(g4, 173, tab 32 (part2 k (wgt p q) (smp p q))), (g3, 173, zr 32), (g2, 35, q), (g1, 35, p)] wr)) (fun vi _ => 32 - (intOf vi).toNat)
 case atStart => exact ⟨0, by omega, rfl, HM⟩
 case round =>
  clear HM
  obtain ⟨k, hk, rfl, HM⟩ := hrel
  by_cases hlt : k < 32
  ·have hix := run_index 173 (n := 32) (by kernel_rfl) (tab 32 (smp p q)) (tab_length _ _) k hlt
   rw [tab_getD _ hlt] at hix
   have HS := Lib.hid (part2_set (n := 32) (k := k) (wgt p q) (smp p q))
   have HW := Lib.hid (mulI_wgt HP.out HQ.out hlt)
   have HN := Lib.hid (fun u => win_any k (k : Int) (winP k) u hlt rfl rfl)
   have k32 : (k : Int) < 32 := by omega
   obtain ⟨v, hv⟩ : ∃ v, wgt p q k = v := ⟨_, rfl⟩
   rw [hv] at HS HW
   clear hv
   generalize smp p q k = x at hix HW
   generalize winP k = y at HN HW
   go_wp2_with fail
   refine (HN.out _).mono ?_
   rintro e w2 ⟨rfl, h1⟩
   have HM2 := Lib.hid (HM.out.below h1)
   clear h1 HM HN hix
   go_wp2_with fail
   refine (mul_any x y 16 _).mono ?_
   rw [HW.out]
   rintro e w3 ⟨rfl, rfl⟩
   have c1 := HM2.out.cell (.head _) (k := k) (by rw [tab_length]; exact hlt)
   have f1 := HM2.out.free (.head _) k
   generalize List.getD _ k 0 = z at c1
   go_wp2
   have HM3 := Lib.hid (HM2.out.put 0 rfl k v)
   simp only [List.set_cons_zero] at HM3
   rw [HS.out] at HM3
   clear HM2 c1 f1
   go_roundw
   case rel => exact ⟨k + 1, by omega, by go_num, HM3⟩
   case measure => simp [intOf]; omega
  ·obtain rfl : k = 32 := by omega
   rw [part2_all] at HM
   have HL2 := Lib.hid (tab_length 32 (wgt p q))
   go_wp2_with (first | (refine aNw ?_; first | (have q:dL HM = 0:=rfl;clear q HM;intro g1 u1 HM) | (have q:dL HM = 1:=rfl;clear q HM;intro g2 u2 HM) | (have q:dL HM = 2:=rfl;clear q HM;intro g3 u3 HM) | (have q:dL HM = 3:=rfl;clear q HM;intro g4 u4 HM) | (have q:dL HM = 4:=rfl;clear q HM;intro g5 u5 HM) | (have q:dL HM = 5:=rfl;clear q HM;intro g6 u6 HM) | (have q:dL HM = 6:=rfl;clear q HM;intro g7 u7 HM)) | (refine aLo ?_) | (refine aSt ?_; clear HM; intro us HM; dsimp only [List.set] at HM) | (refine aZe ?_))
   refine bodyPost_ret (v := .agg (icells (tab 32 (wgt p q)))) (res_one rfl _ rfl arrPair HM (.tail _ (.head _)) HL2) rfl ⟨rfl, HM.out.1⟩
def mxN (x : List Int) (k n : Nat) : Int := sumN (fun k => x.getD k 0 * kerP n k) k
theorem mix_any (x : List Int) (w : World) (hx : okX x = true) (lx : x.length = 16) :
  Calls Tryz.prog 120 #[.agg (icells x)] w (AggQ w (tab 32 (mixN x))) := by
 have HX := Lib.hid hx
 have LX := Lib.hid lx
 have HM := Lib.hid (Mem.start w)
 clear hx lx
 go_enter Tryz.func120, Tryz.ntmps120
 go_wp2_with (first | (refine aNw ?_; first | (have q:dL HM = 0:=rfl;clear q HM;intro g1 u1 HM) | (have q:dL HM = 1:=rfl;clear q HM;intro g2 u2 HM) | (have q:dL HM = 2:=rfl;clear q HM;intro g3 u3 HM) | (have q:dL HM = 3:=rfl;clear q HM;intro g4 u4 HM)) | (refine aLo ?_) | (refine aSt ?_; clear HM; intro us HM; dsimp only [List.set] at HM) | (refine aZe ?_))
 go_loopw [9] (fun vi wr => ∃ k : Nat, k ≤ 16 ∧ vi = .int .i64 (k : Int) ∧ Hid (Mem w [(g3, 111, tab 32 (mxN x k)), (g2, 111, zr 32), (g1, 89, x)] wr)) (fun vi _ => 16 - (intOf vi).toNat)
 case atStart => exact ⟨0, by omega, rfl, Lib.hid (by rw [show tab 32 (mxN x 0) = zr 32 from tab_zero 32]; exact HM.out)⟩
 case round =>
  clear HM
  obtain ⟨k, hk, rfl, HM⟩ := hrel
  by_cases hlt : k < 16
  ·have hix := run_index 89 (n := 16) (by kernel_rfl) x LX.out k hlt
   obtain ⟨z, hz⟩ : ∃ z, x.getD k 0 = z := ⟨_, rfl⟩
   rw [hz] at hix
   have HZ := Lib.hid hz
   clear hz
   have HK := Lib.hid (fun u => kernels_any k (k : Int) u hlt rfl)
   have k16 : (k : Int) < 16 := by omega
   go_wp2_with fail
   refine (HK.out _).mono ?_
   rintro e w2 ⟨r, rfl, hr, hB, h1⟩
   have HM2 := Lib.hid (HM.out.add h1 hr hB)
   rw [← part2_none 32 (mxN x (k + 1)) (mxN x k)] at HM2
   clear hr hB h1 HM HK hix
   have HK16 := Lib.hid k16
   clear k16
   go_wp2_with fail
   go_loopw [16] (fun vi wr => ∃ j : Nat, j ≤ 32 ∧ vi = .int .i64 (j : Int) ∧ Hid (Mem w [(r, 3, rowP k), (g3, 111, tab 32 (part2 j (mxN x (k + 1)) (mxN x k))), (g2, 111, zr 32), (g1, 89, x)] wr)) (fun vi _ => 32 - (intOf vi).toNat)
   case atStart => exact ⟨0, by omega, rfl, HM2⟩
   case round =>
    clear HM2
    obtain ⟨j, hj, rfl, HM⟩ := hrel
    by_cases hlj : j < 32
    ·have c1 := HM.out.cell (.head _) (k := j) (by rw [rowP, tab_length]; omega)
     have c2 := HM.out.cell (.tail _ (.head _)) (k := j) (by rw [tab_length]; omega)
     have f2 := HM.out.free (.tail _ (.head _)) j
     rw [rowP, tab_getD _ hlj] at c1
     rw [tab_getD _ hlj] at c2
     have t1 := mix_term HX.out j k
     have t2 := mix_sum HX.out j k (by omega)
     have t3 := mix_sum HX.out j (k + 1) (by omega)
     rw [sumN_succ] at t3
     have HS := Lib.hid (part2_set (n := 32) (k := j) (mxN x (k + 1)) (mxN x k))
     have HT := Lib.hid (show mxN x (k + 1) j = mxN x k j + x.getD k 0 * kerP j k from sumN_succ _ _)
     rw [show part2 j (mxN x (k + 1)) (mxN x k) j = mxN x k j by unfold part2; rw [if_neg (by omega)]] at c2
     change -18014488704000000 ≤ mxN x k j ∧ mxN x k j ≤ 18014488704000000 at t2
     change -18014488704000000 ≤ mxN x k j + x.getD k 0 * kerP j k ∧ mxN x k j + x.getD k 0 * kerP j k ≤ 18014488704000000 at t3
     rw [HT.out] at HS
     rw [HZ.out] at HS t1 t3
     clear HT
     generalize mxN x k j = S at t2 t3 HS c2
     generalize kerP j k = y at c1 t1 t3 HS
     have e1 : IntKind.i64.wrap (z * y) = z * y := i64_w (by omega) (by omega)
     have e2 : IntKind.i64.wrap (S + z * y) = S + z * y := i64_w (by omega) (by omega)
     have j32 : (j : Int) < 32 := by omega
     clear t1 t2 t3
     go_wp2
     have HM3 := Lib.hid (HM.out.put 1 rfl j (S + z * y))
     simp only [List.set_cons_succ, List.set_cons_zero] at HM3
     rw [HS.out] at HM3
     clear HM c1 c2 f2 e1 e2
     go_roundw
     case rel => exact ⟨j + 1, by omega, by go_num, HM3⟩
     case measure => simp [intOf]; omega
    ·obtain rfl : j = 32 := by omega
     rw [part2_all] at HM
     have HM3 := Lib.hid HM.out.tail
     clear HM
     go_wp2
     go_roundw
     case rel => exact ⟨k + 1, by omega, by go_num, HM3⟩
     case measure => simp [intOf]; omega
  ·obtain rfl : k = 16 := by omega
   have HL2 := Lib.hid (tab_length 32 (mxN x 16))
   go_wp2_with (first | (refine aNw ?_; first | (have q:dL HM = 0:=rfl;clear q HM;intro g1 u1 HM) | (have q:dL HM = 1:=rfl;clear q HM;intro g2 u2 HM) | (have q:dL HM = 2:=rfl;clear q HM;intro g3 u3 HM) | (have q:dL HM = 3:=rfl;clear q HM;intro g4 u4 HM)) | (refine aLo ?_) | (refine aSt ?_; clear HM; intro us HM; dsimp only [List.set] at HM) | (refine aZe ?_))
   refine bodyPost_ret (v := .agg (icells (tab 32 (mixN x)))) (res_one rfl _ rfl arrWave HM (.tail _ (.head _)) HL2) rfl ⟨rfl, HM.out.1⟩
def ValQ (w : World) (v : Value) (e : Ending) (w' : World) : Prop := e = .returned v ∧ Below w.heap.size w w'
theorem forward_bad (p q : List Int) (w : World) (lp : p.length = 16) (lq : q.length = 16) (h : ¬ (okP p = true ∧ okP q = true)) :
  Calls Tryz.prog 71 #[.agg (icells p), .agg (icells q)] w (ValQ w (.tuple #[.agg (icells (zr 16)), .int .i64 1])) := by
 have LP := Lib.hid lp
 have LQ := Lib.hid lq
 have HM := Lib.hid (Mem.start w)
 have HZ := Lib.hid (zr_length 16)
 cases hp : okP p with
 | false =>
  have HC := Lib.hid (fun u => check_any p false 1 u lp hp rfl)
  clear lp lq h hp
  go_enter Tryz.func71, Tryz.ntmps71
  go_wp2_with (first | (refine aNw ?_; first | (have q:dL HM = 0:=rfl;clear q HM;intro g1 u1 HM) | (have q:dL HM = 1:=rfl;clear q HM;intro g2 u2 HM) | (have q:dL HM = 2:=rfl;clear q HM;intro g3 u3 HM) | (have q:dL HM = 3:=rfl;clear q HM;intro g4 u4 HM)) | (refine aLo ?_) | (refine aSt ?_; clear HM; intro us HM; dsimp only [List.set] at HM) | (refine aZe ?_))
  refine (HC.out _).mono ?_
  rintro e w2 ⟨rfl, h1⟩
  replace HM := Lib.hid (HM.out.below h1)
  clear h1 HC
  go_wp2_with (first | (refine aNw ?_; first | (have q:dL HM = 0:=rfl;clear q HM;intro g1 u1 HM) | (have q:dL HM = 1:=rfl;clear q HM;intro g2 u2 HM) | (have q:dL HM = 2:=rfl;clear q HM;intro g3 u3 HM) | (have q:dL HM = 3:=rfl;clear q HM;intro g4 u4 HM)) | (refine aLo ?_) | (refine aSt ?_; clear HM; intro us HM; dsimp only [List.set] at HM) | (refine aZe ?_))
  refine bodyPost_ret (v := .tuple #[.agg (icells (zr 16)), .int .i64 1]) (res_two rfl _ rfl rfl arrSpec HM (.head _) HZ) rfl ⟨rfl, HM.out.1⟩
 | true =>
  have hq : okP q = false := by
   cases hq : okP q with
   | false => rfl
   | true => exact absurd ⟨hp, hq⟩ h
  have HC := Lib.hid (fun u => check_any p true 0 u lp hp rfl)
  have HD := Lib.hid (fun u => check_any q false 1 u lq hq rfl)
  clear lp lq h hp hq
  go_enter Tryz.func71, Tryz.ntmps71
  go_wp2_with (first | (refine aNw ?_; first | (have q:dL HM = 0:=rfl;clear q HM;intro g1 u1 HM) | (have q:dL HM = 1:=rfl;clear q HM;intro g2 u2 HM) | (have q:dL HM = 2:=rfl;clear q HM;intro g3 u3 HM) | (have q:dL HM = 3:=rfl;clear q HM;intro g4 u4 HM)) | (refine aLo ?_) | (refine aSt ?_; clear HM; intro us HM; dsimp only [List.set] at HM) | (refine aZe ?_))
  refine (HC.out _).mono ?_
  rintro e w2 ⟨rfl, h1⟩
  replace HM := Lib.hid (HM.out.below h1)
  clear h1 HC
  go_wp2_with (first | (refine aNw ?_; first | (have q:dL HM = 0:=rfl;clear q HM;intro g1 u1 HM) | (have q:dL HM = 1:=rfl;clear q HM;intro g2 u2 HM) | (have q:dL HM = 2:=rfl;clear q HM;intro g3 u3 HM) | (have q:dL HM = 3:=rfl;clear q HM;intro g4 u4 HM)) | (refine aLo ?_) | (refine aSt ?_; clear HM; intro us HM; dsimp only [List.set] at HM) | (refine aZe ?_))
  refine (HD.out _).mono ?_
  rintro e w3 ⟨rfl, h1⟩
  replace HM := Lib.hid (HM.out.below h1)
  clear h1 HD
  go_wp2_with (first | (refine aNw ?_; first | (have q:dL HM = 0:=rfl;clear q HM;intro g1 u1 HM) | (have q:dL HM = 1:=rfl;clear q HM;intro g2 u2 HM) | (have q:dL HM = 2:=rfl;clear q HM;intro g3 u3 HM) | (have q:dL HM = 3:=rfl;clear q HM;intro g4 u4 HM)) | (refine aLo ?_) | (refine aSt ?_; clear HM; intro us HM; dsimp only [List.set] at HM) | (refine aZe ?_))
  refine bodyPost_ret (v := .tuple #[.agg (icells (zr 16)), .int .i64 1]) (res_two rfl _ rfl rfl arrSpec HM (.head _) HZ) rfl ⟨rfl, HM.out.1⟩
theorem forward_good (p q : List Int) (w : World) (lp : p.length = 16) (lq : q.length = 16) (hp : okP p = true) (hq : okP q = true) :
  Calls Tryz.prog 71 #[.agg (icells p), .agg (icells q)] w (ValQ w (.tuple #[.agg (icells (fwdL p q)), .int .i64 0])) := by
 have HP := Lib.hid hp
 have HQ := Lib.hid hq
 have LP := Lib.hid lp
 have LQ := Lib.hid lq
 have HM := Lib.hid (Mem.start w)
 have HL := Lib.hid (tab_length 32 (wgt p q))
 have HC := Lib.hid (fun u => check_any p true 0 u lp hp rfl)
 have HD := Lib.hid (fun u => check_any q true 0 u lq hq rfl)
 have HW := Lib.hid (fun u => weigh_any p q u hp hq lp lq)
 clear lp lq hp hq
 go_enter Tryz.func71, Tryz.ntmps71
 go_wp2_with (first | (refine aNw ?_; first | (have q:dL HM = 0:=rfl;clear q HM;intro g1 u1 HM) | (have q:dL HM = 1:=rfl;clear q HM;intro g2 u2 HM) | (have q:dL HM = 2:=rfl;clear q HM;intro g3 u3 HM) | (have q:dL HM = 3:=rfl;clear q HM;intro g4 u4 HM) | (have q:dL HM = 4:=rfl;clear q HM;intro g5 u5 HM) | (have q:dL HM = 5:=rfl;clear q HM;intro g6 u6 HM)) | (refine aLo ?_) | (refine aSt ?_; clear HM; intro us HM; dsimp only [List.set] at HM) | (refine aZe ?_))
 refine (HC.out _).mono ?_
 rintro e w2 ⟨rfl, h1⟩
 replace HM := Lib.hid (HM.out.below h1)
 clear h1 HC
 go_wp2_with (first | (refine aNw ?_; first | (have q:dL HM = 0:=rfl;clear q HM;intro g1 u1 HM) | (have q:dL HM = 1:=rfl;clear q HM;intro g2 u2 HM) | (have q:dL HM = 2:=rfl;clear q HM;intro g3 u3 HM) | (have q:dL HM = 3:=rfl;clear q HM;intro g4 u4 HM) | (have q:dL HM = 4:=rfl;clear q HM;intro g5 u5 HM) | (have q:dL HM = 5:=rfl;clear q HM;intro g6 u6 HM)) | (refine aLo ?_) | (refine aSt ?_; clear HM; intro us HM; dsimp only [List.set] at HM) | (refine aZe ?_))
 refine (HD.out _).mono ?_
 rintro e w3 ⟨rfl, h1⟩
 replace HM := Lib.hid (HM.out.below h1)
 clear h1 HD
 go_wp2_with (first | (refine aNw ?_; first | (have q:dL HM = 0:=rfl;clear q HM;intro g1 u1 HM) | (have q:dL HM = 1:=rfl;clear q HM;intro g2 u2 HM) | (have q:dL HM = 2:=rfl;clear q HM;intro g3 u3 HM) | (have q:dL HM = 3:=rfl;clear q HM;intro g4 u4 HM) | (have q:dL HM = 4:=rfl;clear q HM;intro g5 u5 HM) | (have q:dL HM = 5:=rfl;clear q HM;intro g6 u6 HM)) | (refine aLo ?_) | (refine aSt ?_; clear HM; intro us HM; dsimp only [List.set] at HM) | (refine aZe ?_))
 refine (HW.out _).mono ?_
 rintro e w4 ⟨rfl, h1⟩
 replace HM := Lib.hid (HM.out.below h1)
 clear h1 HW
 go_wp2_with (first | (refine aNw ?_; first | (have q:dL HM = 0:=rfl;clear q HM;intro g1 u1 HM) | (have q:dL HM = 1:=rfl;clear q HM;intro g2 u2 HM) | (have q:dL HM = 2:=rfl;clear q HM;intro g3 u3 HM) | (have q:dL HM = 3:=rfl;clear q HM;intro g4 u4 HM) | (have q:dL HM = 4:=rfl;clear q HM;intro g5 u5 HM) | (have q:dL HM = 5:=rfl;clear q HM;intro g6 u6 HM)) | (refine aLo ?_) | (refine aSt ?_; clear HM; intro us HM; dsimp only [List.set] at HM) | (refine aZe ?_))
 go_loopw [21] (fun vi wr => ∃ k : Nat, k ≤ 16 ∧ vi = .int .i64 (k : Int) ∧ Hid (Mem w [(g5, 89, tab 16 (part2 k (fwd p q) (fun _ => 0))), (g4, 173, tab 32 (wgt p q)), (g3, 89, zr 16), (g2, 35, q), (g1, 35, p)] wr)) (fun vi _ => 16 - (intOf vi).toNat)
 case atStart => exact ⟨0, by omega, rfl, Lib.hid (by rw [part2_none, tab_zero]; exact HM.out)⟩
 case round =>
  clear HM
  obtain ⟨k, hk, rfl, HM⟩ := hrel
  by_cases hlt : k < 16
  ·have k16 : (k : Int) < 16 := by omega
   have HS := Lib.hid (part2_set (n := 16) (k := k) (fwd p q) (fun _ => 0))
   have HV := Lib.hid (show fwd p q k = roundI (sumN (fun n => wgt p q n * kerP n k) 32) 28 from rfl)
   have HH := Lib.hid (fun u => share_any p q k u HP.out HQ.out hlt)
   have t := fwd_sum HP.out HQ.out k 32 (by omega)
   generalize fwd p q k = v at HS HV
   generalize sumN (fun n => wgt p q n * kerP n k) 32 = S at HV HH t
   have HT := Lib.hid t
   clear t
   go_wp2_with (refine aLo ?_)
   refine (HH.out _).mono ?_
   rintro e w5 ⟨rfl, h1⟩
   have HM2 := Lib.hid (HM.out.below h1)
   clear h1 HM HH
   go_wp2_with fail
   refine (round_any S 28 _ (by have := HT.out; omega)).mono ?_
   rw [← HV.out]
   rintro e w6 ⟨rfl, rfl⟩
   have c1 := HM2.out.cell (.head _) (k := k) (by rw [tab_length]; exact hlt)
   have f1 := HM2.out.free (.head _) k
   generalize List.getD _ k 0 = z at c1
   go_wp2
   have HM3 := Lib.hid (HM2.out.put 0 rfl k v)
   simp only [List.set_cons_zero] at HM3
   rw [HS.out] at HM3
   clear HM2 c1 f1
   go_roundw
   case rel => exact ⟨k + 1, by omega, by go_num, HM3⟩
   case measure => simp [intOf]; omega
  ·obtain rfl : k = 16 := by omega
   rw [part2_all] at HM
   have HL2 := Lib.hid (tab_length 16 (fwd p q))
   go_wp2_with (first | (refine aNw ?_; first | (have q:dL HM = 0:=rfl;clear q HM;intro g1 u1 HM) | (have q:dL HM = 1:=rfl;clear q HM;intro g2 u2 HM) | (have q:dL HM = 2:=rfl;clear q HM;intro g3 u3 HM) | (have q:dL HM = 3:=rfl;clear q HM;intro g4 u4 HM) | (have q:dL HM = 4:=rfl;clear q HM;intro g5 u5 HM) | (have q:dL HM = 5:=rfl;clear q HM;intro g6 u6 HM)) | (refine aLo ?_) | (refine aSt ?_; clear HM; intro us HM; dsimp only [List.set] at HM) | (refine aZe ?_))
   refine bodyPost_ret (v := .tuple #[.agg (icells (fwdL p q)), .int .i64 0]) (res_two rfl _ rfl rfl arrSpec HM (.tail _ (.tail _ (.head _))) HL2) rfl ⟨rfl, HM.out.1⟩
theorem forward_any (p q : List Int) (w : World) (lp : p.length = 16) (lq : q.length = 16) :
  Calls Tryz.prog 71 #[.agg (icells p), .agg (icells q)] w (ValQ w (fwdV p q)) := by
 unfold fwdV
 by_cases h : okP p = true ∧ okP q = true
 ·rw [if_pos h]; exact forward_good p q w lp lq h.1 h.2
 ·rw [if_neg h]; exact forward_bad p q w lp lq h
theorem inverse_bad (x : List Int) (w : World) (lx : x.length = 16) (h : okX x = false) :
  Calls Tryz.prog 86 #[.agg (icells x)] w (ValQ w (.tuple #[.agg (icells (zr 32)), .int .i64 1])) := by
 have LX := Lib.hid lx
 have HM := Lib.hid (Mem.start w)
 have HZ := Lib.hid (zr_length 32)
 have HC := Lib.hid (fun u => areNumbers_any x false u lx h)
 clear lx h
 go_enter Tryz.func86, Tryz.ntmps86
 go_wp2_with (first | (refine aNw ?_; first | (have q:dL HM = 0:=rfl;clear q HM;intro g1 u1 HM) | (have q:dL HM = 1:=rfl;clear q HM;intro g2 u2 HM) | (have q:dL HM = 2:=rfl;clear q HM;intro g3 u3 HM) | (have q:dL HM = 3:=rfl;clear q HM;intro g4 u4 HM)) | (refine aLo ?_) | (refine aSt ?_; clear HM; intro us HM; dsimp only [List.set] at HM) | (refine aZe ?_))
 refine (HC.out _).mono ?_
 rintro e w2 ⟨rfl, h1⟩
 replace HM := Lib.hid (HM.out.below h1)
 clear h1 HC
 go_wp2_with (first | (refine aNw ?_; first | (have q:dL HM = 0:=rfl;clear q HM;intro g1 u1 HM) | (have q:dL HM = 1:=rfl;clear q HM;intro g2 u2 HM) | (have q:dL HM = 2:=rfl;clear q HM;intro g3 u3 HM) | (have q:dL HM = 3:=rfl;clear q HM;intro g4 u4 HM)) | (refine aLo ?_) | (refine aSt ?_; clear HM; intro us HM; dsimp only [List.set] at HM) | (refine aZe ?_))
 refine bodyPost_ret (v := .tuple #[.agg (icells (zr 32)), .int .i64 1]) (res_two rfl _ rfl rfl arrWave HM (.head _) HZ) rfl ⟨rfl, HM.out.1⟩
theorem inverse_good (x : List Int) (w : World) (lx : x.length = 16) (h : okX x = true) :
  Calls Tryz.prog 86 #[.agg (icells x)] w (ValQ w (.tuple #[.agg (icells (invL x)), .int .i64 0])) := by
 have HX := Lib.hid h
 have LX := Lib.hid lx
 have HM := Lib.hid (Mem.start w)
 have HL := Lib.hid (tab_length 32 (mixN x))
 have HC := Lib.hid (fun u => areNumbers_any x true u lx h)
 have HW := Lib.hid (fun u => mix_any x u h lx)
 clear lx h
 go_enter Tryz.func86, Tryz.ntmps86
 go_wp2_with (first | (refine aNw ?_; first | (have q:dL HM = 0:=rfl;clear q HM;intro g1 u1 HM) | (have q:dL HM = 1:=rfl;clear q HM;intro g2 u2 HM) | (have q:dL HM = 2:=rfl;clear q HM;intro g3 u3 HM) | (have q:dL HM = 3:=rfl;clear q HM;intro g4 u4 HM)) | (refine aLo ?_) | (refine aSt ?_; clear HM; intro us HM; dsimp only [List.set] at HM) | (refine aZe ?_))
 refine (HC.out _).mono ?_
 rintro e w2 ⟨rfl, h1⟩
 replace HM := Lib.hid (HM.out.below h1)
 clear h1 HC
 go_wp2_with (first | (refine aNw ?_; first | (have q:dL HM = 0:=rfl;clear q HM;intro g1 u1 HM) | (have q:dL HM = 1:=rfl;clear q HM;intro g2 u2 HM) | (have q:dL HM = 2:=rfl;clear q HM;intro g3 u3 HM) | (have q:dL HM = 3:=rfl;clear q HM;intro g4 u4 HM)) | (refine aLo ?_) | (refine aSt ?_; clear HM; intro us HM; dsimp only [List.set] at HM) | (refine aZe ?_))
 refine (HW.out _).mono ?_
 rintro e w4 ⟨rfl, h1⟩
 replace HM := Lib.hid (HM.out.below h1)
 clear h1 HW
 go_wp2_with (first | (refine aNw ?_; first | (have q:dL HM = 0:=rfl;clear q HM;intro g1 u1 HM) | (have q:dL HM = 1:=rfl;clear q HM;intro g2 u2 HM) | (have q:dL HM = 2:=rfl;clear q HM;intro g3 u3 HM) | (have q:dL HM = 3:=rfl;clear q HM;intro g4 u4 HM)) | (refine aLo ?_) | (refine aSt ?_; clear HM; intro us HM; dsimp only [List.set] at HM) | (refine aZe ?_))
 go_loopw [14] (fun vi wr => ∃ k : Nat, k ≤ 32 ∧ vi = .int .i64 (k : Int) ∧ Hid (Mem w [(g3, 111, tab 32 (part2 k (inv x) (mixN x))), (g2, 111, zr 32), (g1, 89, x)] wr)) (fun vi _ => 32 - (intOf vi).toNat)
 case atStart => exact ⟨0, by omega, rfl, Lib.hid (by rw [part2_none]; exact HM.out)⟩
 case round =>
  clear HM
  obtain ⟨k, hk, rfl, HM⟩ := hrel
  by_cases hlt : k < 32
  ·have k32 : (k : Int) < 32 := by omega
   have hix := run_index 111 (n := 32) (by kernel_rfl) (tab 32 (mixN x)) (tab_length _ _) k hlt
   rw [tab_getD _ hlt] at hix
   have HS := Lib.hid (part2_set (n := 32) (k := k) (inv x) (mixN x))
   have HV := Lib.hid (show inv x k = roundI (roundI (mixN x k) 20 * winP k) 27 from rfl)
   have t1 := mix_sum HX.out k 16 (by omega)
   change -18014488704000000 ≤ mixN x k ∧ mixN x k ≤ 18014488704000000 at t1
   have t2 := inv_in HX.out hlt
   have HN := Lib.hid (fun u => win_any k (k : Int) (winP k) u hlt rfl rfl)
   generalize inv x k = v at HS HV
   generalize mixN x k = S at HV hix t1 t2
   obtain ⟨R, hR⟩ : ∃ R, roundI S 20 = R := ⟨_, rfl⟩
   rw [hR] at HV t2
   have HR := Lib.hid hR
   generalize winP k = y at HN HV t2
   have HT1 := Lib.hid t1
   have HT2 := Lib.hid t2
   have e1 : IntKind.i64.wrap (R * y) = R * y := i64_w (by omega) (by omega)
   clear t1 t2 hR
   go_wp2_with fail
   refine (round_any S 20 _ (by have := HT1.out; omega)).mono ?_
   rw [HR.out]
   rintro e w5 ⟨rfl, rfl⟩
   go_wp2_with fail
   refine (HN.out _).mono ?_
   rintro e w6 ⟨rfl, h1⟩
   have HM2 := Lib.hid (HM.out.below h1)
   clear h1 HM HN hix
   go_wp2_with fail
   refine (round_any (R * y) 27 _ (by have := HT2.out; omega)).mono ?_
   rw [← HV.out]
   rintro e w7 ⟨rfl, rfl⟩
   have c1 := HM2.out.cell (.head _) (k := k) (by rw [tab_length]; exact hlt)
   have f1 := HM2.out.free (.head _) k
   generalize List.getD _ k 0 = z at c1
   go_wp2
   have HM3 := Lib.hid (HM2.out.put 0 rfl k v)
   simp only [List.set_cons_zero] at HM3
   rw [HS.out] at HM3
   clear HM2 c1 f1
   go_roundw
   case rel => exact ⟨k + 1, by omega, by go_num, HM3⟩
   case measure => simp [intOf]; omega
  ·obtain rfl : k = 32 := by omega
   rw [part2_all] at HM
   have HL2 := Lib.hid (tab_length 32 (inv x))
   go_wp2_with (first | (refine aNw ?_; first | (have q:dL HM = 0:=rfl;clear q HM;intro g1 u1 HM) | (have q:dL HM = 1:=rfl;clear q HM;intro g2 u2 HM) | (have q:dL HM = 2:=rfl;clear q HM;intro g3 u3 HM) | (have q:dL HM = 3:=rfl;clear q HM;intro g4 u4 HM)) | (refine aLo ?_) | (refine aSt ?_; clear HM; intro us HM; dsimp only [List.set] at HM) | (refine aZe ?_))
   refine bodyPost_ret (v := .tuple #[.agg (icells (invL x)), .int .i64 0]) (res_two rfl _ rfl rfl arrWave HM (.tail _ (.head _)) HL2) rfl ⟨rfl, HM.out.1⟩
theorem inverse_any (x : List Int) (w : World) (lx : x.length = 16) :
  Calls Tryz.prog 86 #[.agg (icells x)] w (ValQ w (invV x)) := by
 unfold invV
 by_cases h : okX x = true
 ·rw [if_pos h]; exact inverse_good x w lx h
 ·rw [if_neg h]; exact inverse_bad x w lx (by simpa using h)
theorem energy_any (x : List Int) (w : World) (lx : x.length = 16) :
  Calls Tryz.prog 101 #[.agg (icells x)] w (ValQ w (.int .u64 (eng x))) := by
 have LX := Lib.hid lx
 have HM := Lib.hid (Mem.start w)
 cases h : okX x with
 | false =>
  have HC := Lib.hid (fun u => areNumbers_any x false u lx h)
  have HV := Lib.hid (show eng x = 0 by unfold eng; rw [h]; rfl)
  clear lx h
  go_enter Tryz.func101, Tryz.ntmps101
  go_wp2_with (first | (refine aNw ?_; first | (have q:dL HM = 0:=rfl;clear q HM;intro g1 u1 HM) | (have q:dL HM = 1:=rfl;clear q HM;intro g2 u2 HM) | (have q:dL HM = 2:=rfl;clear q HM;intro g3 u3 HM) | (have q:dL HM = 3:=rfl;clear q HM;intro g4 u4 HM) | (have q:dL HM = 4:=rfl;clear q HM;intro g5 u5 HM) | (have q:dL HM = 5:=rfl;clear q HM;intro g6 u6 HM) | (have q:dL HM = 6:=rfl;clear q HM;intro g7 u7 HM) | (have q:dL HM = 7:=rfl;clear q HM;intro g8 u8 HM) | (have q:dL HM = 8:=rfl;clear q HM;intro g9 u9 HM) | (have q:dL HM = 9:=rfl;clear q HM;intro g10 u10 HM) | (have q:dL HM = 10:=rfl;clear q HM;intro g11 u11 HM) | (have q:dL HM = 11:=rfl;clear q HM;intro g12 u12 HM) | (have q:dL HM = 12:=rfl;clear q HM;intro g13 u13 HM) | (have q:dL HM = 13:=rfl;clear q HM;intro g14 u14 HM)) | (refine aLo ?_) | (refine aSt ?_; clear HM; intro us HM; dsimp only [List.set] at HM) | (refine aZe ?_))
  refine (HC.out _).mono ?_
  rintro e w2 ⟨rfl, h1⟩
  have HM2 := Lib.hid (HM.out.below h1)
  clear h1 HM HC
  go_wp2
  go_ret
  exact ⟨by rw [HV.out]; rfl, HM2.out.1⟩
 | true =>
  have HC := Lib.hid (fun u => areNumbers_any x true u lx h)
  have HX := Lib.hid h
  have HV := Lib.hid (show eng x = sumN (fun k => x.getD k 0 * x.getD k 0) 16 by unfold eng; rw [if_pos h])
  clear lx h
  go_enter Tryz.func101, Tryz.ntmps101
  go_wp2_with (first | (refine aNw ?_; first | (have q:dL HM = 0:=rfl;clear q HM;intro g1 u1 HM) | (have q:dL HM = 1:=rfl;clear q HM;intro g2 u2 HM) | (have q:dL HM = 2:=rfl;clear q HM;intro g3 u3 HM) | (have q:dL HM = 3:=rfl;clear q HM;intro g4 u4 HM) | (have q:dL HM = 4:=rfl;clear q HM;intro g5 u5 HM) | (have q:dL HM = 5:=rfl;clear q HM;intro g6 u6 HM) | (have q:dL HM = 6:=rfl;clear q HM;intro g7 u7 HM) | (have q:dL HM = 7:=rfl;clear q HM;intro g8 u8 HM) | (have q:dL HM = 8:=rfl;clear q HM;intro g9 u9 HM) | (have q:dL HM = 9:=rfl;clear q HM;intro g10 u10 HM) | (have q:dL HM = 10:=rfl;clear q HM;intro g11 u11 HM) | (have q:dL HM = 11:=rfl;clear q HM;intro g12 u12 HM) | (have q:dL HM = 12:=rfl;clear q HM;intro g13 u13 HM) | (have q:dL HM = 13:=rfl;clear q HM;intro g14 u14 HM)) | (refine aLo ?_) | (refine aSt ?_; clear HM; intro us HM; dsimp only [List.set] at HM) | (refine aZe ?_))
  refine (HC.out _).mono ?_
  rintro e w2 ⟨rfl, h1⟩
  replace HM := Lib.hid (HM.out.below h1)
  clear h1 HC
  go_wp2_with (refine aLo ?_)
  go_loop [3, 10] (fun vs vi => ∃ k : Nat, k ≤ 16 ∧ vi = .int .i64 (k : Int) ∧ vs = .int .u64 (sumN (fun k => x.getD k 0 * x.getD k 0) k)) (fun _ vi => 16 - (intOf vi).toNat)
  case atStart => exact ⟨0, by omega, rfl, rfl⟩
  case round =>
   obtain ⟨k, hk, rfl, rfl⟩ := hrel
   by_cases hlt : k < 16
   ·have hix := run_index 89 (n := 16) (by kernel_rfl) x LX.out k hlt
    have t1 := eng_term HX.out k
    have t2 := eng_sum HX.out k (by omega)
    have t3 := eng_sum HX.out (k + 1) (by omega)
    rw [sumN_succ] at t3
    have HT := Lib.hid (show sumN (fun k => x.getD k 0 * x.getD k 0) (k + 1) = _ from sumN_succ _ _)
    generalize sumN (fun k => x.getD k 0 * x.getD k 0) k = S at t2 t3 HT ⊢
    obtain ⟨z, hz⟩ : ∃ z, x.getD k 0 = z := ⟨_, rfl⟩
    rw [hz] at hix t1 t3 HT
    have e1 : IntKind.i64.wrap (z * z) = z * z := i64_w (by omega) (by omega)
    have e2 : IntKind.u64.wrap (z * z) = z * z := IntWalk.u64_in _ (by omega)
    have e3 : IntKind.u64.wrap (S + z * z) = S + z * z := IntWalk.u64_in _ (by omega)
    have k16 : (k : Int) < 16 := by omega
    clear t1 t2 t3 hz
    go_wp2
    go_round
    case rel => exact ⟨k + 1, by omega, by go_num, by rw [HT.out]⟩
    case measure => simp [intOf]; omega
   ·obtain rfl : k = 16 := by omega
    go_wp2
    go_ret
    exact ⟨by rw [HV.out]; rfl, HM.out.1⟩
def ic (xs : List Int) : List Value := xs.map fun x => Value.int .i64 x
theorem ic_length (xs : List Int) : (ic xs).length = xs.length := by rw [ic, List.length_map]
section
variable {w0 w : World} {L : List (Nat × TypeId × List Int)} {g n : Nat} {T : TypeId} {xs : List Int}
theorem Mem.range (h : Mem w0 L w) (hm : (g, T, xs) ∈ L) : w.rangeAt g 0 (ic xs) := fun j v hv => by
 rw [Nat.zero_add, (h.get hm).cell]
 rw [ic] at hv
 simpa [icells] using hv
theorem Mem.there (h : Mem w0 L w) (hm : (g, T, xs) ∈ L) (hl : xs.length = n) : w.there g 0 n := fun j hj => by
 rw [Nat.zero_add]
 refine ⟨?_, h.free hm j⟩
 rw [h.cell hm (by omega)]; rfl
theorem Mem.ne (h : Mem w0 L w) {i j : Nat} {a b : Nat × TypeId × List Int} (hi : L[i]? = some a) (hj : L[j]? = some b) (hij : i ≠ j) : a.1 ≠ b.1 := pw_ne h.2.2.2 hi hj hij
end
section
variable {ops : Array Oper} {o : Oper} {a : Act} {w w0 : World} {Q : Exit → Act → World → Prop} {K : Act → World → Prop} {L : List (Nat × TypeId × List Int)} {S : World → Prop}
theorem yi_load (hw : Region.wanted o (yielded ops a.tmps) = true) (T : TypeId) (x : Operand) (ho : o.op = .load T x) {g n : Nat} (hx : a.eval x = .pointer (some ⟨g, 0, none⟩)) (ha : Arr T n) {xs : List Int}
  (hS : ∀ u, S u → Mem w0 L u) (hin : (g, T, xs) ∈ L) (hl : Hid (xs.length = n)) : YieldsIf Tryz.prog ops S o (.agg (icells xs)) a :=
 .inl ⟨hw, fun u hu => by
  unfold execOp
  simp only [ho, hx, Instr.loadAt, Instr.sureAddr, Sem.run_bind, Sem.run_pure, Result.andThen_ok, run_load_mem ha (hS u hu) hin hl.out]⟩
theorem yi_cell (hw : Region.wanted o (yielded ops a.tmps) = true) (x : Operand) (ho : o.op = .load 3 x) {ad : Addr} (hx : a.eval x = .pointer (some ad)) {v : Int}
  (hS : ∀ u, S u → u.cell? ad = some (.int .i64 v)) : YieldsIf Tryz.prog ops S o (.int .i64 v) a :=
 .inl ⟨hw, fun u hu => by
  have hg : (isAgg 3).run Tryz.prog u = .ok false u := by kernel_rfl
  unfold execOp
  simp only [ho, hx, Instr.loadAt, Instr.sureAddr, Sem.run_bind, Sem.run_pure, Result.andThen_ok, loadVar, hg, run_load, hS u hu, Bool.false_eq_true, if_false]⟩
theorem yi_free (hw : Region.wanted o (yielded ops a.tmps) = true) {v : Value} (h : ∀ u, (execOp a.eval o).run Tryz.prog u = .ok (.value v) u) : YieldsIf Tryz.prog ops S o v a := .inl ⟨hw, fun u _ => h u⟩
theorem wa_take {md : Region.Mode} {i d : Nat} {oi : Oper} {v : Value} {fuel : Nat} {listed : Array Bool} (hi : ops[i]? = some oi)
  (hs : Region.noSelect ops = true) (hf : Region.free md ops listed i = true) (hr : (Region.ready md ops listed).contains i = true)
  (hQ : ∀ c a w, Q (.panic c) (a.put oi.dst v) w → Q (.panic c) a w) (hy : YieldsIf Tryz.prog ops S oi v a) (hS : S w) (hd : oi.dst = some d)
  (h : wpAnyH Tryz.prog md ops Q S fuel (listed.setIfInBounds i true) (a.put (some d) v) w) : wpAnyH Tryz.prog md ops Q S (fuel + 1) listed a w :=
 wpAnyH_take hi hs hf hr hQ hy hS (by rw [hd]; exact h)
theorem tk {v : Value} {ops : Array Oper} {a : Act} {w : World} {Q : Exit → Act → World → Prop} {S : World → Prop} {md : Region.Mode} {d : Nat} {oi : Oper} {fuel : Nat} {listed : Array Bool} {r : Prop} (i : Nat) (hi : ops[i]? = some oi) (hy : YieldsIf Tryz.prog ops S oi v a) (k : r) (hs : Region.noSelect ops = true := by kernel_rfl) (hf : Region.free md ops listed i = true := by kernel_rfl) (hr : (Region.ready md ops listed).contains i = true := by kernel_rfl) (hQ : ∀ c a w, Q (.panic c) (a.put oi.dst v) w → Q (.panic c) a w := by exact fun _ _ _ h => h) (hS : S w := by exact hHeld) (hd : oi.dst = some d := by rfl) (h : Arm r → wpAnyH Tryz.prog md ops Q S fuel (listed.setIfInBounds i true) (a.put (some d) v) w := by intro hk; (try simp only [Act.put, List.setIfInBounds_toArray, List.set_cons_zero, List.set_cons_succ]); exact hk.out) : wpAnyH Tryz.prog md ops Q S (fuel + 1) listed a w := wa_take hi hs hf hr hQ hy hS hd (h ⟨k⟩)
theorem tkv {ops : Array Oper} {a : Act} {w : World} {Q : Exit → Act → World → Prop} {S : World → Prop} {md : Region.Mode} {d : Nat} {oi : Oper} {fuel : Nat} {listed : Array Bool} {r : Prop} (i : Nat) (v : Value) (hi : ops[i]? = some oi) (k : r) (hw : Region.wanted oi (yielded ops a.tmps) = true := by rfl) (hy : ∀ u, (execOp a.eval oi).run Tryz.prog u = .ok (.value v) u := by exact fun u => rfl) (hs : Region.noSelect ops = true := by kernel_rfl) (hf : Region.free md ops listed i = true := by kernel_rfl) (hr : (Region.ready md ops listed).contains i = true := by kernel_rfl) (hQ : ∀ c a w, Q (.panic c) (a.put oi.dst v) w → Q (.panic c) a w := by exact fun _ _ _ h => h) (hS : S w := by exact hHeld) (hd : oi.dst = some d := by rfl) (h : Arm r → wpAnyH Tryz.prog md ops Q S fuel (listed.setIfInBounds i true) (a.put (some d) v) w := by intro hk; (try simp only [Act.put, List.setIfInBounds_toArray, List.set_cons_zero, List.set_cons_succ]); exact hk.out) : wpAnyH Tryz.prog md ops Q S (fuel + 1) listed a w := wa_take hi hs hf hr hQ (yi_free hw hy) hS hd (h ⟨k⟩)
theorem tkg {ops : Array Oper} {a : Act} {w : World} {Q : Exit → Act → World → Prop} {S : World → Prop} {md : Region.Mode} {d : Nat} {oi : Oper} {fuel : Nat} {listed : Array Bool} {r : Prop} (i : Nat) (v : Value) (hi : ops[i]? = some oi) (k : r) (hw : Region.wanted oi (yielded ops a.tmps) = true := by rfl) (hy : ∀ u, (execOp a.eval oi).run Tryz.prog u = .ok (.value v) u := by exact fun u => by go_simp) (hs : Region.noSelect ops = true := by kernel_rfl) (hf : Region.free md ops listed i = true := by kernel_rfl) (hr : (Region.ready md ops listed).contains i = true := by kernel_rfl) (hQ : ∀ c a w, Q (.panic c) (a.put oi.dst v) w → Q (.panic c) a w := by exact fun _ _ _ h => h) (hS : S w := by exact hHeld) (hd : oi.dst = some d := by rfl) (h : Arm r → wpAnyH Tryz.prog md ops Q S fuel (listed.setIfInBounds i true) (a.put (some d) v) w := by intro hk; (try simp only [Act.put, List.setIfInBounds_toArray, List.set_cons_zero, List.set_cons_succ]); exact hk.out) : wpAnyH Tryz.prog md ops Q S (fuel + 1) listed a w := wa_take hi hs hf hr hQ (yi_free hw hy) hS hd (h ⟨k⟩)
theorem tks {ops : Array Oper} {a : Act} {w : World} {Q : Exit → Act → World → Prop} {S : World → Prop} {md : Region.Mode} {d : Nat} {oi : Oper} {fuel : Nat} {listed : Array Bool} {r : Prop} (i : Nat) (hi : ops[i]? = some oi) (k : r) (hw : Region.wanted oi (yielded ops a.tmps) = false := by rfl) (hs : Region.noSelect ops = true := by kernel_rfl) (hf : Region.free md ops listed i = true := by kernel_rfl) (hr : (Region.ready md ops listed).contains i = true := by kernel_rfl) (hQ : ∀ c a w, Q (.panic c) (a.put oi.dst undef) w → Q (.panic c) a w := by exact fun _ _ _ h => h) (hS : S w := by exact hHeld) (hd : oi.dst = some d := by rfl) (h : Arm r → wpAnyH Tryz.prog md ops Q S fuel (listed.setIfInBounds i true) (a.put (some d) undef) w := by intro hk; (try simp only [Act.put, List.setIfInBounds_toArray, List.set_cons_zero, List.set_cons_succ]); exact hk.out) : wpAnyH Tryz.prog md ops Q S (fuel + 1) listed a w := wa_take hi hs hf hr hQ (.inr ⟨hw, rfl⟩) hS hd (h ⟨k⟩)
theorem ow_store (T : TypeId) (x y : Operand) (ho : o.op = .store T x y) {g n : Nat} (hx : a.eval x = .pointer (some ⟨g, 0, none⟩)) {ys : List Int} (hy : a.eval y = .agg (icells ys)) (ha : Arr T n) {xs : List Int}
  (hm : Hid (Mem w0 L w)) (i : Nat) (hi : L[i]? = some (g, T, xs)) (hl : Hid (xs.length = n)) (hl' : Hid (ys.length = n))
  (hd : o.dst = none) (h : ∀ w', Hid (Mem w0 (L.set i (g, T, ys)) w') → K (a.put none undef) w') : o.wp Tryz.prog a w K Q := by
 rw [← hd] at h
 have := h _ (Lib.hid (hm.out.row i hi ys))
 unfold Oper.wp execOp
 simp only [ho, hx, hy, Instr.storeAt, Instr.sureAddr, Sem.run_bind, Sem.run_pure, Result.andThen_ok, run_store_mem ha hm.out (List.mem_of_getElem? hi) hl.out hl'.out]
 exact this
end
theorem lap_bad (t v : List Int) (w : World) (lt : t.length = 16) (lv : v.length = 32) (h : ¬ (okW t = true ∧ okW v = true)) :
  Calls Tryz.prog 58 #[.agg (icells t), .agg (icells v)] w (ValQ w (.tuple #[.agg (icells (zr 16)), .agg (icells (zr 16)), .int .i64 1])) := by
 have LT := Lib.hid lt
 have LV := Lib.hid lv
 have HM := Lib.hid (Mem.start w)
 have HZ := Lib.hid (zr_length 16)
 cases hp : okW t with
 | false =>
  have HP := Lib.hid hp
  clear lt lv h hp
  go_enter Tryz.func58, Tryz.ntmps58
  go_wp2_with (first | (refine aNw ?_; first | (have q:dL HM = 0:=rfl;clear q HM;intro g1 u1 HM) | (have q:dL HM = 1:=rfl;clear q HM;intro g2 u2 HM) | (have q:dL HM = 2:=rfl;clear q HM;intro g3 u3 HM) | (have q:dL HM = 3:=rfl;clear q HM;intro g4 u4 HM)) | (refine aLo ?_) | (refine aSt ?_; clear HM; intro us HM; dsimp only [List.set] at HM) | (refine aZe ?_))
  refine (within_any _ _ _ 16 16 t false _ (Lib.hid (HM.out.rd (by exact q7e) LT.out)) (by unfold maxLen; omega) HP.out).mono ?_
  rintro e w2 ⟨rfl, rfl⟩
  go_wp2_with (first | (refine aNw ?_; first | (have q:dL HM = 0:=rfl;clear q HM;intro g1 u1 HM) | (have q:dL HM = 1:=rfl;clear q HM;intro g2 u2 HM) | (have q:dL HM = 2:=rfl;clear q HM;intro g3 u3 HM) | (have q:dL HM = 3:=rfl;clear q HM;intro g4 u4 HM)) | (refine aLo ?_) | (refine aSt ?_; clear HM; intro us HM; dsimp only [List.set] at HM) | (refine aZe ?_))
  refine bodyPost_ret (v := .tuple #[.agg (icells (zr 16)), .agg (icells (zr 16)), .int .i64 1]) (res_three rfl _ rfl rfl rfl arrPcm arrTail HM (by exact q7e) (by exact q7e) HZ HZ) rfl ⟨rfl, HM.out.1⟩
 | true =>
  have hq : okW v = false := by
   cases hq : okW v with
   | false => rfl
   | true => exact absurd ⟨hp, hq⟩ h
  have HP := Lib.hid hp
  have HQ := Lib.hid hq
  clear lt lv h hp hq
  go_enter Tryz.func58, Tryz.ntmps58
  go_wp2_with (first | (refine aNw ?_; first | (have q:dL HM = 0:=rfl;clear q HM;intro g1 u1 HM) | (have q:dL HM = 1:=rfl;clear q HM;intro g2 u2 HM) | (have q:dL HM = 2:=rfl;clear q HM;intro g3 u3 HM) | (have q:dL HM = 3:=rfl;clear q HM;intro g4 u4 HM)) | (refine aLo ?_) | (refine aSt ?_; clear HM; intro us HM; dsimp only [List.set] at HM) | (refine aZe ?_))
  refine (within_any _ _ _ 16 16 t true _ (Lib.hid (HM.out.rd (by exact q7e) LT.out)) (by unfold maxLen; omega) HP.out).mono ?_
  rintro e w2 ⟨rfl, rfl⟩
  go_wp2_with (first | (refine aNw ?_; first | (have q:dL HM = 0:=rfl;clear q HM;intro g1 u1 HM) | (have q:dL HM = 1:=rfl;clear q HM;intro g2 u2 HM) | (have q:dL HM = 2:=rfl;clear q HM;intro g3 u3 HM) | (have q:dL HM = 3:=rfl;clear q HM;intro g4 u4 HM)) | (refine aLo ?_) | (refine aSt ?_; clear HM; intro us HM; dsimp only [List.set] at HM) | (refine aZe ?_))
  refine (within_any _ _ _ 32 32 v false _ (Lib.hid (HM.out.rd (by exact q7e) LV.out)) (by unfold maxLen; omega) HQ.out).mono ?_
  rintro e w2 ⟨rfl, rfl⟩
  go_wp2_with (first | (refine aNw ?_; first | (have q:dL HM = 0:=rfl;clear q HM;intro g1 u1 HM) | (have q:dL HM = 1:=rfl;clear q HM;intro g2 u2 HM) | (have q:dL HM = 2:=rfl;clear q HM;intro g3 u3 HM) | (have q:dL HM = 3:=rfl;clear q HM;intro g4 u4 HM)) | (refine aLo ?_) | (refine aSt ?_; clear HM; intro us HM; dsimp only [List.set] at HM) | (refine aZe ?_))
  refine bodyPost_ret (v := .tuple #[.agg (icells (zr 16)), .agg (icells (zr 16)), .int .i64 1]) (res_three rfl _ rfl rfl rfl arrPcm arrTail HM (by exact q7e) (by exact q7e) HZ HZ) rfl ⟨rfl, HM.out.1⟩
theorem leftL_is {v : List Int} (lv : v.length = 32) : v.drop 16 = leftL v := by
 refine List.ext_getElem? fun i => ?_
 rw [List.getElem?_drop]
 unfold leftL
 by_cases h : i < 16
 ·rw [tab_get _ h, get_of_lt (by omega)]
 ·rw [List.getElem?_eq_none (by omega), List.getElem?_eq_none (by rw [tab_length]; omega)]
theorem lap_term {t v : List Int} (ht : okW t = true) (hv : okW v = true) (i : Nat) : -2199023255552 ≤ t.getD i 0 + v.getD i 0 ∧ t.getD i 0 + v.getD i 0 ≤ 2199023255552 := by
 have h1 := inR_bd ht (by omega) (by omega) i
 have h2 := inR_bd hv (by omega) (by omega) i
 omega
theorem lap_good (t v : List Int) (w : World) (lt : t.length = 16) (lv : v.length = 32) (ht : okW t = true) (hv : okW v = true) :
  Calls Tryz.prog 58 #[.agg (icells t), .agg (icells v)] w (ValQ w (.tuple #[.agg (icells (lapL t v)), .agg (icells (leftL v)), .int .i64 0])) := by
 have LT := Lib.hid lt
 have LV := Lib.hid lv
 have HP := Lib.hid ht
 have HQ := Lib.hid hv
 have HM := Lib.hid (Mem.start w)
 clear lt lv ht hv
 go_enter Tryz.func58, Tryz.ntmps58
 go_wp2_with (first | (refine aNw ?_; first | (have q:dL HM = 0:=rfl;clear q HM;intro g1 u1 HM) | (have q:dL HM = 1:=rfl;clear q HM;intro g2 u2 HM) | (have q:dL HM = 2:=rfl;clear q HM;intro g3 u3 HM) | (have q:dL HM = 3:=rfl;clear q HM;intro g4 u4 HM) | (have q:dL HM = 4:=rfl;clear q HM;intro g5 u5 HM) | (have q:dL HM = 5:=rfl;clear q HM;intro g6 u6 HM) | (have q:dL HM = 6:=rfl;clear q HM;intro g7 u7 HM) | (have q:dL HM = 7:=rfl;clear q HM;intro g8 u8 HM) | (have q:dL HM = 8:=rfl;clear q HM;intro g9 u9 HM) | (have q:dL HM = 9:=rfl;clear q HM;intro g10 u10 HM)) | (refine aLo ?_) | (refine aSt ?_; clear HM; intro us HM; dsimp only [List.set] at HM) | (refine aZe ?_))
 refine (within_any _ _ _ 16 16 t true _ (Lib.hid (HM.out.rd (by exact q7e) LT.out)) (by unfold maxLen; omega) HP.out).mono ?_
 rintro e w2 ⟨rfl, rfl⟩
 go_wp2_with (first | (refine aNw ?_; first | (have q:dL HM = 0:=rfl;clear q HM;intro g1 u1 HM) | (have q:dL HM = 1:=rfl;clear q HM;intro g2 u2 HM) | (have q:dL HM = 2:=rfl;clear q HM;intro g3 u3 HM) | (have q:dL HM = 3:=rfl;clear q HM;intro g4 u4 HM) | (have q:dL HM = 4:=rfl;clear q HM;intro g5 u5 HM) | (have q:dL HM = 5:=rfl;clear q HM;intro g6 u6 HM) | (have q:dL HM = 6:=rfl;clear q HM;intro g7 u7 HM) | (have q:dL HM = 7:=rfl;clear q HM;intro g8 u8 HM) | (have q:dL HM = 8:=rfl;clear q HM;intro g9 u9 HM) | (have q:dL HM = 9:=rfl;clear q HM;intro g10 u10 HM)) | (refine aLo ?_) | (refine aSt ?_; clear HM; intro us HM; dsimp only [List.set] at HM) | (refine aZe ?_))
 refine (within_any _ _ _ 32 32 v true _ (Lib.hid (HM.out.rd (by exact q7e) LV.out)) (by unfold maxLen; omega) HQ.out).mono ?_
 rintro e w2 ⟨rfl, rfl⟩
 go_wp2_with (first | (refine aNw ?_; first | (have q:dL HM = 0:=rfl;clear q HM;intro g1 u1 HM) | (have q:dL HM = 1:=rfl;clear q HM;intro g2 u2 HM) | (have q:dL HM = 2:=rfl;clear q HM;intro g3 u3 HM) | (have q:dL HM = 3:=rfl;clear q HM;intro g4 u4 HM) | (have q:dL HM = 4:=rfl;clear q HM;intro g5 u5 HM) | (have q:dL HM = 5:=rfl;clear q HM;intro g6 u6 HM) | (have q:dL HM = 6:=rfl;clear q HM;intro g7 u7 HM) | (have q:dL HM = 7:=rfl;clear q HM;intro g8 u8 HM) | (have q:dL HM = 8:=rfl;clear q HM;intro g9 u9 HM) | (have q:dL HM = 9:=rfl;clear q HM;intro g10 u10 HM)) | (refine aLo ?_) | (refine aSt ?_; clear HM; intro us HM; dsimp only [List.set] at HM) | (refine aZe ?_))
 go_loopw [22] (fun vi wr => ∃ k : Nat, k ≤ 16 ∧ vi = .int .i64 (k : Int) ∧ Hid (Mem w [(g5, 35, tab 16 (part2 k (lapN t v) (fun _ => 0))), (g4, 27, zr 16), (g3, 35, zr 16), (g2, 111, v), (g1, 27, t)] wr)) (fun vi _ => 16 - (intOf vi).toNat)
 case atStart => exact ⟨0, by omega, rfl, Lib.hid (by rw [part2_none, tab_zero]; exact HM.out)⟩
 case round =>
  clear HM
  obtain ⟨k, hk, rfl, HM⟩ := hrel
  by_cases hlt : k < 16
  ·have k16 : (k : Int) < 16 := by omega
   have k32 : (k : Int) < 32 := by omega
   have hix := run_index 27 (n := 16) (by kernel_rfl) t LT.out k hlt
   have HS := Lib.hid (part2_set (n := 16) (k := k) (lapN t v) (fun _ => 0))
   have HV := Lib.hid (show lapN t v k = satI (roundI (t.getD k 0 + v.getD k 0) 8) 16 from rfl)
   have tt := lap_term HP.out HQ.out k
   have c2 := HM.out.cell (.tail _ (.tail _ (.tail _ (.head _)))) (k := k) (by rw [LV.out]; omega)
   obtain ⟨x, hx⟩ : ∃ x, t.getD k 0 = x := ⟨_, rfl⟩
   obtain ⟨y, hy⟩ : ∃ y, v.getD k 0 = y := ⟨_, rfl⟩
   rw [hx] at hix HV tt
   rw [hy] at HV tt c2
   clear hx hy
   generalize lapN t v k = z at HS HV
   have e1 : IntKind.i64.wrap (x + y) = x + y := i64_w (by omega) (by omega)
   have HT := Lib.hid tt
   obtain ⟨r, hr⟩ : ∃ r, roundI (x + y) 8 = r := ⟨_, rfl⟩
   rw [hr] at HV
   have HR := Lib.hid hr
   clear tt hr
   go_wp2_with fail
   refine (round_any (x + y) 8 _ (by have := HT.out; omega)).mono ?_
   rw [HR.out]
   rintro e w5 ⟨rfl, rfl⟩
   go_wp2_with fail
   refine (sat_any r 16 _).mono ?_
   rw [← HV.out]
   rintro e w5 ⟨rfl, rfl⟩
   have c1 := HM.out.cell (.head _) (k := k) (by rw [tab_length]; exact hlt)
   have f1 := HM.out.free (.head _) k
   generalize List.getD _ k 0 = o at c1
   clear hix c2 e1
   go_wp2
   have HM3 := Lib.hid (HM.out.put 0 rfl k z)
   simp only [List.set_cons_zero] at HM3
   rw [HS.out] at HM3
   clear HM c1 f1
   go_roundw
   case rel => exact ⟨k + 1, by omega, by go_num, HM3⟩
   case measure => simp [intOf]; omega
  ·obtain rfl : k = 16 := by omega
   rw [part2_all] at HM
   go_wp2_with (first | (refine aNw ?_; first | (have q:dL HM = 0:=rfl;clear q HM;intro g1 u1 HM) | (have q:dL HM = 1:=rfl;clear q HM;intro g2 u2 HM) | (have q:dL HM = 2:=rfl;clear q HM;intro g3 u3 HM) | (have q:dL HM = 3:=rfl;clear q HM;intro g4 u4 HM) | (have q:dL HM = 4:=rfl;clear q HM;intro g5 u5 HM) | (have q:dL HM = 5:=rfl;clear q HM;intro g6 u6 HM) | (have q:dL HM = 6:=rfl;clear q HM;intro g7 u7 HM) | (have q:dL HM = 7:=rfl;clear q HM;intro g8 u8 HM) | (have q:dL HM = 8:=rfl;clear q HM;intro g9 u9 HM) | (have q:dL HM = 9:=rfl;clear q HM;intro g10 u10 HM)) | (refine aLo ?_) | (refine aSt ?_; clear HM; intro us HM; dsimp only [List.set] at HM) | (refine aZe ?_))
   have hcp := run_copy_mem (HM.out.drew.get (.head _)) 0 16 16 16 (rd_sub (HM.out.drew.get (.tail _ (.tail _ (.tail _ (.tail _ (.head _)))))) 16 16 (by rw [leftL_is LV.out]; exact tab_length _ _)) rfl (by rw [zr_length]; omega) (leftL v) (by
    rw [leftL_is LV.out, List.take_zero, List.nil_append, List.drop_eq_nil_of_le (by rw [zr_length]; omega), List.append_nil])
   go_region_with (fail)
   have HM2 := Lib.hid (HM.out.drew.row 0 rfl (leftL v))
   simp only [List.set_cons_zero] at HM2
   clear hcp HM
   generalize World.setRow _ g6 _ = u9 at HM2 ⊢
   go_wp2_with fail
   have HLa := Lib.hid (tab_length 16 (lapN t v))
   have HLb := Lib.hid (show (leftL v).length = 16 from tab_length 16 _)
   refine wp_region_held_drew (S := Mem w [(g6, 27, leftL v), (g5, 35, tab 16 (lapN t v))]) (by kernel_rfl) (HM2.out.drew.sub (by exact q7u)) (fun hHeld => ?_)
   have HM := Lib.hid HM2.out.drew
   clear HM2
   (refine tk 0 rfl (yi_load rfl _ _ rfl rfl (by exact q7a) (fun u hu => hu) (by exact q7e) (by exact q7l)) ?_)
   (refine tk 1 rfl (yi_load rfl _ _ rfl rfl (by exact q7a) (fun u hu => hu) (by exact q7e) (by exact q7l)) ?_)
   (refine wpAnyH_ready (rs := [2]) (by kernel_rfl) (by simp) ?_; refine AllReadyH.cons rfl (fun K hK => ?_) AllReadyH.nil; rw [if_pos (by rfl)]; refine ow_store _ _ _ rfl rfl rfl (by exact q7a) HM 3 rfl (by exact q7l) (by exact q7l) rfl ?_; clear HM; intro us HM; simp only [List.set_cons_zero, List.set_cons_succ] at HM; refine hK.out _ _ (HM.out.sub (by exact q7u)) (fun hHeld => ?_); clear hK K; (try simp only [Act.put]))
   (refine wpAnyH_ready (rs := [3]) (by kernel_rfl) (by simp) ?_; refine AllReadyH.cons rfl (fun K hK => ?_) AllReadyH.nil; rw [if_pos (by rfl)]; refine ow_store _ _ _ rfl rfl rfl (by exact q7a) HM 2 rfl (by exact q7l) (by exact q7l) rfl ?_; clear HM; intro us HM; simp only [List.set_cons_zero, List.set_cons_succ] at HM; refine hK.out _ _ (HM.out.sub (by exact q7u)) (fun hHeld => ?_); clear hK K; (try simp only [Act.put]))
   (refine tk 4 rfl (yi_free rfl (fun u => rfl)) ?_)
   refine wpAnyH_done (by kernel_rfl) ?_ _
   go_wp2
   refine bodyPost_ret (v := .tuple #[.agg (icells (lapL t v)), .agg (icells (leftL v)), .int .i64 0]) (res_three rfl _ rfl rfl rfl arrPcm arrTail HM (by exact q7e) (by exact q7e) HLa HLb) rfl ⟨rfl, HM.out.1⟩
theorem lap_any (t v : List Int) (w : World) (lt : t.length = 16) (lv : v.length = 32) :
  Calls Tryz.prog 58 #[.agg (icells t), .agg (icells v)] w (ValQ w (lapV t v)) := by
 unfold lapV
 by_cases h : okW t = true ∧ okW v = true
 ·rw [if_pos h]; exact lap_good t v w lt lv h.1 h.2
 ·rw [if_neg h]; exact lap_bad t v w lt lv h
theorem rcheck_any (x : List Int) (b : Bool) (z : Int) (w : World) (lx : x.length = 16) (hb : okP x = b) (hz : z = if b = true then 0 else 1) :
  Calls Tryz.prog 40 #[.agg (icells x)] w fun e w' => e = .returned (.int .i64 z) ∧ Below w.heap.size w w' := by
 have LX := Lib.hid lx
 have HI := Lib.hid (inR_iff (lo := -32768) (hi := 32767) lx)
 rw [show inR (-32768) 32767 x = b from hb] at HI
 have HM := Lib.hid (Mem.start w)
 have HZ := Lib.hid hz
 clear lx hb hz
 go_enter Tryz.func40, Tryz.ntmps40
 go_wp2_with (first | (refine aNw ?_; first | (have q:dL HM = 0:=rfl;clear q HM;intro g1 u1 HM) | (have q:dL HM = 1:=rfl;clear q HM;intro g2 u2 HM) | (have q:dL HM = 2:=rfl;clear q HM;intro g3 u3 HM) | (have q:dL HM = 3:=rfl;clear q HM;intro g4 u4 HM)) | (refine aLo ?_) | (refine aSt ?_; clear HM; intro us HM; dsimp only [List.set] at HM) | (refine aZe ?_))
 go_loop [6] (fun vi => ∃ k : Nat, vi = .int .i64 (k : Int) ∧ k ≤ 16 ∧ Hid (∀ j, j < k → -32768 ≤ x.getD j 0 ∧ x.getD j 0 ≤ 32767)) (fun vi => 16 - (intOf vi).toNat)
 case atStart => exact ⟨0, rfl, by omega, Lib.hid (fun j hj => by omega)⟩
 case round =>
  obtain ⟨k, rfl, hk, HK⟩ := hrel
  by_cases hlt : k < 16
  ·have hix := run_index 35 (n := 16) (by kernel_rfl) x LX.out k hlt
   obtain ⟨v, hv⟩ : ∃ v, x.getD k 0 = v := ⟨_, rfl⟩
   rw [hv] at hix
   have HX := Lib.hid hv
   have kn : (k : Int) < 16 := by omega
   clear hv
   by_cases h1 : v < -32768
   ·obtain rfl : b = false := by
     cases b with
     | false => rfl
     | true => have := HI.out.1 rfl k hlt; rw [HX.out] at this; omega
    obtain rfl : z = 1 := HZ.out
    go_wp2
    go_ret
    exact ⟨rfl, HM.out.1⟩
   ·by_cases h2 : 32767 < v
    ·obtain rfl : b = false := by
      cases b with
      | false => rfl
      | true => have := HI.out.1 rfl k hlt; rw [HX.out] at this; omega
     obtain rfl : z = 1 := HZ.out
     go_wp2
     go_ret
     exact ⟨rfl, HM.out.1⟩
    ·go_wp2
     go_round
     case rel =>
      refine ⟨k + 1, by go_num, by omega, Lib.hid fun j hj => ?_⟩
      by_cases hjk : j < k
      ·exact HK.out j hjk
      ·obtain rfl : j = k := by omega
       rw [HX.out]; omega
     case measure => simp [intOf]; omega
  ·obtain rfl : k = 16 := by omega
   obtain rfl : b = true := HI.out.2 HK.out
   obtain rfl : z = 0 := HZ.out
   go_wp2
   go_ret
   exact ⟨rfl, HM.out.1⟩
theorem run_items_same (d : Nat) (xs : List Int) (u : World) : ∀ l : List Nat, (∀ i ∈ l, i < xs.length) → (Op.eqItems (d + 1) 3 1 (icells xs) (icells xs) l).run Tryz.prog u = .ok true u
 | [], _ => by simp [Op.eqItems]
 | i :: l, h => by
  have ih := run_items_same d xs u l fun j hj => h j (by simp [hj])
  have ha : (isAgg 3).run Tryz.prog u = .ok false u := by kernel_rfl
  have hu : Tryz.prog.underlying 3 = some (.int .i64) := by kernel_rfl
  have hc : (icells xs)[i]? = some (.int .i64 (xs.getD i 0)) := icells_get (h i (by simp))
  have hp : (part 3 (icells xs) (i * 1)).run Tryz.prog u = .ok (.int .i64 (xs.getD i 0)) u := by
   rw [Nat.mul_one]
   simp only [part, Sem.run_bind, ha, Result.andThen_ok, Bool.false_eq_true, if_false, hc, Sem.run_pure]
  have he := run_equalIn_int (P := Tryz.prog) u d 3 .i64 .i64 (xs.getD i 0) (xs.getD i 0) hu
  simp only [Op.eqItems, Sem.run_bind, hp, Result.andThen_ok, he, beq_self_eq_true]
  simpa using ih
theorem run_equalIn_same (T : TypeId) {n : Nat} (hT : Tryz.prog.underlying T = some (.array n 3)) (xs : List Int) (hl : xs.length = n) (w : World) :
  (Op.equalIn 10000 T (.agg (icells xs)) (.agg (icells xs))).run Tryz.prog w = .ok true w := by
 have hc : Tryz.prog.cellsOf 3 = 1 := by kernel_rfl
 obtain ⟨i, hi⟩ : ∃ i, Tryz.prog.info? 3 = some i := Option.isSome_iff_exists.1 (by kernel_rfl)
 rw [run_equalIn_array w 9999 (icells xs) (icells xs) hT hi, hc]
 exact run_items_same 9998 xs w _ fun j hj => by rw [hl]; exact List.mem_range.1 hj
theorem grdPcm : Tryz.prog.eqGuardType Tryz.prog.depth 35 = false := by kernel_rfl
theorem grdSpec : Tryz.prog.eqGuardType Tryz.prog.depth 89 = false := by kernel_rfl
theorem grdTail : Tryz.prog.eqGuardType Tryz.prog.depth 27 = false := by kernel_rfl
theorem sumN_zero (f : Nat → Int) : ∀ n : Nat, (∀ i, i < n → f i = 0) → sumN f n = 0
 | 0, _ => rfl
 | n + 1, h => by rw [sumN_succ, sumN_zero f n fun i hi => h i (by omega), h n (by omega)]; rfl
theorem zr_getD (n k : Nat) : (zr n).getD k 0 = 0 := by
 unfold zr
 rw [List.getD_eq_getElem?_getD, List.getElem?_replicate]
 split <;> rfl
theorem smp_zero (n : Nat) : smp (zr 16) (zr 16) n = 0 := by
 unfold smp
 split <;> exact zr_getD _ _
theorem fwd_zero : fwdL (zr 16) (zr 16) = zr 16 := by
 refine Eq.trans (tab_congr fun k _ => ?_) (tab_zero 16)
 unfold fwd
 rw [sumN_zero _ 32 fun i _ => by
  unfold wgt
  rw [smp_zero, Int.zero_mul, round16]
  simp]
 rw [round28]
 rfl
def p1 : List Int := 32768 :: List.replicate 15 0
def x1 : List Int := 3 :: -4 :: List.replicate 14 0
open Go.ChangeShapes Go.WideShapes Go.ChangeAt Go.RowKit Go.Joins Go.Deep Fq
theorem laidOut : laidOutB Tryz.prog = true := by kernel_rfl
theorem own : ownKnob Tryz.prog.godebug = none := by kernel_rfl
theorem cells_int : Tryz.prog.cellsOf 3 = 1 := by kernel_rfl
theorem ints_of : ∀ (n : Nat) (l : List Value), l.length = n → (∀ i, i < n → ∃ z : Int, (l.drop i).take 1 = [.int .i64 z]) → ∃ zs : List Int, zs.length = n ∧ l = zs.map fun x => Value.int .i64 x
 | 0, l, hl, _ => ⟨[], rfl, by simpa using hl⟩
 | n + 1, l, hl, h => by
  match l, hl, h with
  | v :: l, hl, h =>
   obtain ⟨z, hz⟩ := h 0 (by omega)
   simp only [List.drop_zero, List.take_succ_cons, List.take_zero, List.cons.injEq, and_true] at hz
   obtain ⟨zs, hzl, e⟩ := ints_of n l (by simpa using hl) fun i hi => by
    have := h (i + 1) (by omega)
    simpa using this
   exact ⟨z :: zs, by simp [hzl], by rw [hz, e]; rfl⟩
section
variable {H : Type} {enc : TypeId × Value → H} {W : World} {base : Nat} {spare : Nat → Bool} {held : Bool}
end
theorem run_items_any (d : Nat) (xs ys : List Int) (u : World) : ∀ l : List Nat, (∀ i ∈ l, i < xs.length ∧ i < ys.length) → (Op.eqItems (d + 1) 3 1 (icells xs) (icells ys) l).run Tryz.prog u = .ok (l.all fun i => xs.getD i 0 == ys.getD i 0) u
 | [], _ => by simp [Op.eqItems]
 | i :: l, h => by
  have ih := run_items_any d xs ys u l fun j hj => h j (by simp [hj])
  have ha : (isAgg 3).run Tryz.prog u = .ok false u := by kernel_rfl
  have hu : Tryz.prog.underlying 3 = some (.int .i64) := by kernel_rfl
  have hp : ∀ zs : List Int, i < zs.length → (part 3 (icells zs) (i * 1)).run Tryz.prog u = .ok (.int .i64 (zs.getD i 0)) u := fun zs hz => by
   have hc : (icells zs)[i]? = some (.int .i64 (zs.getD i 0)) := icells_get hz
   rw [Nat.mul_one]
   simp only [part, Sem.run_bind, ha, Result.andThen_ok, Bool.false_eq_true, if_false, hc, Sem.run_pure]
  have he := run_equalIn_int (P := Tryz.prog) u d 3 .i64 .i64 (xs.getD i 0) (ys.getD i 0) hu
  have h1 := hp xs (h i (by simp)).1
  have h2 := hp ys (h i (by simp)).2
  simp only [Op.eqItems, Sem.run_bind, h1, h2, Result.andThen_ok, he]
  rw [List.all_cons]
  by_cases k : xs.getD i 0 = ys.getD i 0
  ·have k2 : (xs.getD i 0 == ys.getD i 0) = true := by rw [k]; exact beq_self_eq_true _
   simp only [k2, Bool.true_and]
   simpa using ih
  ·have k2 : (xs.getD i 0 == ys.getD i 0) = false := by simpa using k
   simp only [k2, Bool.false_and]
   simp
theorem run_equalIn_diff (T : TypeId) {n : Nat} (hT : Tryz.prog.underlying T = some (.array n 3)) (xs ys : List Int) (hl : xs.length = n) (hl' : ys.length = n) (hne : xs ≠ ys) (w : World) :
  (Op.equalIn 10000 T (.agg (icells xs)) (.agg (icells ys))).run Tryz.prog w = .ok false w := by
 have hc : Tryz.prog.cellsOf 3 = 1 := by kernel_rfl
 obtain ⟨i, hi⟩ : ∃ i, Tryz.prog.info? 3 = some i := Option.isSome_iff_exists.1 (by kernel_rfl)
 rw [run_equalIn_array w 9999 (icells xs) (icells ys) hT hi, hc, run_items_any 9998 xs ys w _ fun j hj => ⟨by rw [hl]; exact List.mem_range.1 hj, by rw [hl']; exact List.mem_range.1 hj⟩]
 congr 1
 rw [Bool.eq_false_iff]
 intro hall
 refine hne (getD_ext (by rw [hl, hl']) fun k hk => ?_)
 rw [List.all_eq_true] at hall
 simpa using hall k (List.mem_range.2 (by omega))
theorem arrLev : Arr 29 6 := ⟨⟨.array 6 3, by kernel_rfl, rfl⟩, by kernel_rfl⟩
theorem arrAll : Arr 165 6 := ⟨⟨.array 6 3, by kernel_rfl, rfl⟩, by kernel_rfl⟩
theorem grdLev : Tryz.prog.eqGuardType Tryz.prog.depth 29 = false := by kernel_rfl
def edgL : List Nat := [0, 1, 2, 4, 6, 10, 16]
def edg (b : Nat) : Nat := edgL.getD b 0
theorem edg_all : ∀ b, b < 6 → edg b < edg (b + 1) ∧ edg (b + 1) ≤ 16 ∧ edg b ≤ 15 := by decide
def Edg (w : World) : Prop := ∀ b, b < 7 → w.cell? ⟨0, b, none⟩ = some (.int .i64 (edg b : Int))
theorem Edg.below {w w' : World} (h : Edg w) (hb : Below w.heap.size w w') : Edg w' := fun b hlt => by
 have hc := h b hlt
 exact (hb.cell (p := ⟨_, b, none⟩) (World.block_lt_of_cell? _ _ hc)).trans hc
theorem Edg.drew {w : World} (h : Edg w) : Edg w.drew := h
theorem Edg.mem {w w' : World} {L : List (Nat × TypeId × List Int)} (h : Edg w) (hm : Mem w L w') : Edg w' := h.below hm.1
theorem Edg.cells {w : World} (h : Edg w) {b : Nat} (hb : b < 6) : w.cell? ⟨0, b, none⟩ = some (.int .i64 (edg b : Int)) ∧ w.cell? ⟨0, b + 1, none⟩ = some (.int .i64 (edg (b + 1) : Int)) := ⟨h b (by omega), h (b + 1) (by omega)⟩
def ownF (x : List Int) (b n : Nat) : Int := if edg b ≤ n ∧ n < edg (b + 1) then x.getD n 0 else 0
def ownL (x : List Int) (b : Nat) : List Int := tab 16 (ownF x b)
def enN (x : List Int) (b k : Nat) : Int := sumN (fun n => ownF x b n * ownF x b n) k
def enB (x : List Int) (b : Nat) : Nat := (enN x b 16).toNat
def lvl (E : Nat) : Int := if E = 0 then 0 else min ((logN E / 2 + 1 : Nat) : Int) 255
def levB (x : List Int) (b : Nat) : Int := lvl (enB x b)
def measL (x : List Int) : List Int := tab 6 (levB x)
theorem sq_nonneg' (v : Int) : 0 ≤ v * v := by
 rcases Int.le_total 0 v with h | h
 ·exact Int.mul_nonneg h h
 ·have := Int.mul_nonneg (show 0 ≤ -v by omega) (show 0 ≤ -v by omega)
  rwa [Int.neg_mul_neg] at this
theorem sumN_nonneg {f : Nat → Int} : ∀ n : Nat, (∀ i, i < n → 0 ≤ f i) → 0 ≤ sumN f n
 | 0, _ => Int.le_refl _
 | n + 1, h => by
  have h1 := sumN_nonneg n fun i hi => h i (by omega)
  have h2 := h n (by omega)
  rw [sumN_succ]; omega
theorem sumN_pos {f : Nat → Int} : ∀ (n : Nat) (i : Nat), i < n → (∀ i, i < n → 0 ≤ f i) → 0 < f i → 0 < sumN f n
 | n + 1, i, hi, h, hp => by
  rw [sumN_succ]
  have h2 := h n (by omega)
  rcases Nat.lt_or_ge i n with k | k
  ·have := sumN_pos n i k (fun j hj => h j (by omega)) hp; omega
  ·obtain rfl : i = n := by omega
   have := sumN_nonneg i fun j hj => h j (by omega)
   omega
theorem ownF_zero {x : List Int} {b n : Nat} (h : ¬ (edg b ≤ n ∧ n < edg (b + 1))) : ownF x b n = 0 := if_neg h
theorem ownF_in {x : List Int} {b n : Nat} (h : edg b ≤ n) (h' : n < edg (b + 1)) : ownF x b n = x.getD n 0 := if_pos ⟨h, h'⟩
theorem enN_nonneg (x : List Int) (b n : Nat) : 0 ≤ enN x b n := sumN_nonneg _ fun _ _ => sq_nonneg' _
theorem ownF_bd {x : List Int} (h : okX x = true) (b n : Nat) : -67108864 ≤ ownF x b n ∧ ownF x b n ≤ 67108864 := by
 unfold ownF
 split
 ·exact inR_bd h (by omega) (by omega) n
 ·omega
theorem okX_own {x : List Int} (h : okX x = true) (b : Nat) : okX (ownL x b) = true := by
 refine decide_eq_true fun k hk => ?_
 rw [ownL, tab_length] at hk
 rw [ownL, tab_getD _ hk]
 exact ownF_bd h b k
theorem sq_bd {v : Int} (h1 : -67108864 ≤ v) (h2 : v ≤ 67108864) : 0 ≤ v * v ∧ v * v ≤ 4503599627370496 := by
 have := mul_bd h1 h2 h1 h2
 exact ⟨sq_nonneg' v, by omega⟩
theorem enN_le {x : List Int} (h : okX x = true) (b : Nat) {n : Nat} (hn : n ≤ 16) : 0 ≤ enN x b n ∧ enN x b n ≤ 72057594037927936 := by
 have := sumN_bd (fun n => ownF x b n * ownF x b n) 4503599627370496 n fun i _ => by
  have := sq_bd (ownF_bd h b i).1 (ownF_bd h b i).2
  constructor <;> omega
 exact ⟨enN_nonneg x b n, by unfold enN; omega⟩
theorem eng_own {x : List Int} (h : okX x = true) (b : Nat) : eng (ownL x b) = ((enB x b : Nat) : Int) := by
 unfold eng
 rw [if_pos (okX_own h b)]
 unfold enB
 rw [Int.toNat_of_nonneg (enN_nonneg x b 16)]
 exact sumN_congr _ _ _ fun i hi => by rw [ownL, tab_getD _ hi]
theorem enB_lt {x : List Int} (h : okX x = true) (b : Nat) : enB x b < 18446744073709551616 := by
 have := (enN_le h b (Nat.le_refl 16)).2
 unfold enB; omega
theorem own_zero_iff (x : List Int) (b : Nat) : ownL x b = zr 16 ↔ enB x b = 0 := by
 constructor
 ·intro h
  have : enN x b 16 = 0 := sumN_zero _ _ fun i hi => by
   have e : (ownL x b).getD i 0 = (zr 16).getD i 0 := by rw [h]
   rw [ownL, tab_getD _ hi, zr_getD] at e
   rw [e]; rfl
  unfold enB; rw [this]; rfl
 ·intro h
  refine getD_ext (by rw [ownL, tab_length, zr_length]) fun k hk => ?_
  rw [ownL, tab_length] at hk
  rw [zr_getD, ownL, tab_getD _ hk]
  by_cases h0 : ownF x b k = 0
  ·exact h0
  ·have hp : 0 < ownF x b k * ownF x b k := by
    have h1 := sq_nonneg' (ownF x b k)
    have h2 : ownF x b k * ownF x b k ≠ 0 := fun e => h0 (by rcases Int.mul_eq_zero.1 e with e | e <;> exact e)
    omega
   have := sumN_pos (f := fun n => ownF x b n * ownF x b n) 16 k hk (fun i _ => sq_nonneg' _) hp
   unfold enB enN at h; omega
theorem eng_zero_iff {x : List Int} (lx : x.length = 16) (h : okX x = true) : eng x = 0 ↔ x = zr 16 := by
 unfold eng
 rw [if_pos h]
 constructor
 ·intro he
  refine getD_ext (by rw [lx, zr_length]) fun k hk => ?_
  rw [zr_getD]
  by_cases h0 : x.getD k 0 = 0
  ·exact h0
  ·have hp : 0 < x.getD k 0 * x.getD k 0 := by
    have h1 := sq_nonneg' (x.getD k 0)
    have h2 : x.getD k 0 * x.getD k 0 ≠ 0 := fun e => h0 (by rcases Int.mul_eq_zero.1 e with e | e <;> exact e)
    omega
   have := sumN_pos (f := fun n => x.getD n 0 * x.getD n 0) 16 k (by omega) (fun _ _ => sq_nonneg' _) hp
   omega
 ·intro he
  subst he
  exact sumN_zero _ _ fun i _ => by rw [zr_getD]; rfl
theorem okX_zero : okX (zr 16) = true := by
 unfold okX inR
 exact decide_eq_true (fun k _ => by rw [zr_getD]; omega)
theorem lvl_bd (E : Nat) : 0 ≤ lvl E ∧ lvl E ≤ 255 := by
 unfold lvl
 split
 ·omega
 ·omega
theorem measL_length (x : List Int) : (measL x).length = 6 := tab_length _ _
theorem own_any (x : List Int) (b : Nat) (w : World) (lx : x.length = 16) (hb : b < 6) (he : Edg w) :
  Calls Tryz.prog 103 #[.agg (icells x), .int .i64 (b : Int)] w (ValQ w (.agg (icells (ownL x b)))) := by
 have LX := Lib.hid lx
 have HE := Lib.hid he
 have HM := Lib.hid (Mem.start w)
 have h6 : (b : Int) < 6 := by omega
 have hb0 := edg_all b hb
 obtain ⟨lo, hlo⟩ : ∃ z, edg b = z := ⟨_, rfl⟩
 obtain ⟨hi, hhi⟩ : ∃ z, edg (b + 1) = z := ⟨_, rfl⟩
 have HLO := Lib.hid hlo
 have HHI := Lib.hid hhi
 rw [hlo, hhi] at hb0
 obtain ⟨hb1, hb2, hb3⟩ := hb0
 clear lx he hlo hhi
 go_enter Tryz.func103, Tryz.ntmps103
 go_upto_region 2 with (first | (first | (refine aNw ?_; first | (have q:dL HM = 0:=rfl;clear q HM;intro g1 u1 HM) | (have q:dL HM = 1:=rfl;clear q HM;intro g2 u2 HM) | (have q:dL HM = 2:=rfl;clear q HM;intro g3 u3 HM) | (have q:dL HM = 3:=rfl;clear q HM;intro g4 u4 HM)) | (refine aLo ?_) | (refine aSt ?_; clear HM; intro us HM; dsimp only [List.set] at HM) | (refine aZe ?_)))
 have c1 := ((HE.out.mem HM.out).cells hb).1
 rw [HLO.out] at c1
 go_wp2_with fail
 clear c1
 go_loopw [6] (fun vi wr => ∃ k : Nat, lo ≤ k ∧ k ≤ hi ∧ vi = .int .i64 (k : Int) ∧ Hid (Mem w [(g3, 89, tab 16 (part2 k (ownF x b) (fun _ => 0))), (g2, 89, zr 16), (g1, 89, x)] wr)) (fun vi _ => hi - (intOf vi).toNat)
 case atStart =>
  refine ⟨lo, by omega, by omega, rfl, ?_⟩
  rw [show tab 16 (part2 lo (ownF x b) (fun _ => 0)) = zr 16 by
   rw [← tab_zero]
   exact tab_congr fun i _ => by
    unfold part2
    split
    ·exact ownF_zero (by rw [HLO.out]; omega)
    ·rfl]
  exact HM
 case round =>
  clear HM
  obtain ⟨k, hk1, hk2, rfl, HM⟩ := hrel
  have c2 := ((HE.out.mem HM.out).cells hb).2
  rw [HHI.out] at c2
  by_cases hlt : k < hi
  ·have k1 : (k : Int) < (hi : Int) := by omega
   have k16 : (k : Int) < 16 := by omega
   have cx := HM.out.cell (.tail _ (.tail _ (.head _))) (k := k) (by rw [LX.out]; omega)
   have S1 := Lib.hid (part2_set (n := 16) (k := k) (ownF x b) (fun _ => 0))
   rw [ownF_in (by rw [HLO.out]; exact hk1) (by rw [HHI.out]; exact hlt)] at S1
   have c3 := HM.out.cell (.head _) (k := k) (by rw [tab_length]; omega)
   have f3 := HM.out.free (.head _) k
   generalize List.getD (tab 16 _) k 0 = o at c3
   generalize x.getD k 0 = q at cx S1
   go_wp2
   have HM3 := Lib.hid (HM.out.put 0 rfl k q)
   simp only [List.set_cons_zero] at HM3
   rw [S1.out] at HM3
   clear HM c2 c3 f3 cx
   go_roundw
   case rel => exact ⟨k + 1, by omega, by omega, by go_num, HM3⟩
   case measure => simp [intOf]; omega
  ·obtain rfl : k = hi := by omega
   have HO := Lib.hid (show tab 16 (part2 k (ownF x b) (fun _ => 0)) = ownL x b from tab_congr fun i _ => by
    unfold part2
    split
    ·rfl
    ·exact (ownF_zero (by rw [HHI.out]; omega)).symm)
   rw [HO.out] at HM
   have LO := Lib.hid (show (ownL x b).length = 16 from tab_length _ _)
   clear HO
   go_wp2_with (first | (refine aNw ?_; first | (have q:dL HM = 0:=rfl;clear q HM;intro g1 u1 HM) | (have q:dL HM = 1:=rfl;clear q HM;intro g2 u2 HM) | (have q:dL HM = 2:=rfl;clear q HM;intro g3 u3 HM) | (have q:dL HM = 3:=rfl;clear q HM;intro g4 u4 HM)) | (refine aLo ?_) | (refine aSt ?_; clear HM; intro us HM; dsimp only [List.set] at HM) | (refine aZe ?_))
   refine bodyPost_ret (v := .agg (icells (ownL x b))) (res_one rfl _ rfl arrSpec HM (by exact q7e) LO) rfl ⟨rfl, HM.out.1⟩
theorem level_zero (w : World) : Calls Tryz.prog 102 #[.agg (icells (zr 16))] w (ValQ w (.int .i64 0)) := by
 have LX := Lib.hid (zr_length 16)
 have HM := Lib.hid (Mem.start w)
 have heq := fun u => run_equalIn_same 89 (n := 16) (by kernel_rfl) (zr 16) (zr_length 16) u
 have hgd := grdSpec
 go_enter Tryz.func102, Tryz.ntmps102
 go_wp2_with (first | (refine aNw ?_; first | (have q:dL HM = 0:=rfl;clear q HM;intro g1 u1 HM) | (have q:dL HM = 1:=rfl;clear q HM;intro g2 u2 HM) | (have q:dL HM = 2:=rfl;clear q HM;intro g3 u3 HM) | (have q:dL HM = 3:=rfl;clear q HM;intro g4 u4 HM)) | (refine aLo ?_) | (refine aSt ?_; clear HM; intro us HM; dsimp only [List.set] at HM) | (refine aZe ?_))
 go_ret
 exact ⟨rfl, HM.out.1⟩
theorem lvl_is {E L : Nat} (h0 : E ≠ 0) (hL : logN E = L) : lvl E = min ((L : Int) / 2 + 1) 255 := by
 unfold lvl; rw [if_neg h0, hL]; omega
theorem level_pos (x : List Int) (E : Nat) (w : World) (lx : x.length = 16) (hx : x ≠ zr 16) (he : eng x = (E : Int)) (h0 : E ≠ 0) (hE : E < 18446744073709551616) :
  Calls Tryz.prog 102 #[.agg (icells x)] w (ValQ w (.int .i64 (lvl E))) := by
 have LX := Lib.hid lx
 have HM := Lib.hid (Mem.start w)
 have heq := fun u => run_equalIn_diff 89 (n := 16) (by kernel_rfl) x (zr 16) lx (zr_length 16) hx u
 have hgd := grdSpec
 have HC := Lib.hid (fun u => energy_any x u lx)
 rw [he] at HC
 have HD := Lib.hid (fun u => log_any E u hE)
 have hL := logN_lt E hE
 obtain ⟨L, hLL⟩ : ∃ L, logN E = L := ⟨_, rfl⟩
 rw [hLL] at HD hL
 have HL := Lib.hid hLL
 have H0 := Lib.hid h0
 clear lx hx he h0 hE hLL
 have HV := Lib.hid (lvl_is H0.out HL.out)
 rw [HV.out]
 clear HV
 go_enter Tryz.func102, Tryz.ntmps102
 go_wp2_with (first | (refine aNw ?_; first | (have q:dL HM = 0:=rfl;clear q HM;intro g1 u1 HM) | (have q:dL HM = 1:=rfl;clear q HM;intro g2 u2 HM) | (have q:dL HM = 2:=rfl;clear q HM;intro g3 u3 HM) | (have q:dL HM = 3:=rfl;clear q HM;intro g4 u4 HM)) | (refine aLo ?_) | (refine aSt ?_; clear HM; intro us HM; dsimp only [List.set] at HM) | (refine aZe ?_))
 refine (HC.out _).mono ?_
 rintro e w2 ⟨rfl, h1⟩
 replace HM := Lib.hid (HM.out.below h1)
 clear h1 HC
 go_wp2_with fail
 refine (HD.out _).mono ?_
 rintro e w3 ⟨rfl, h1⟩
 have HM2 := Lib.hid (HM.out.below h1)
 clear h1 HM HD
 go_wp2_with fail
 go_ret
 exact ⟨rfl, HM2.out.1⟩
theorem level_own (x : List Int) (b : Nat) (w : World) (h : okX x = true) :
  Calls Tryz.prog 102 #[.agg (icells (ownL x b))] w (ValQ w (.int .i64 (levB x b))) := by
 by_cases hz : enB x b = 0
 ·rw [(own_zero_iff x b).2 hz, show levB x b = 0 by unfold levB lvl; rw [if_pos hz]]
  exact level_zero w
 ·exact level_pos _ (enB x b) w (tab_length _ _) (fun e => hz ((own_zero_iff x b).1 e)) (eng_own h b) hz (enB_lt h b)
def measV (x : List Int) : Value := if okX x = true then .tuple #[.agg (icells (measL x)), .int .i64 0] else .tuple #[.agg (icells (zr 6)), .int .i64 1]
theorem meas_bad (x : List Int) (w : World) (lx : x.length = 16) (h : okX x = false) :
  Calls Tryz.prog 72 #[.agg (icells x)] w (ValQ w (.tuple #[.agg (icells (zr 6)), .int .i64 1])) := by
 have LX := Lib.hid lx
 have LZ := Lib.hid (zr_length 6)
 have HM := Lib.hid (Mem.start w)
 have hne : x ≠ zr 16 := fun e => by rw [e, okX_zero] at h; cases h
 have heq := fun u => run_equalIn_diff 89 (n := 16) (by kernel_rfl) x (zr 16) lx (zr_length 16) hne u
 have hgd := grdSpec
 have HC := Lib.hid (fun u => energy_any x u lx)
 rw [show eng x = 0 by unfold eng; rw [h]; rfl] at HC
 clear lx h hne
 go_enter Tryz.func72, Tryz.ntmps72
 go_wp2_with (first | (refine aNw ?_; first | (have q:dL HM = 0:=rfl;clear q HM;intro g1 u1 HM) | (have q:dL HM = 1:=rfl;clear q HM;intro g2 u2 HM) | (have q:dL HM = 2:=rfl;clear q HM;intro g3 u3 HM) | (have q:dL HM = 3:=rfl;clear q HM;intro g4 u4 HM)) | (refine aLo ?_) | (refine aSt ?_; clear HM; intro us HM; dsimp only [List.set] at HM) | (refine aZe ?_))
 refine (HC.out _).mono ?_
 rintro e w2 ⟨rfl, h1⟩
 replace HM := Lib.hid (HM.out.below h1)
 clear h1 HC
 go_wp2_with (first | (refine aNw ?_; first | (have q:dL HM = 0:=rfl;clear q HM;intro g1 u1 HM) | (have q:dL HM = 1:=rfl;clear q HM;intro g2 u2 HM) | (have q:dL HM = 2:=rfl;clear q HM;intro g3 u3 HM) | (have q:dL HM = 3:=rfl;clear q HM;intro g4 u4 HM)) | (refine aLo ?_) | (refine aSt ?_; clear HM; intro us HM; dsimp only [List.set] at HM) | (refine aZe ?_))
 refine bodyPost_ret (v := .tuple #[.agg (icells (zr 6)), .int .i64 1]) (res_two rfl _ rfl rfl arrLev HM (by exact q7e) LZ) rfl ⟨rfl, HM.out.1⟩
theorem meas_good (x : List Int) (w : World) (lx : x.length = 16) (h : okX x = true) (he : Edg w) :
  Calls Tryz.prog 72 #[.agg (icells x)] w (ValQ w (.tuple #[.agg (icells (measL x)), .int .i64 0])) := by
 have LX := Lib.hid lx
 have HE := Lib.hid he
 have HM := Lib.hid (Mem.start w)
 have hgd := grdSpec
 have HO := Lib.hid (fun b u hb (hu : Edg u) => own_any x b u lx hb hu)
 have HV := Lib.hid (fun b u => level_own x b u h)
 by_cases hz : x = zr 16
 case' pos =>
  have heq : ∀ u, (Op.equalIn 10000 89 (.agg (icells x)) (.agg (icells (zr 16)))).run Tryz.prog u = .ok true u := fun u => by
   rw [← hz]; exact run_equalIn_same 89 (n := 16) (by kernel_rfl) x lx u
  clear lx h he hz
  go_enter Tryz.func72, Tryz.ntmps72
  go_wp2_with (first | (refine aNw ?_; first | (have q:dL HM = 0:=rfl;clear q HM;intro g1 u1 HM) | (have q:dL HM = 1:=rfl;clear q HM;intro g2 u2 HM) | (have q:dL HM = 2:=rfl;clear q HM;intro g3 u3 HM) | (have q:dL HM = 3:=rfl;clear q HM;intro g4 u4 HM)) | (refine aLo ?_) | (refine aSt ?_; clear HM; intro us HM; dsimp only [List.set] at HM) | (refine aZe ?_))
 case' neg =>
  have heq := fun u => run_equalIn_diff 89 (n := 16) (by kernel_rfl) x (zr 16) lx (zr_length 16) hz u
  have HC := Lib.hid (fun u => energy_any x u lx)
  have hz0 : eng x ≠ 0 := fun e => hz ((eng_zero_iff lx h).1 e)
  have hz1 : (eng x == 0) = false := by simpa using hz0
  generalize eng x = E at HC hz0 hz1
  clear lx h he hz hz0
  go_enter Tryz.func72, Tryz.ntmps72
  go_wp2_with (first | (refine aNw ?_; first | (have q:dL HM = 0:=rfl;clear q HM;intro g1 u1 HM) | (have q:dL HM = 1:=rfl;clear q HM;intro g2 u2 HM) | (have q:dL HM = 2:=rfl;clear q HM;intro g3 u3 HM) | (have q:dL HM = 3:=rfl;clear q HM;intro g4 u4 HM)) | (refine aLo ?_) | (refine aSt ?_; clear HM; intro us HM; dsimp only [List.set] at HM) | (refine aZe ?_))
  refine (HC.out _).mono ?_
  rintro e w2 ⟨rfl, h1⟩
  replace HM := Lib.hid (HM.out.below h1)
  clear h1 HC
  go_wp2_with (first | (refine aNw ?_; first | (have q:dL HM = 0:=rfl;clear q HM;intro g1 u1 HM) | (have q:dL HM = 1:=rfl;clear q HM;intro g2 u2 HM) | (have q:dL HM = 2:=rfl;clear q HM;intro g3 u3 HM) | (have q:dL HM = 3:=rfl;clear q HM;intro g4 u4 HM)) | (refine aLo ?_) | (refine aSt ?_; clear HM; intro us HM; dsimp only [List.set] at HM) | (refine aZe ?_))
 all_goals
  clear heq
  go_loopw [15] (fun vi wr => ∃ k : Nat, k ≤ 6 ∧ vi = .int .i64 (k : Int) ∧ Hid (Mem w [(g3, 29, tab 6 (part2 k (levB x) (fun _ => 0))), (g2, 29, zr 6), (g1, 89, x)] wr)) (fun vi _ => 6 - (intOf vi).toNat)
  case atStart => exact ⟨0, by omega, rfl, Lib.hid (by rw [part2_none, tab_zero]; exact HM.out)⟩
  case round =>
   clear HM
   obtain ⟨k, hk, rfl, HM⟩ := hrel
   by_cases hlt : k < 6
   ·have k6 : (k : Int) < 6 := by omega
    go_wp2_with (first | (refine aNw ?_; first | (have q:dL HM = 0:=rfl;clear q HM;intro g1 u1 HM) | (have q:dL HM = 1:=rfl;clear q HM;intro g2 u2 HM) | (have q:dL HM = 2:=rfl;clear q HM;intro g3 u3 HM) | (have q:dL HM = 3:=rfl;clear q HM;intro g4 u4 HM)) | (refine aLo ?_) | (refine aSt ?_; clear HM; intro us HM; dsimp only [List.set] at HM) | (refine aZe ?_))
    refine (HO.out k _ hlt (HE.out.mem HM.out)).mono ?_
    rintro e wb ⟨rfl, h1⟩
    replace HM := Lib.hid (HM.out.below h1)
    clear h1
    go_wp2_with fail
    refine (HV.out k _).mono ?_
    rintro e wb ⟨rfl, h1⟩
    replace HM := Lib.hid (HM.out.below h1)
    clear h1
    have S1 := Lib.hid (part2_set (n := 6) (k := k) (levB x) (fun _ => 0))
    have c3 := HM.out.cell (.head _) (k := k) (by rw [tab_length]; omega)
    have f3 := HM.out.free (.head _) k
    generalize List.getD (tab 6 _) k 0 = o at c3
    generalize levB x k = q at S1
    go_wp2
    have HM3 := Lib.hid (HM.out.put 0 rfl k q)
    simp only [List.set_cons_zero] at HM3
    rw [S1.out] at HM3
    clear HM c3 f3
    go_roundw
    case rel => exact ⟨k + 1, by omega, by go_num, HM3⟩
    case measure => simp [intOf]; omega
   ·obtain rfl : k = 6 := by omega
    rw [part2_all] at HM
    have LO := Lib.hid (measL_length x)
    change Hid (Mem w [(g3, 29, measL x), (g2, 29, zr 6), (g1, 89, x)] wr) at HM
    go_wp2_with (first | (refine aNw ?_; first | (have q:dL HM = 0:=rfl;clear q HM;intro g1 u1 HM) | (have q:dL HM = 1:=rfl;clear q HM;intro g2 u2 HM) | (have q:dL HM = 2:=rfl;clear q HM;intro g3 u3 HM) | (have q:dL HM = 3:=rfl;clear q HM;intro g4 u4 HM)) | (refine aLo ?_) | (refine aSt ?_; clear HM; intro us HM; dsimp only [List.set] at HM) | (refine aZe ?_))
    refine bodyPost_ret (v := .tuple #[.agg (icells (measL x)), .int .i64 0]) (res_two rfl _ rfl rfl arrLev HM (by exact q7e) LO) rfl ⟨rfl, HM.out.1⟩
theorem meas_any (x : List Int) (w : World) (lx : x.length = 16) (he : Edg w) :
  Calls Tryz.prog 72 #[.agg (icells x)] w (ValQ w (measV x)) := by
 unfold measV
 cases h : okX x with
 | true => rw [if_pos rfl]; exact meas_good x w lx h he
 | false => rw [if_neg Bool.false_ne_true]; exact meas_bad x w lx h
def chkL (l : List Int) : Bool := inR 0 255 l
def heldL (l : List Int) : List Int := tab 6 (fun b => max 0 (min (l.getD b 0) 255))
theorem held_iff {l : List Int} (hl : l.length = 6) : heldL l = l ↔ chkL l = true := by
 unfold chkL
 rw [inR_iff hl]
 constructor
 ·intro h k hk
  have e : (heldL l).getD k 0 = l.getD k 0 := by rw [h]
  rw [heldL, tab_getD _ hk] at e
  omega
 ·intro h
  refine getD_ext (by rw [heldL, tab_length, hl]) fun k hk => ?_
  rw [heldL, tab_length] at hk
  rw [heldL, tab_getD _ hk]
  have := h k hk
  omega
def mkN (l : List Int) (b : Nat) : Nat → Int
 | 0 => 0
 | k + 1 => if k = b then mkN l b k else max (mkN l b k) (l.getD k 0 - 12 * max ((k : Int) - (b : Int)) ((b : Int) - (k : Int)) - 8)
theorem mkN_self (l : List Int) (k : Nat) : mkN l k (k + 1) = mkN l k k := by rw [mkN, if_pos rfl]
theorem mkN_other (l : List Int) {b k : Nat} (h : ¬ k = b) : mkN l b (k + 1) = max (mkN l b k) (l.getD k 0 - 12 * max ((k : Int) - (b : Int)) ((b : Int) - (k : Int)) - 8) := by rw [mkN, if_neg h]
def maskL (l : List Int) : List Int := tab 6 (fun b => mkN l b 6)
theorem maskL_length (l : List Int) : (maskL l).length = 6 := tab_length _ _
theorem mkN_bd {l : List Int} (h : chkL l = true) (b : Nat) : ∀ k, 0 ≤ mkN l b k ∧ mkN l b k ≤ 255
 | 0 => ⟨Int.le_refl _, by show (0 : Int) ≤ 255; omega⟩
 | k + 1 => by
  have ih := mkN_bd h b k
  have hv := inR_bd h (by omega) (by omega) k
  unfold mkN
  split <;> omega
theorem mask_bd {l : List Int} (h : chkL l = true) {b : Nat} (hb : b < 6) : 0 ≤ (maskL l).getD b 0 ∧ (maskL l).getD b 0 ≤ 255 := by
 rw [maskL, tab_getD _ hb]; exact mkN_bd h b 6
def wishI (v m : Int) : Int := if v ≤ m then 0 else min ((v - m + 7) / 8) 7
def wishL (l m : List Int) : List Int := tab 6 (fun b => wishI (l.getD b 0) (m.getD b 0))
theorem wishI_bd (v m : Int) : 0 ≤ wishI v m ∧ wishI v m ≤ 7 := by
 unfold wishI; split <;> omega
def costN (a : List Int) (k : Nat) : Int := sumN (fun b => a.getD b 0 * ((edg (b + 1) : Int) - (edg b : Int))) k
def costL (a : List Int) : Int := costN a 6
theorem costL_eq (a : List Int) : costL a = a.getD 0 0 + a.getD 1 0 + 2 * a.getD 2 0 + 2 * a.getD 3 0 + 4 * a.getD 4 0 + 6 * a.getD 5 0 := by
 have e : ∀ b, b < 7 → (edg b : Int) = [0, 1, 2, 4, 6, 10, 16].getD b 0 := by decide
 unfold costL costN
 simp only [sumN]
 rw [e 0 (by omega), e (0 + 1) (by omega), e (1 + 1) (by omega), e (2 + 1) (by omega), e (3 + 1) (by omega), e (4 + 1) (by omega), e (5 + 1) (by omega)]
 simp only [Nat.reduceAdd, List.getD_cons_zero, List.getD_cons_succ]
 omega
def lastM (a : List Int) : Nat → Nat
 | 0 => 0
 | k + 1 => if a.getD (lastM a k) 0 ≤ a.getD k 0 then k else lastM a k
theorem lastM_lt (a : List Int) : ∀ k, lastM a (k + 1) < k + 1
 | 0 => by unfold lastM; split <;> simp [lastM]
 | k + 1 => by
  have ih := lastM_lt a k
  rw [lastM]; split <;> omega
theorem lastM_lt6 (a : List Int) : lastM a 6 < 6 := lastM_lt a 5
theorem lastM_max (a : List Int) : ∀ k j, j < k → a.getD j 0 ≤ a.getD (lastM a k) 0
 | k + 1, j, hj => by
  have ih := lastM_max a k
  rw [lastM]
  split
  ·rename_i h
   by_cases e : j = k
   ·subst e; exact Int.le_refl _
   ·exact Int.le_trans (ih j (by omega)) h
  ·rename_i h
   by_cases e : j = k
   ·subst e; omega
   ·exact ih j (by omega)
theorem lastM_last (a : List Int) : ∀ k j, j < k → lastM a k < j → a.getD j 0 < a.getD (lastM a k) 0
 | k + 1, j, hj, hl => by
  have ih := lastM_last a k
  rw [lastM] at hl ⊢
  split
  ·rename_i h
   rw [if_pos h] at hl; omega
  ·rename_i h
   rw [if_neg h] at hl
   by_cases e : j = k
   ·subst e; omega
   ·exact ih j (by omega) hl
theorem lastM_is {a : List Int} {b : Nat} (hb : b < 6) (h1 : ∀ j, j < 6 → a.getD j 0 ≤ a.getD b 0) (h2 : ∀ j, j < 6 → b < j → a.getD j 0 < a.getD b 0) : lastM a 6 = b := by
 have k1 := lastM_lt6 a
 have k2 := lastM_max a 6 b hb
 have k3 := h1 _ k1
 rcases Nat.lt_trichotomy (lastM a 6) b with h | h | h
 ·have := lastM_last a 6 b hb h; omega
 ·exact h
 ·have := h2 _ k1 h; omega
def stpL (a : List Int) : List Int := a.set (lastM a 6) (a.getD (lastM a 6) 0 - 1)
def OkA (a : List Int) : Prop := a.length = 6 ∧ ∀ b, b < 6 → 0 ≤ a.getD b 0 ∧ a.getD b 0 ≤ 7
def sumA (a : List Int) : Nat := (sumN (fun b => a.getD b 0) 6).toNat
theorem getD_set' (a : List Int) (i : Nat) (v : Int) (j : Nat) (hi : i < a.length) : (a.set i v).getD j 0 = if i = j then v else a.getD j 0 := by
 simp only [List.getD_eq_getElem?_getD, List.getElem?_set]
 by_cases h : i = j
 ·subst h; simp [hi]
 ·simp [h]
theorem costL_pos {a : List Int} {B : Int} (hB : 0 ≤ B) (hc : B < costL a) : 0 < a.getD (lastM a 6) 0 := by
 rw [costL_eq] at hc
 have m := lastM_max a 6
 have m0 := m 0 (by omega)
 have m1 := m 1 (by omega)
 have m2 := m 2 (by omega)
 have m3 := m 3 (by omega)
 have m4 := m 4 (by omega)
 have m5 := m 5 (by omega)
 omega
theorem stp_ok {a : List Int} (h : OkA a) (hp : 0 < a.getD (lastM a 6) 0) : OkA (stpL a) := by
 have hl := lastM_lt6 a
 refine ⟨by rw [stpL, List.length_set, h.1], fun b hb => ?_⟩
 rw [stpL, getD_set' _ _ _ _ (by rw [h.1]; exact hl)]
 have := h.2 b hb
 have := h.2 _ hl
 split <;> omega
theorem sum_set (a : List Int) (i : Nat) (v : Int) (hi : i < a.length) : ∀ k, sumN (fun b => (a.set i v).getD b 0) k = sumN (fun b => a.getD b 0) k + if i < k then v - a.getD i 0 else 0
 | 0 => by simp [sumN]
 | k + 1 => by
  rw [sumN_succ, sumN_succ, sum_set a i v hi k, getD_set' _ _ _ _ hi]
  by_cases h : i = k
  ·subst h
   rw [if_pos rfl, if_neg (by omega), if_pos (by omega)]
   omega
  ·rw [if_neg h]
   by_cases h2 : i < k
   ·rw [if_pos h2, if_pos (by omega)]; omega
   ·rw [if_neg h2, if_neg (by omega)]; omega
theorem sumA_le {a : List Int} (h : OkA a) : sumA a ≤ 42 := by
 have := sumN_bd (fun b => if b < 6 then a.getD b 0 else 0) 7 6 fun i hi => by
  have := h.2 i hi
  show -7 ≤ (if i < 6 then a.getD i 0 else 0) ∧ (if i < 6 then a.getD i 0 else 0) ≤ 7
  rw [if_pos hi]; omega
 have e : sumN (fun b => a.getD b 0) 6 = sumN (fun b => if b < 6 then a.getD b 0 else 0) 6 := sumN_congr _ _ _ fun i hi => (if_pos hi).symm
 unfold sumA; rw [e]; omega
theorem sum_nonneg {a : List Int} (h : OkA a) : 0 ≤ sumN (fun b => a.getD b 0) 6 := sumN_nonneg _ fun i hi => (h.2 i hi).1
theorem stp_sum {a : List Int} (h : OkA a) (hp : 0 < a.getD (lastM a 6) 0) : sumA (stpL a) + 1 = sumA a := by
 have hl := lastM_lt6 a
 have h1 := sum_set a (lastM a 6) (a.getD (lastM a 6) 0 - 1) (by rw [h.1]; exact hl) 6
 rw [if_pos hl] at h1
 have h2 := sum_nonneg (stp_ok h hp)
 unfold stpL at h2
 unfold sumA stpL
 omega
def narL : Nat → List Int → Int → List Int
 | 0, a, _ => a
 | n + 1, a, B => if costL a ≤ B then a else narL n (stpL a) B
theorem nar_done {n : Nat} {a : List Int} {B : Int} (h : costL a ≤ B) : narL n a B = a := by
 cases n with
 | zero => rfl
 | succ n => rw [narL, if_pos h]
theorem nar_fuel {B : Int} (hB : 0 ≤ B) : ∀ (n m : Nat) (a : List Int), OkA a → sumA a ≤ n → sumA a ≤ m → narL n a B = narL m a B
 | n, m, a, h, hn, hm => by
  by_cases hc : costL a ≤ B
  ·rw [nar_done hc, nar_done hc]
  ·have hp := costL_pos (a := a) hB (by omega)
   have hs := stp_sum h hp
   match n, m with
   | n + 1, m + 1 =>
    rw [narL, narL, if_neg hc, if_neg hc]
    exact nar_fuel hB n m _ (stp_ok h hp) (by omega) (by omega)
   | 0, _ => omega
   | _ + 1, 0 => omega
theorem nar_step {B : Int} (hB : 0 ≤ B) {a : List Int} (h : OkA a) (hc : ¬ costL a ≤ B) : narL 42 a B = narL 42 (stpL a) B ∧ OkA (stpL a) := by
 have hp := costL_pos (a := a) hB (by omega)
 have hs := stp_sum h hp
 have h42 := sumA_le h
 refine ⟨?_, stp_ok h hp⟩
 rw [show (42 : Nat) = 41 + 1 from rfl, narL, if_neg hc]
 exact nar_fuel hB 41 (41 + 1) _ (stp_ok h hp) (by omega) (by omega)
theorem nar_ok {B : Int} (hB : 0 ≤ B) : ∀ (n : Nat) (a : List Int), OkA a → sumA a ≤ n → OkA (narL n a B) ∧ costL (narL n a B) ≤ B ∧ ∀ b, b < 6 → (narL n a B).getD b 0 ≤ a.getD b 0
 | n, a, h, hn => by
  by_cases hc : costL a ≤ B
  ·rw [nar_done hc]; exact ⟨h, hc, fun b _ => Int.le_refl _⟩
  ·have hp := costL_pos (a := a) hB (by omega)
   have hs := stp_sum h hp
   match n with
   | 0 => omega
   | n + 1 =>
    rw [narL, if_neg hc]
    obtain ⟨h1, h2, h3⟩ := nar_ok hB n _ (stp_ok h hp) (by omega)
    refine ⟨h1, h2, fun b hb => Int.le_trans (h3 b hb) ?_⟩
    have hl := lastM_lt6 a
    rw [stpL, getD_set' _ _ _ _ (by rw [h.1]; exact hl)]
    split
    ·rename_i e; rw [e]; omega
    ·exact Int.le_refl _
def shareL (l : List Int) (B : Int) : List Int := narL 42 (wishL l (maskL l)) B
theorem wish_ok (l m : List Int) : OkA (wishL l m) := ⟨tab_length _ _, fun b hb => by rw [wishL, tab_getD _ hb]; exact wishI_bd _ _⟩
theorem share_ok (l : List Int) {B : Int} (hB : 0 ≤ B) : OkA (shareL l B) ∧ costL (shareL l B) ≤ B := by
 have h := nar_ok hB 42 _ (wish_ok l (maskL l)) (sumA_le (wish_ok _ _))
 exact ⟨h.1, h.2.1⟩
theorem ri {k : IntKind} {a b : Int} (h : a = b) : Ending.returned (.int k a) = .returned (.int k b) := by rw [h]
theorem held_any (l : List Int) (w : World) (ll : l.length = 6) :
  Calls Tryz.prog 63 #[.agg (icells l)] w (ValQ w (.agg (icells (heldL l)))) := by
 have LL := Lib.hid ll
 have HM := Lib.hid (Mem.start w)
 clear ll
 go_enter Tryz.func63, Tryz.ntmps63
 go_wp2_with (first | (refine aNw ?_; first | (have q:dL HM = 0:=rfl;clear q HM;intro g1 u1 HM) | (have q:dL HM = 1:=rfl;clear q HM;intro g2 u2 HM) | (have q:dL HM = 2:=rfl;clear q HM;intro g3 u3 HM) | (have q:dL HM = 3:=rfl;clear q HM;intro g4 u4 HM)) | (refine aLo ?_) | (refine aSt ?_; clear HM; intro us HM; dsimp only [List.set] at HM) | (refine aZe ?_))
 go_loopw [6] (fun vi wr => ∃ k : Nat, k ≤ 6 ∧ vi = .int .i64 (k : Int) ∧ Hid (Mem w [(g2, 29, zr 6), (g1, 29, tab 6 (part2 k (fun b => max 0 (min (l.getD b 0) 255)) (fun b => l.getD b 0)))] wr)) (fun vi _ => 6 - (intOf vi).toNat)
 case atStart => exact ⟨0, by omega, rfl, Lib.hid (by rw [part2_none, tab_self LL.out]; exact HM.out)⟩
 case round =>
  clear HM
  obtain ⟨k, hk, rfl, HM⟩ := hrel
  by_cases hlt : k < 6
  ·have k6 : (k : Int) < 6 := by omega
   have hix := run_index 29 (n := 6) (by kernel_rfl) l LL.out k hlt
   have S1 := Lib.hid (part2_set (n := 6) (k := k) (fun b => max 0 (min (l.getD b 0) 255)) (fun b => l.getD b 0))
   have c3 := HM.out.cell (.tail _ (.head _)) (k := k) (by rw [tab_length]; omega)
   have f3 := HM.out.free (.tail _ (.head _)) k
   generalize List.getD (tab 6 _) k 0 = o at c3
   generalize l.getD k 0 = v at hix S1
   go_wp2
   have HM3 := Lib.hid (HM.out.put 1 rfl k (max 0 (min v 255)))
   simp only [List.set_cons_zero, List.set_cons_succ] at HM3
   rw [S1.out] at HM3
   clear HM c3 f3
   go_roundw
   case rel => exact ⟨k + 1, by omega, by go_num, HM3⟩
   case measure => simp [intOf]; omega
  ·obtain rfl : k = 6 := by omega
   rw [part2_all] at HM
   have LO := Lib.hid (show (heldL l).length = 6 from tab_length _ _)
   change Hid (Mem w [(g2, 29, zr 6), (g1, 29, heldL l)] wr) at HM
   go_wp2_with (first | (refine aNw ?_; first | (have q:dL HM = 0:=rfl;clear q HM;intro g1 u1 HM) | (have q:dL HM = 1:=rfl;clear q HM;intro g2 u2 HM) | (have q:dL HM = 2:=rfl;clear q HM;intro g3 u3 HM) | (have q:dL HM = 3:=rfl;clear q HM;intro g4 u4 HM)) | (refine aLo ?_) | (refine aSt ?_; clear HM; intro us HM; dsimp only [List.set] at HM) | (refine aZe ?_))
   refine bodyPost_ret (v := .agg (icells (heldL l))) (res_one rfl _ rfl arrLev HM (by exact q7e) LO) rfl ⟨rfl, HM.out.1⟩
theorem bcheck_any (l : List Int) (c : Bool) (z : Int) (w : World) (ll : l.length = 6) (hc : chkL l = c) (hz : (if c = true then 0 else 1) = z) :
  Calls Tryz.prog 42 #[.agg (icells l)] w (ValQ w (.int .i64 z)) := by
 have LL := Lib.hid ll
 have HM := Lib.hid (Mem.start w)
 have HH := Lib.hid (fun u => held_any l u ll)
 have LH := Lib.hid (show (heldL l).length = 6 from tab_length _ _)
 have hgd := grdLev
 cases c with
 | true =>
  obtain rfl : z = 0 := by rw [← hz]; rfl
  have heq := fun u => run_equalIn_same 29 (n := 6) (by kernel_rfl) l ll u
  rw [(held_iff ll).2 hc] at HH LH
  clear ll hc hz
  go_enter Tryz.func42, Tryz.ntmps42
  go_wp2_with (first | (refine aNw ?_; first | (have q:dL HM = 0:=rfl;clear q HM;intro g1 u1 HM) | (have q:dL HM = 1:=rfl;clear q HM;intro g2 u2 HM) | (have q:dL HM = 2:=rfl;clear q HM;intro g3 u3 HM) | (have q:dL HM = 3:=rfl;clear q HM;intro g4 u4 HM)) | (refine aLo ?_) | (refine aSt ?_; clear HM; intro us HM; dsimp only [List.set] at HM) | (refine aZe ?_))
  refine wp_region_held_drew (S := Mem w [(g1, 29, l)]) (by kernel_rfl) (HM.out.drew.sub (by exact q7u)) (fun hHeld => ?_)
  have HMd := Lib.hid HM.out.drew
  clear HM
  have HM := HMd
  clear HMd
  generalize World.drew _ = wd at HM hHeld ⊢
  (refine tk 0 rfl (yi_load rfl _ _ rfl rfl (by exact q7a) (fun u hu => hu) (by exact q7e) (by exact q7l)) ?_)
  (refine tk 2 rfl (yi_load rfl _ _ rfl rfl (by exact q7a) (fun u hu => hu) (by exact q7e) (by exact q7l)) ?_)
  refine wpAnyH_ready (rs := [1]) (by kernel_rfl) (by simp) ?_; refine AllReadyH.cons rfl (fun K hK => ?_) (AllReadyH.nil)
  rw [if_pos (by rfl)]; go_simp
  refine (HH.out _).mono ?_
  rintro e wb ⟨rfl, h1⟩
  replace HM := Lib.hid (HM.out.below h1)
  clear h1 HH hHeld
  go_wp2_with fail; refine hK.out _ _ (HM.out.sub (by exact q7u)) (fun hHeld => ?_); clear hK K; (try simp only [Act.put, qz1, qz2, qz3])
  (refine tkg 3 (.bool false) rfl ?_)
  refine wpAnyH_done (by kernel_rfl) ?_ _
  go_wp2
  go_ret
  exact ⟨rfl, HM.out.1⟩
 | false =>
  obtain rfl : z = 1 := by rw [← hz]; rfl
  have heq := fun u => run_equalIn_diff 29 (n := 6) (by kernel_rfl) (heldL l) l LH.out ll (fun e => by rw [(held_iff ll).1 e] at hc; cases hc) u
  clear ll hc hz
  generalize heldL l = m at HH LH heq
  go_enter Tryz.func42, Tryz.ntmps42
  go_wp2_with (first | (refine aNw ?_; first | (have q:dL HM = 0:=rfl;clear q HM;intro g1 u1 HM) | (have q:dL HM = 1:=rfl;clear q HM;intro g2 u2 HM) | (have q:dL HM = 2:=rfl;clear q HM;intro g3 u3 HM) | (have q:dL HM = 3:=rfl;clear q HM;intro g4 u4 HM)) | (refine aLo ?_) | (refine aSt ?_; clear HM; intro us HM; dsimp only [List.set] at HM) | (refine aZe ?_))
  refine wp_region_held_drew (S := Mem w [(g1, 29, l)]) (by kernel_rfl) (HM.out.drew.sub (by exact q7u)) (fun hHeld => ?_)
  have HMd := Lib.hid HM.out.drew
  clear HM
  have HM := HMd
  clear HMd
  generalize World.drew _ = wd at HM hHeld ⊢
  (refine tk 0 rfl (yi_load rfl _ _ rfl rfl (by exact q7a) (fun u hu => hu) (by exact q7e) (by exact q7l)) ?_)
  (refine tk 2 rfl (yi_load rfl _ _ rfl rfl (by exact q7a) (fun u hu => hu) (by exact q7e) (by exact q7l)) ?_)
  refine wpAnyH_ready (rs := [1]) (by kernel_rfl) (by simp) ?_; refine AllReadyH.cons rfl (fun K hK => ?_) (AllReadyH.nil)
  rw [if_pos (by rfl)]; go_simp
  refine (HH.out _).mono ?_
  rintro e wb ⟨rfl, h1⟩
  replace HM := Lib.hid (HM.out.below h1)
  clear h1 HH hHeld
  go_wp2_with fail; refine hK.out _ _ (HM.out.sub (by exact q7u)) (fun hHeld => ?_); clear hK K; (try simp only [Act.put, qz1, qz2, qz3])
  (refine tkg 3 (.bool true) rfl ?_)
  refine wpAnyH_done (by kernel_rfl) ?_ _
  go_wp2
  go_ret
  exact ⟨rfl, HM.out.1⟩
theorem drowned_any (l : List Int) (b : Nat) (w : World) (ll : l.length = 6) (hc : chkL l = true) (hb : b < 6) :
  Calls Tryz.prog 161 #[.agg (icells l), .int .i64 (b : Int)] w (ValQ w (.int .i64 (mkN l b 6))) := by
 have LL := Lib.hid ll
 have HC := Lib.hid hc
 have HM := Lib.hid (Mem.start w)
 have b6 : (b : Int) < 6 := by omega
 clear ll hc
 go_enter Tryz.func161, Tryz.ntmps161
 go_wp2_with (first | (refine aNw ?_; first | (have q:dL HM = 0:=rfl;clear q HM;intro g1 u1 HM) | (have q:dL HM = 1:=rfl;clear q HM;intro g2 u2 HM) | (have q:dL HM = 2:=rfl;clear q HM;intro g3 u3 HM) | (have q:dL HM = 3:=rfl;clear q HM;intro g4 u4 HM)) | (refine aLo ?_) | (refine aSt ?_; clear HM; intro us HM; dsimp only [List.set] at HM) | (refine aZe ?_))
 go_loop [5, 10] (fun vm vi => ∃ k : Nat, k ≤ 6 ∧ vi = .int .i64 (k : Int) ∧ vm = .int .i64 (mkN l b k)) (fun _ vi => 6 - (intOf vi).toNat)
 case atStart => exact ⟨0, by omega, rfl, rfl⟩
 case round =>
  obtain ⟨k, hk, rfl, rfl⟩ := hrel
  by_cases hlt : k < 6
  ·have k6 : (k : Int) < 6 := by omega
   have hix := run_index 29 (n := 6) (by kernel_rfl) l LL.out k hlt
   have hv := inR_bd HC.out (by omega) (by omega) k
   have hm := mkN_bd HC.out b k
   by_cases hkb : k = b
   ·subst hkb
    have HS := Lib.hid (mkN_self l k)
    have hd : ((k : Int) == (k : Int)) = true := by simp
    generalize mkN l k k = M at hm HS
    generalize l.getD k 0 = v at hix hv
    clear hv hm
    go_wp2
    go_round
    case rel => exact ⟨k + 1, by omega, by go_num, by rw [HS.out]⟩
    case measure => simp [intOf]; omega
   ·obtain ⟨D, hD⟩ : ∃ D : Int, max ((k : Int) - (b : Int)) ((b : Int) - (k : Int)) = D := ⟨_, rfl⟩
    have HS := Lib.hid (show mkN l b (k + 1) = max (mkN l b k) (l.getD k 0 - 12 * D - 8) by rw [← hD]; exact mkN_other l hkb)
    have d1 : 0 ≤ D := by omega
    have d2 : D ≤ 5 := by omega
    have hd : ((k : Int) == (b : Int)) = false := by simpa using fun h => hkb (by omega)
    generalize mkN l b k = M at hm HS
    generalize l.getD k 0 = v at hix hv HS
    obtain ⟨hv1, hv2⟩ := hv
    obtain ⟨hm1, hm2⟩ := hm
    clear hkb
    go_wp2
    go_round
    case rel => exact ⟨k + 1, by omega, by go_num, by rw [HS.out]⟩
    case measure => simp [intOf]; omega
  ·obtain rfl : k = 6 := by omega
   go_wp2
   go_ret
   exact ⟨rfl, HM.out.1⟩
theorem mask_bad (l : List Int) (w : World) (ll : l.length = 6) (hc : chkL l = false) :
  Calls Tryz.prog 132 #[.agg (icells l)] w (ValQ w (.tuple #[.agg (icells (zr 6)), .int .i64 1])) := by
 have LL := Lib.hid ll
 have LZ := Lib.hid (zr_length 6)
 have HM := Lib.hid (Mem.start w)
 have HC := Lib.hid (fun u => bcheck_any l false 1 u ll hc rfl)
 clear ll hc
 go_enter Tryz.func132, Tryz.ntmps132
 go_wp2_with (first | (refine aNw ?_; first | (have q:dL HM = 0:=rfl;clear q HM;intro g1 u1 HM) | (have q:dL HM = 1:=rfl;clear q HM;intro g2 u2 HM) | (have q:dL HM = 2:=rfl;clear q HM;intro g3 u3 HM) | (have q:dL HM = 3:=rfl;clear q HM;intro g4 u4 HM)) | (refine aLo ?_) | (refine aSt ?_; clear HM; intro us HM; dsimp only [List.set] at HM) | (refine aZe ?_))
 refine (HC.out _).mono ?_
 rintro e w2 ⟨rfl, h1⟩
 replace HM := Lib.hid (HM.out.below h1)
 clear h1 HC
 go_wp2_with (first | (refine aNw ?_; first | (have q:dL HM = 0:=rfl;clear q HM;intro g1 u1 HM) | (have q:dL HM = 1:=rfl;clear q HM;intro g2 u2 HM) | (have q:dL HM = 2:=rfl;clear q HM;intro g3 u3 HM) | (have q:dL HM = 3:=rfl;clear q HM;intro g4 u4 HM)) | (refine aLo ?_) | (refine aSt ?_; clear HM; intro us HM; dsimp only [List.set] at HM) | (refine aZe ?_))
 refine bodyPost_ret (v := .tuple #[.agg (icells (zr 6)), .int .i64 1]) (res_two rfl _ rfl rfl arrLev HM (by exact q7e) LZ) rfl ⟨rfl, HM.out.1⟩
theorem mask_good (l : List Int) (w : World) (ll : l.length = 6) (hc : chkL l = true) :
  Calls Tryz.prog 132 #[.agg (icells l)] w (ValQ w (.tuple #[.agg (icells (maskL l)), .int .i64 0])) := by
 have LL := Lib.hid ll
 have LZ := Lib.hid (zr_length 6)
 have HM := Lib.hid (Mem.start w)
 have HC := Lib.hid (fun u => bcheck_any l true 0 u ll hc rfl)
 have HD := Lib.hid (fun b u hb => drowned_any l b u ll hc hb)
 clear ll hc
 go_enter Tryz.func132, Tryz.ntmps132
 go_wp2_with (first | (refine aNw ?_; first | (have q:dL HM = 0:=rfl;clear q HM;intro g1 u1 HM) | (have q:dL HM = 1:=rfl;clear q HM;intro g2 u2 HM) | (have q:dL HM = 2:=rfl;clear q HM;intro g3 u3 HM) | (have q:dL HM = 3:=rfl;clear q HM;intro g4 u4 HM)) | (refine aLo ?_) | (refine aSt ?_; clear HM; intro us HM; dsimp only [List.set] at HM) | (refine aZe ?_))
 refine (HC.out _).mono ?_
 rintro e w2 ⟨rfl, h1⟩
 replace HM := Lib.hid (HM.out.below h1)
 clear h1 HC
 go_wp2_with (first | (refine aNw ?_; first | (have q:dL HM = 0:=rfl;clear q HM;intro g1 u1 HM) | (have q:dL HM = 1:=rfl;clear q HM;intro g2 u2 HM) | (have q:dL HM = 2:=rfl;clear q HM;intro g3 u3 HM) | (have q:dL HM = 3:=rfl;clear q HM;intro g4 u4 HM)) | (refine aLo ?_) | (refine aSt ?_; clear HM; intro us HM; dsimp only [List.set] at HM) | (refine aZe ?_))
 go_loopw [10] (fun vi wr => ∃ k : Nat, k ≤ 6 ∧ vi = .int .i64 (k : Int) ∧ Hid (Mem w [(g3, 29, tab 6 (part2 k (fun b => mkN l b 6) (fun _ => 0))), (g2, 29, zr 6), (g1, 29, l)] wr)) (fun vi _ => 6 - (intOf vi).toNat)
 case atStart => exact ⟨0, by omega, rfl, Lib.hid (by rw [part2_none, tab_zero]; exact HM.out)⟩
 case round =>
  clear HM
  obtain ⟨k, hk, rfl, HM⟩ := hrel
  by_cases hlt : k < 6
  ·have k6 : (k : Int) < 6 := by omega
   go_wp2_with (first | (refine aNw ?_; first | (have q:dL HM = 0:=rfl;clear q HM;intro g1 u1 HM) | (have q:dL HM = 1:=rfl;clear q HM;intro g2 u2 HM) | (have q:dL HM = 2:=rfl;clear q HM;intro g3 u3 HM) | (have q:dL HM = 3:=rfl;clear q HM;intro g4 u4 HM)) | (refine aLo ?_) | (refine aSt ?_; clear HM; intro us HM; dsimp only [List.set] at HM) | (refine aZe ?_))
   refine (HD.out k _ hlt).mono ?_
   rintro e wb ⟨rfl, h1⟩
   replace HM := Lib.hid (HM.out.below h1)
   clear h1
   have S1 := Lib.hid (part2_set (n := 6) (k := k) (fun b => mkN l b 6) (fun _ => 0))
   have c3 := HM.out.cell (.head _) (k := k) (by rw [tab_length]; omega)
   have f3 := HM.out.free (.head _) k
   generalize List.getD (tab 6 _) k 0 = o at c3
   generalize mkN l k 6 = q at S1
   go_wp2
   have HM3 := Lib.hid (HM.out.put 0 rfl k q)
   simp only [List.set_cons_zero] at HM3
   rw [S1.out] at HM3
   clear HM c3 f3
   go_roundw
   case rel => exact ⟨k + 1, by omega, by go_num, HM3⟩
   case measure => simp [intOf]; omega
  ·obtain rfl : k = 6 := by omega
   rw [part2_all] at HM
   have LO := Lib.hid (maskL_length l)
   change Hid (Mem w [(g3, 29, maskL l), (g2, 29, zr 6), (g1, 29, l)] wr) at HM
   go_wp2_with (first | (refine aNw ?_; first | (have q:dL HM = 0:=rfl;clear q HM;intro g1 u1 HM) | (have q:dL HM = 1:=rfl;clear q HM;intro g2 u2 HM) | (have q:dL HM = 2:=rfl;clear q HM;intro g3 u3 HM) | (have q:dL HM = 3:=rfl;clear q HM;intro g4 u4 HM)) | (refine aLo ?_) | (refine aSt ?_; clear HM; intro us HM; dsimp only [List.set] at HM) | (refine aZe ?_))
   refine bodyPost_ret (v := .tuple #[.agg (icells (maskL l)), .int .i64 0]) (res_two rfl _ rfl rfl arrLev HM (by exact q7e) LO) rfl ⟨rfl, HM.out.1⟩
theorem wished_any (v m : Int) (w : World) (h1 : 0 ≤ v) (h2 : v ≤ 255) (h3 : 0 ≤ m) (h4 : m ≤ 255) :
  Calls Tryz.prog 133 #[.int .i64 v, .int .i64 m] w fun e w' => e = .returned (.int .i64 (wishI v m)) ∧ w = w' := by
 by_cases h : v ≤ m
 ·have HV := Lib.hid (show wishI v m = 0 from if_pos h)
  go_enter Tryz.func133, Tryz.ntmps133
  go_wp2
  go_ret
  exact ⟨ri HV.out.symm, rfl⟩
 ·have HV := Lib.hid (show wishI v m = min ((v - m + 8 - 1) / 8) 7 by
   unfold wishI; rw [if_neg h]; omega)
  have h5 : m < v := by omega
  clear h
  go_enter Tryz.func133, Tryz.ntmps133
  go_wp2
  go_ret
  exact ⟨ri HV.out.symm, rfl⟩
theorem costN_bd {a : List Int} (h : OkA a) : ∀ k, k ≤ 6 → 0 ≤ costN a k ∧ costN a k ≤ 112 * (k : Int)
 | 0, _ => by simp [costN, sumN]
 | k + 1, hk => by
  have ih := costN_bd h k (by omega)
  have hv := h.2 k (by omega)
  have he := edg_all k (by omega)
  have hm := mul_bd (x := a.getD k 0) (y := (edg (k + 1) : Int) - (edg k : Int)) (A := 7) (B := 16) (by omega) (by omega) (by omega) (by omega)
  have hp := Int.mul_nonneg hv.1 (show 0 ≤ (edg (k + 1) : Int) - (edg k : Int) by omega)
  unfold costN at ih ⊢
  rw [sumN_succ]
  omega
theorem cost_any (a : List Int) (w : World) (ha : OkA a) (he : Edg w) :
  Calls Tryz.prog 163 #[.agg (icells a)] w (ValQ w (.int .i64 (costL a))) := by
 have HA := Lib.hid ha
 have LA := Lib.hid ha.1
 have HE := Lib.hid he
 have HM := Lib.hid (Mem.start w)
 clear ha he
 go_enter Tryz.func163, Tryz.ntmps163
 go_wp2_with (first | (refine aNw ?_; first | (have q:dL HM = 0:=rfl;clear q HM;intro g1 u1 HM) | (have q:dL HM = 1:=rfl;clear q HM;intro g2 u2 HM) | (have q:dL HM = 2:=rfl;clear q HM;intro g3 u3 HM) | (have q:dL HM = 3:=rfl;clear q HM;intro g4 u4 HM)) | (refine aLo ?_) | (refine aSt ?_; clear HM; intro us HM; dsimp only [List.set] at HM) | (refine aZe ?_))
 go_loopw [3, 7] (fun vs vi wr => ∃ k : Nat, k ≤ 6 ∧ vi = .int .i64 (k : Int) ∧ vs = .int .i64 (costN a k) ∧ Hid (Mem w [(g1, 165, a)] wr)) (fun _ vi _ => 6 - (intOf vi).toNat)
 case atStart => exact ⟨0, by omega, rfl, rfl, HM⟩
 case round =>
  clear HM
  obtain ⟨k, hk, rfl, rfl, HM⟩ := hrel
  by_cases hlt : k < 6
  ·have k6 : (k : Int) < 6 := by omega
   have hix := run_index 165 (n := 6) (by kernel_rfl) a LA.out k hlt
   obtain ⟨c1, c2⟩ := (HE.out.mem HM.out).cells hlt
   have hb := costN_bd HA.out k hk
   have hb2 := costN_bd HA.out (k + 1) (by omega)
   have hv := HA.out.2 k hlt
   have hed := edg_all k hlt
   have HS := Lib.hid (show costN a (k + 1) = costN a k + a.getD k 0 * ((edg (k + 1) : Int) - (edg k : Int)) from sumN_succ _ _)
   rw [HS.out] at hb2
   have hm := mul_bd (x := a.getD k 0) (y := (edg (k + 1) : Int) - (edg k : Int)) (A := 7) (B := 16) (by omega) (by omega) (by omega) (by omega)
   generalize costN a k = S at hb hb2 HS
   generalize a.getD k 0 = v at hix hv HS hb2 hm
   generalize edg k = lo at c1 hed HS hb2 hm
   generalize edg (k + 1) = hi at c2 hed HS hb2 hm
   obtain ⟨d, hd⟩ : ∃ d : Int, (hi : Int) - (lo : Int) = d := ⟨_, rfl⟩
   rw [hd] at HS hb2 hm
   have e1 : IntKind.i64.wrap ((k : Int) + 1) = (k : Int) + 1 := IntWalk.i64_in _ (by omega)
   have e2 : IntKind.i64.wrap ((hi : Int) - (lo : Int)) = d := by rw [hd]; exact IntWalk.i64_in _ (by omega)
   have e3 : IntKind.i64.wrap (v * d) = v * d := IntWalk.i64_in _ (by omega)
   have e4 : IntKind.i64.wrap (S + v * d) = S + v * d := IntWalk.i64_in _ (by omega)
   have e5 : ((k : Int) + 1).toNat = k + 1 := by omega
   have e6 : 0 ≤ (k : Int) + 1 := by omega
   have e7 : (k : Int) + 1 < 7 := by omega
   clear hd hb hb2 hv hm hed
   go_wp2_with fail
   go_quiet (fail)
   have HM2 := Lib.hid (HM.out.drewN nq)
   clear HM c1 c2 e1 e2 e3 e4 e5 e6 e7
   go_wp2
   go_roundw
   case rel => exact ⟨k + 1, by omega, by go_num, by rw [HS.out], HM2⟩
   case measure => simp [intOf]; omega
  ·obtain rfl : k = 6 := by omega
   go_wp2
   go_ret
   exact ⟨rfl, HM.out.1⟩
def bnd (n : Nat) : Nat := if n < 1 then 0 else if n < 2 then 1 else if n < 4 then 2 else if n < 6 then 3 else if n < 10 then 4 else 5
theorem bnd_all : ∀ n, n < 16 → bnd n < 6 ∧ edg (bnd n) ≤ n ∧ n < edg (bnd n + 1) ∧ ∀ k, k < 6 → (k < bnd n → edg k ≤ n ∧ edg (k + 1) ≤ n) := by decide
theorem of_good (n : Nat) (w : World) (hn : n < 16) (he : Edg w) :
  Calls Tryz.prog 94 #[.int .i64 (n : Int)] w fun e w' => e = .returned (.tuple #[.int .i64 (bnd n : Int), .int .i64 0]) ∧ w = w' := by
 have HE := Lib.hid he
 obtain ⟨b1, b2, b3, b4⟩ := bnd_all n hn
 have B4 := Lib.hid b4
 obtain ⟨m, hm⟩ : ∃ m, bnd n = m := ⟨_, rfl⟩
 rw [hm] at b1 b2 b3 B4
 rw [hm]
 clear he b4 hm
 go_enter Tryz.func94, Tryz.ntmps94
 go_wp2_with fail
 go_loop [5] (fun vi => ∃ k : Nat, k ≤ m ∧ vi = .int .i64 (k : Int)) (fun vi => 6 - (intOf vi).toNat)
 case atStart => exact ⟨0, by omega, rfl⟩
 case round =>
  obtain ⟨k, hk, rfl⟩ := hrel
  have k6 : (k : Int) < 6 := by omega
  have k7 : (k : Int) + 1 < 7 := by omega
  obtain ⟨c1, c2⟩ := HE.out.cells (show k < 6 by omega)
  by_cases hlt : k < m
  ·obtain ⟨l1, l2⟩ := B4.out k (by omega) hlt
   generalize edg k = lo at c1 l1
   generalize edg (k + 1) = hi at c2 l2
   have g1 : (lo : Int) ≤ (n : Int) := by omega
   have g2 : (hi : Int) ≤ (n : Int) := by omega
   go_wp2
   go_round
   case rel => exact ⟨k + 1, by omega, by go_num⟩
   case measure => simp [intOf]; omega
  ·obtain rfl : k = m := by omega
   generalize edg k = lo at c1 b2
   generalize edg (k + 1) = hi at c2 b3
   have g1 : (lo : Int) ≤ (n : Int) := by omega
   have g2 : (n : Int) < (hi : Int) := by omega
   go_wp2
   go_ret2
   exact ⟨rfl, rfl⟩
theorem edg_int : ∀ b, b < 7 → ([0, 1, 2, 4, 6, 10, 16] : List Int).getD b 0 = (edg b : Int) := by decide
open Go.RowKit Go.Shelf Fx Fq Tb
attribute [local go_sem] Oper.semAt_some
section
variable {P : Program} {l n : Nat} {a : Act} {w : World} {Q : Exit → Act → World → Prop} {ops : Array Oper}
theorem oper_in {o : Oper} {K : Act → World → Prop} (hnd : ∀ c, o.op ≠ .defer c) (h : o.wp P a w K Q) : o.wpIn (Fence.wide.inRound l) n P a w K Q := by
 refine ⟨fun _ _ => trivial, ?_⟩
 unfold Oper.wp at h
 rw [show (Fence.wide.inRound l).round = some l from rfl, Oper.semAt_some l _ _ hnd]
 generalize (execOp a.eval o).run P w = r at h ⊢
 cases r with
 | ok x w' =>
  cases x <;> first
   | exact h
   | exact h.elim
   | exact ⟨fun hd => (by cases hd), (callsIn_wide.2 h).inRound l⟩
   | exact ⟨fun hd => (by cases hd), fun c cs _ => let ⟨v, w'', r, s⟩ := h c cs; ⟨v, w'', r, stepsIn_wide.2 s⟩⟩
 | halt x w' => cases x <;> exact h
def undeferred (ops : Array Oper) : Bool := ops.toList.all fun o => match o.op with | .defer _ => false | _ => true
theorem undeferred_at (h : undeferred ops = true) {i : Nat} {o : Oper} (hi : ops[i]? = some o) (c) : o.op ≠ .defer c := fun e => by
 have hm : o ∈ ops.toList := by
  rw [← Array.getElem?_toList] at hi
  exact List.mem_of_getElem? hi
 have := List.all_eq_true.1 h o hm
 rw [e] at this
 cases this
theorem op_in (h : undeferred ops = true) (hno : ¬ LetsOut Q) {i : Nat} {K : Act → World → Prop} (hh : wpOp P ops Q i K a w) : wpOpIn (Fence.wide.inRound l) n P ops Q i K a w := by
 unfold wpOp at hh
 unfold wpOpIn
 cases ho : ops[i]? with
 | none => rw [ho] at hh; exact hh
 | some o =>
  rw [ho] at hh
  simp only at hh ⊢
  by_cases hw : Region.wanted o (yielded ops a.tmps) = true
  ·rw [if_pos hw] at hh ⊢
   exact oper_in (undeferred_at h ho) (hh.resolve_right fun k => hno k.2)
  ·rw [if_neg hw] at hh ⊢
   exact ⟨fun _ _ => trivial, hh⟩
theorem any_in {md : Region.Mode} (h : undeferred ops = true) (hno : ¬ LetsOut Q) : ∀ (fuel : Nat) (listed : Array Bool) (a : Act) (w : World), wpAny P md ops Q fuel listed a w → wpAnyIn (Fence.wide.inRound l) n P md ops Q fuel listed a w
 | 0, _, _, _, hh => hh
 | fuel + 1, _, _, _, hh => ⟨hh.1, fun i hi => wpOpIn_mono (fun a' w' h' => any_in h hno fuel _ a' w' h') (op_in h hno (hh.2 i hi))⟩
theorem round_held {S : World → Prop} {id : Nat} (hm : P.follows .mixedOrders = true) (h : undeferred ops = true) (hno : ¬ LetsOut Q) (hS : S w.drew)
  (hh : S w.drew → wpAnyH P .any ops Q S ops.size (Array.replicate ops.size false) a w.drew) : (Code.region id ops true).wpIn (Fence.wide.inRound l) n P Q a w :=
 wpIn_region_any hm (any_in h hno _ _ _ _ (wpAny_of_held _ _ _ _ (hh hS)))
end
def std (k : Nat) : List (Fin 6) := (List.range k).map fun i => (⟨5 - i, by omega⟩ : Fin 6)
theorem std_succ (k : Nat) : std (k + 1) = std k ++ [⟨5 - k, by omega⟩] := by
 unfold std; rw [List.range_succ, List.map_append]; rfl
theorem std_length (k : Nat) : (std k).length = k := by unfold std; rw [List.length_map, List.length_range]
theorem behind_stops (F : Fence) (n : Nat) (hF : F.fn 162) (hro : F.round = none) (hn : 1 ≤ n) (w : World) :
  SeqStopsK F n Tryz.prog 162 #[] (fun x : Fin 6 => #[.int .i64 ((x.val : Nat) : Int)]) KeepsWalks (fun xs => xs = std 6) (fun pre => ∃ k, k ≤ 6 ∧ pre = std k) 6 w := fun l J Jx W _ _ _ hY h0 => by
 refine callsIn_of_wp Tryz.func162 rfl hF ?_ hro
 simp only [Tryz.ntmps162, List.size_toArray, List.length_cons, List.length_nil, Nat.reduceAdd, Nat.reduceSub, Array.replicate_succ, Array.replicate_zero, List.push_toArray, List.append_toArray, List.nil_append, List.cons_append]
 gi_wp2
 gi_loopw [2] (fun p wr => ∃ (k : Nat) (z : Int), k ≤ 6 ∧ p = .int .i64 z ∧ Hid (z = 5 - (k : Int)) ∧ J (std k) wr) (fun p _ => (intOf p + 1).toNat)
 case atStart => exact ⟨0, 5, by omega, rfl, Lib.hid (by omega), h0⟩
 case round =>
  obtain ⟨k, z, hk, rfl, HZ, hJ⟩ := hrel
  have hz1 : -1 ≤ z := by have := HZ.out; omega
  have hz2 : z ≤ 5 := by have := HZ.out; omega
  by_cases hlt : k < 6
  ·have hz3 : 0 ≤ z := by have := HZ.out; omega
   obtain ⟨fn, tmps, assign, body, hy, hR⟩ := hY (std k) ⟨5 - k, by omega⟩ wr hJ (by rw [std_length]; exact hlt)
   have e : (((5 - k : Nat)) : Int) = z := by have := HZ.out; omega
   rw [← std_succ] at hR
   simp only [e] at hy
   clear e
   gi_wp2
   refine hR.mono ?_
   rintro e W3 (⟨rfl, hJ3, -⟩ | ⟨rfl, hJx3⟩)
   ·gi_wp2
    go_roundw
    case rel => exact ⟨k + 1, z - 1, by omega, rfl, Lib.hid (by have := HZ.out; omega), hJ3⟩
    case measure => simp [intOf]; omega
   ·gi_wp2
    refine bodyPost_ret (results_none rfl _ _ _) rfl ?_
    exact ⟨⟨_, rfl⟩, .inr ⟨std (k + 1), ⟨k + 1, by omega, rfl⟩, hJx3⟩⟩
  ·obtain rfl : k = 6 := by omega
   have hz3 : z < 0 := by have := HZ.out; omega
   gi_wp2
   go_end0
   exact ⟨⟨_, rfl⟩, .inl ⟨std 6, rfl, hJ⟩⟩
attribute [local go_sem] Oper.semAt_some
section
variable {ops : Array Oper} {rest : List Oper} {o : Oper} {a : Act} {w w0 : World} {Q : Exit → Act → World → Prop} {L : List (Nat × TypeId × List Int)}
theorem wl_box1 (hgd : Region.wanted o (yielded ops a.tmps) = true) (x : Operand) (ho : o.op = .box 3 x) {v : Int} (hx : a.eval x = .int .i64 v) (hm : Hid (Mem w0 L w))
  (h : ∀ g w', Hid (Mem w0 ((g, 3, [v]) :: L) w') → wpList Tryz.prog ops Q rest (a.put o.dst (.pointer (some ⟨g, 0, none⟩))) w') : wpList Tryz.prog ops Q (o :: rest) a w :=
 wl_step hgd fun K hK => by
  have := hK _ _ (h w.heap.size _ (Lib.hid (hm.out.alloc 3 [v])))
  unfold Oper.wp execOp
  simp only [ho, Instr.box, newVar, newRow, Sem.run_bind, hx, Result.andThen, Value.cells, Sem.run_pure]
  exact this
theorem wl_alloc1 (hgd : Region.wanted o (yielded ops a.tmps) = true) (ho : o.op = .alloc 3) (hm : Hid (Mem w0 L w))
  (h : ∀ g w', Hid (Mem w0 ((g, 3, [0]) :: L) w') → wpList Tryz.prog ops Q rest (a.put o.dst (.pointer (some ⟨g, 0, none⟩))) w') : wpList Tryz.prog ops Q (o :: rest) a w :=
 wl_step hgd fun K hK => by
  have hz : (zeroValue 3).run Tryz.prog w = .ok (.int .i64 0) w := by kernel_rfl
  have := hK _ _ (h w.heap.size _ (Lib.hid (hm.out.alloc 3 [0])))
  unfold Oper.wp execOp
  simp only [ho, Instr.alloc, newVar, newRow, Sem.run_bind, hz, Result.andThen, Value.cells, Sem.run_pure]
  exact this
theorem Mem.one (h : Mem w0 L w) {g : Nat} {v : Int} (hm : (g, 3, [v]) ∈ L) : w.cell? ⟨g, 0, none⟩ = some (.int .i64 v) := h.cell hm (k := 0) (by simp)
theorem Mem.put1 (h : Mem w0 L w) (i : Nat) {g : Nat} {x : Int} (hi : L[i]? = some (g, 3, [x])) (v : Int) : Mem w0 (L.set i (g, 3, [v])) (w.setCell ⟨g, 0, none⟩ (.int .i64 v)) := h.put i hi 0 v
theorem Mem.grows {row : Option Nat} {u' : World} {B : Nat} (h : Mem w0 L w) (hB : w0.heap.size ≤ B) (hg : w.grownBy u' row) (hr : ∀ r, row = some r → B ≤ r ∧ ∃ o : Obj, w.heap[r]? = some o ∧ o.isCells = false) : Mem w0 L u' := by
 have hne : ∀ i, (∃ T cs, Blk w i T cs) → some i ≠ row := fun i ⟨T, cs, hb⟩ e => by
  obtain ⟨-, o, ho, hc⟩ := hr i e.symm
  have hb' : w.heap[i]? = some (.cells cs T (0, 0)) := hb
  rw [hb'] at ho
  injection ho with ho
  subst ho
  cases hc
 have hbl : Below w0.heap.size w0 u' := by
  refine ⟨hg.os.trans h.1.os, hg.tape.trans h.1.tape, hg.output.trans h.1.output, Nat.le_trans h.1.size hg.size, fun i hi => (hg.block i (Nat.lt_of_lt_of_le hi h.1.size) (fun e => ?_)).trans (h.1.block i hi)⟩
  have := (hr i e.symm).1
  omega
 exact ⟨hbl, fun e he => (hg.block e.1 (h.2.1 e he).lt (hne e.1 ⟨_, _, h.2.1 e he⟩)).trans (h.2.1 e he), h.2.2.1, h.2.2.2⟩
end
theorem KeepsOthers.below {W W' : World} (h : Below W.heap.size W W') : KeepsOthers W W' := ⟨h.size, fun k _ hk _ => (h.block k (Array.getElem?_eq_some_iff.1 hk).1).trans hk⟩
section
variable {ops : Array Oper} {rest : List Oper} {o : Oper} {a : Act} {w w0 : World} {Q : Exit → Act → World → Prop} {L : List (Nat × TypeId × List Int)}
theorem KeepsOthers.row {g : Nat} {T : TypeId} {cs ds : Array Value} (h : Blk w g T cs) : KeepsOthers w (w.setRow g ds) :=
 KeepsOthers.of_grownBy (grown_row w g ds) fun j o e ho => by
  injection e with e
  subst e
  have h' : w.heap[g]? = some (.cells cs T (0, 0)) := h
  rw [h'] at ho
  injection ho with ho
  rw [← ho]; rfl
theorem wl_storeK (hgd : Region.wanted o (yielded ops a.tmps) = true) (T : TypeId) (x y : Operand) (ho : o.op = .store T x y) {g n : Nat} (hx : a.eval x = .pointer (some ⟨g, 0, none⟩)) {ys : List Int} (hy : a.eval y = .agg (icells ys)) (ha : Arr T n) {xs : List Int}
  (hm : Hid (Mem w0 L w)) (i : Nat) (hi : L[i]? = some (g, T, xs)) (hl : Hid (xs.length = n)) (hl' : Hid (ys.length = n))
  (h : ∀ w', Hid (Mem w0 (L.set i (g, T, ys)) w') → KeepsOthers w w' → wpList Tryz.prog ops Q rest (a.put o.dst undef) w') : wpList Tryz.prog ops Q (o :: rest) a w :=
 wl_step hgd fun K hK => by
  have := hK _ _ (h _ (Lib.hid (hm.out.row i hi ys)) (KeepsOthers.row (hm.out.get (List.mem_of_getElem? hi))))
  unfold Oper.wp execOp
  simp only [ho, hx, hy, Instr.storeAt, Instr.sureAddr, Sem.run_bind, Sem.run_pure, Result.andThen_ok, run_store_mem ha hm.out (List.mem_of_getElem? hi) hl.out hl'.out]
  exact this
theorem wl_alloc1K (hgd : Region.wanted o (yielded ops a.tmps) = true) (ho : o.op = .alloc 3) (hm : Hid (Mem w0 L w))
  (h : ∀ g w', Hid (Mem w0 ((g, 3, [0]) :: L) w') → KeepsOthers w w' → wpList Tryz.prog ops Q rest (a.put o.dst (.pointer (some ⟨g, 0, none⟩))) w') : wpList Tryz.prog ops Q (o :: rest) a w :=
 wl_step hgd fun K hK => by
  have hz : (zeroValue 3).run Tryz.prog w = .ok (.int .i64 0) w := by kernel_rfl
  have := hK _ _ (h w.heap.size _ (Lib.hid (hm.out.alloc 3 [0])) (KeepsOthers.alloc _ _))
  unfold Oper.wp execOp
  simp only [ho, Instr.alloc, newVar, newRow, Sem.run_bind, hz, Result.andThen, Value.cells, Sem.run_pure]
  exact this
end
def mark (D : Nat) : Deferred := { target := .collected D, args := #[] }
def Marks (B : Nat) (Ds : List Nat) (W : World) : Prop := Ds.Nodup ∧ ∀ D ∈ Ds, B ≤ D ∧ W.heap[D]? = some (.deferred (some []))
theorem Marks.keeps {B : Nat} {Ds : List Nat} {W W' : World} (h : Marks B Ds W) (hk : KeepsOthers W W') : Marks B Ds W' := ⟨h.1, fun D hD => ⟨(h.2 D hD).1, hk.same D _ (h.2 D hD).2 rfl⟩⟩
theorem Marks.lt {B : Nat} {Ds : List Nat} {W : World} (h : Marks B Ds W) {D : Nat} (hD : D ∈ Ds) : D < W.heap.size := (Array.getElem?_eq_some_iff.1 (h.2 D hD).2).1
theorem Marks.cons {B : Nat} {Ds : List Nat} {W : World} (h : Marks B Ds W) {D : Nat} (hlt : ∀ E ∈ Ds, E < D) (hB : B ≤ D) (hD : W.heap[D]? = some (.deferred (some []))) : Marks B (D :: Ds) W :=
 ⟨List.nodup_cons.2 ⟨fun hm => Nat.lt_irrefl _ (hlt D hm), h.1⟩, fun E hE => by
  rcases List.mem_cons.1 hE with rfl | hE
  ·exact ⟨hB, hD⟩
  ·exact h.2 E hE⟩
theorem Marks.grows {A B : Nat} {Ds : List Nat} {W W' : World} {row : Option Nat} (h : Marks A Ds W) (hlt : ∀ D ∈ Ds, D < B) (hg : W.grownBy W' row) (hr : ∀ r, row = some r → B ≤ r ∧ ∃ o : Obj, W.heap[r]? = some o ∧ o.isCells = false) : Marks A Ds W' :=
 ⟨h.1, fun D hD => ⟨(h.2 D hD).1, (hg.block D (h.lt hD) (fun e => by have := (hr D e.symm).1; have := hlt D hD; omega)).trans (h.2 D hD).2⟩⟩
structure Shut (Ds : List Nat) (W W' : World) : Prop where
 os : W'.os = W.os
 tape : W'.tape = W.tape
 output : W'.output = W.output
 size : W'.heap.size = W.heap.size
 same : ∀ i, i ∉ Ds → W'.heap[i]? = W.heap[i]?
theorem Shut.mem {w0 W W' : World} {L : List (Nat × TypeId × List Int)} {Ds : List Nat} (h : Mem w0 L W) (hM : Marks w0.heap.size Ds W) (hs : Shut Ds W W') : Mem w0 L W' := by
 refine ⟨⟨hs.os.trans h.1.os, hs.tape.trans h.1.tape, hs.output.trans h.1.output, by rw [hs.size]; exact h.1.size, fun i hi => (hs.same i (fun hm => by have := (hM.2 i hm).1; omega)).trans (h.1.block i hi)⟩, fun e he => (hs.same e.1 (fun hm => ?_)).trans (h.2.1 e he), h.2.2⟩
 have h1 := (hM.2 _ hm).2
 have h2 : W.heap[e.1]? = some (.cells (icells e.2.2) e.2.1 (0, 0)) := h.2.1 e he
 rw [h2] at h1
 injection h1 with h1
 cases h1
theorem leaves_marks {F : Fence} {n : Nat} {P : Program} {fn : Func} {tmps : Array Value} {R : Ending → World → Prop} : ∀ (Ds : List Nat) (W : World), Ds.Nodup → (∀ D ∈ Ds, W.heap[D]? = some (.deferred (some []))) →
  (∀ W', Shut Ds W W' → ∃ v, (results fn tmps).run P W' = .ok v W' ∧ R (.returned v) W') → LeavesInM F n P fn tmps R (Ds.map mark) .returning W
 | [], W, _, _, h => h W ⟨rfl, rfl, rfl, rfl, fun _ _ => rfl⟩
 | D :: Ds, W, hn, hd, h => by
  have hn2 := List.nodup_cons.1 hn
  refine ⟨by simp, .inl ⟨D, W.putObj D (.deferred none), rfl, run_takeDeferred (hd D (.head _)), leaves_marks Ds _ hn2.2 (fun E hE => ?_) fun W' hs => h W' ?_⟩⟩
  ·exact (World.putObj_heap_other (fun e => hn2.1 (by rw [← e]; exact hE))).trans (hd E (.tail _ hE))
  ·have hg := grownBy_putObj' W D (.deferred none)
   refine ⟨hs.os.trans hg.os, hs.tape.trans hg.tape, hs.output.trans hg.output, by rw [hs.size]; simp, fun i hi => ?_⟩
   have h1 : i ∉ Ds := fun hm => hi (.tail _ hm)
   have h2 : i ≠ D := fun e => hi (by rw [e]; exact .head _)
   exact (hs.same i h1).trans (World.putObj_heap_other h2)
theorem std_snoc {pre : List (Fin 6)} {x : Fin 6} {k : Nat} (h : pre ++ [x] = std k) : ∃ j, k = j + 1 ∧ pre = std j ∧ x.val = 5 - j := by
 cases k with
 | zero => exact absurd (congrArg List.length h) (by rw [List.length_append, std_length]; simp)
 | succ j =>
  rw [std_succ] at h
  obtain ⟨h1, h2⟩ := List.append_inj' h rfl
  refine ⟨j, rfl, h1, ?_⟩
  injection h2 with h2
  rw [h2]
def FitM (w : World) (B : Int) (g1 g2 g3 gw n : Nat) (cur : List Int) (W : World) : Prop := Mem w [(gw, 3, [(n : Int)]), (g3, 165, zr 6), (g2, 3, [B]), (g1, 165, cur)] W
def FitI (w : World) (B : Int) (R : List Int) (g1 g2 g3 gw n : Nat) (Ds : List Nat) (W : World) : Prop :=
 ∃ cur, OkA cur ∧ narL 42 cur B = R ∧ (∀ b, b < 6 → cur.getD b 0 ≤ (n : Int)) ∧ n ≤ 7 ∧ FitM w B g1 g2 g3 gw n cur W ∧ Marks w.heap.size Ds W
def FitJ (w : World) (B : Int) (R : List Int) (g1 g2 g3 gw n : Nat) (Ds : List Nat) (pre : List (Fin 6)) (W : World) : Prop :=
 ∃ cur, OkA cur ∧ FitM w B g1 g2 g3 gw n cur W ∧ Marks w.heap.size Ds W ∧
  ∀ k, k ≤ 6 → pre = std k → narL 42 cur B = R ∧ ∀ b, b < 6 → cur.getD b 0 ≤ (n : Int) ∧ (6 ≤ b + k → cur.getD b 0 < (n : Int))
def FitX (w : World) (B : Int) (R : List Int) (g1 g2 g3 gw n : Nat) (Ds : List Nat) (c : Code) (pre : List (Fin 6)) (W : World) : Prop :=
 c = .exit 0 ∧ ∃ cur, OkA cur ∧ FitM w B g1 g2 g3 gw n cur W ∧ Marks w.heap.size Ds W ∧ ∀ k, k ≤ 6 → pre = std k → cur = R
section
variable {w : World} {B : Int} {R : List Int} {g1 g2 g3 gw n A : Nat} {Ds : List Nat}
theorem fitJ_own (hA : w.heap.size ≤ A) (hD : ∀ D ∈ Ds, D < A) : OwnFrom A (FitJ w B R g1 g2 g3 gw n Ds) := fun s W W' row h hg hr => by
 obtain ⟨cur, h1, h2, h3, h4⟩ := h
 exact ⟨cur, h1, Mem.grows h2 hA hg hr, h3.grows hD hg hr, h4⟩
theorem fitX_own (hA : w.heap.size ≤ A) (hD : ∀ D ∈ Ds, D < A) (c : Code) : OwnFrom A (FitX w B R g1 g2 g3 gw n Ds c) := fun s W W' row h hg hr => by
 obtain ⟨hc, cur, h1, h2, h3, h4⟩ := h
 exact ⟨hc, cur, h1, Mem.grows h2 hA hg hr, h3.grows hD hg hr, h4⟩
end
theorem fit_take {B : Int} {R cur : List Int} {n j : Nat} (hB : 0 ≤ B) (hok : OkA cur) (hj : j < 6) (hinv : narL 42 cur B = R ∧ ∀ b, b < 6 → cur.getD b 0 ≤ (n : Int) ∧ (6 ≤ b + j → cur.getD b 0 < (n : Int)))
  (hc : ¬ costL cur ≤ B) (hv : cur.getD (5 - j) 0 = (n : Int)) : narL 42 (cur.set (5 - j) ((n : Int) - 1)) B = R ∧ ∀ b, b < 6 → (cur.set (5 - j) ((n : Int) - 1)).getD b 0 ≤ (n : Int) ∧ (6 ≤ b + (j + 1) → (cur.set (5 - j) ((n : Int) - 1)).getD b 0 < (n : Int)) := by
 have hl : lastM cur 6 = 5 - j := lastM_is (by omega) (fun b hb => by rw [hv]; exact (hinv.2 b hb).1) fun b hb hlt => by rw [hv]; exact (hinv.2 b hb).2 (by omega)
 have hs : stpL cur = cur.set (5 - j) ((n : Int) - 1) := by unfold stpL; rw [hl, hv]
 refine ⟨by rw [← hs, ← (nar_step hB hok hc).1]; exact hinv.1, fun b hb => ?_⟩
 rw [getD_set' _ _ _ _ (by rw [hok.1]; omega)]
 by_cases e : 5 - j = b
 ·rw [if_pos e]; omega
 ·rw [if_neg e]
  exact ⟨(hinv.2 b hb).1, fun h => (hinv.2 b hb).2 (by omega)⟩
theorem fit_pass {B : Int} {R cur : List Int} {n j : Nat} (hj : j < 6) (hinv : narL 42 cur B = R ∧ ∀ b, b < 6 → cur.getD b 0 ≤ (n : Int) ∧ (6 ≤ b + j → cur.getD b 0 < (n : Int)))
  (hv : ¬ cur.getD (5 - j) 0 = (n : Int)) : narL 42 cur B = R ∧ ∀ b, b < 6 → cur.getD b 0 ≤ (n : Int) ∧ (6 ≤ b + (j + 1) → cur.getD b 0 < (n : Int)) :=
 ⟨hinv.1, fun b hb => ⟨(hinv.2 b hb).1, fun h => by
  by_cases e : b = 5 - j
  ·have := (hinv.2 b hb).1
   rw [e] at this ⊢
   omega
  ·exact (hinv.2 b hb).2 (by omega)⟩⟩
theorem ok_set {cur : List Int} (h : OkA cur) {b : Nat} {v : Int} (hb : b < 6) (h1 : 0 ≤ v) (h2 : v ≤ 7) : OkA (cur.set b v) :=
 ⟨by rw [List.length_set, h.1], fun k hk => by
  rw [getD_set' _ _ _ _ (by rw [h.1]; exact hb)]
  have := h.2 k hk
  split <;> omega⟩
theorem fit_any (a : List Int) (B : Int) (w : World) (ha : OkA a) (hB : 0 ≤ B) (he : Edg w) :
  Calls Tryz.prog 134 #[.agg (icells a), .int .i64 B] w (ValQ w (.agg (icells (narL 42 a B)))) := by
 have HA := Lib.hid ha
 have LA := Lib.hid ha.1
 have HE := Lib.hid he
 have HM := Lib.hid (Mem.start w)
 obtain ⟨R, hR0⟩ : ∃ R, narL 42 a B = R := ⟨_, rfl⟩
 rw [hR0]
 have HR := Lib.hid hR0
 have LR := Lib.hid (show R.length = 6 by rw [← hR0]; exact (nar_ok hB 42 a ha (sumA_le ha)).1.1)
 have HB := Lib.hid hB
 clear ha he hR0 hB
 refine (callsIn_wide (n := 3)).1 (callsIn_of_wp_marks Tryz.func134 rfl trivial ?_ rfl)
 refine wpIn_wide.2 ?_
 simp only [Tryz.ntmps134, List.size_toArray, List.length_cons, List.length_nil, Nat.reduceAdd, Nat.reduceSub, Array.replicate_succ, Array.replicate_zero, List.push_toArray, List.append_toArray, List.nil_append, List.cons_append]
 go_wp2_with (first | (first | (refine aNw ?_; first | (have q:dL HM = 0:=rfl;clear q HM;intro g1 u1 HM) | (have q:dL HM = 1:=rfl;clear q HM;intro g2 u2 HM) | (have q:dL HM = 2:=rfl;clear q HM;intro g3 u3 HM) | (have q:dL HM = 3:=rfl;clear q HM;intro g4 u4 HM) | (have q:dL HM = 4:=rfl;clear q HM;intro g5 u5 HM) | (have q:dL HM = 5:=rfl;clear q HM;intro g6 u6 HM) | (have q:dL HM = 6:=rfl;clear q HM;intro g7 u7 HM) | (have q:dL HM = 7:=rfl;clear q HM;intro g8 u8 HM) | (have q:dL HM = 8:=rfl;clear q HM;intro g9 u9 HM) | (have q:dL HM = 9:=rfl;clear q HM;intro g10 u10 HM) | (have q:dL HM = 10:=rfl;clear q HM;intro g11 u11 HM) | (have q:dL HM = 11:=rfl;clear q HM;intro g12 u12 HM) | (have q:dL HM = 12:=rfl;clear q HM;intro g13 u13 HM) | (have q:dL HM = 13:=rfl;clear q HM;intro g14 u14 HM)) | (refine aLo ?_) | (refine aSt ?_; clear HM; intro us HM; dsimp only [List.set] at HM) | (refine aZe ?_)) | (refine wl_box1 rfl _ rfl rfl HM ?_; clear HM; intro g2 u2 HM))
 go_step3
 go_wp2
 go_step3
 go_wp2_with (first | (refine wl_alloc1 rfl rfl HM ?_; clear HM; intro g4 u4 HM; have c4 := HM.out.one (.head _); have f4 := HM.out.free (.head _) 0))
 have HI := Lib.hid (show FitI w B R g1 g2 g3 g4 7 [] (u4.setCell ⟨g4, 0, none⟩ (.int .i64 7)) from ⟨a, HA.out, HR.out, fun b hb => (HA.out.2 b hb).2, by omega, HM.out.put1 0 rfl 7, ⟨List.nodup_nil, fun D hD => (by cases hD)⟩⟩)
 clear HM c4 f4 HA LA HR
 generalize World.setCell _ _ _ = W0 at HI ⊢
 refine wp_loop_ghost (fun n act W => ∃ (gw : Nat) (Ds : List Nat) (u6 u7 u8 u9 u10 u11 u12 u13 u14 u15 u16 u17 u18 u19 u20 u21 u22 u23 u24 u25 u26 u27 : Value),
  act = { tmps := #[.agg (icells a), .int .i64 B, .pointer (some ⟨g1, 0, none⟩), .pointer (some ⟨g2, 0, none⟩), .pointer (some ⟨g3, 0, none⟩), .pointer (some ⟨gw, 0, none⟩), u6, u7, u8, u9, u10, u11, u12, u13, u14, u15, u16, u17, u18, u19, u20, u21, u22, u23, u24, u25, u26, u27], defers := Ds.map mark } ∧ Hid (FitI w B R g1 g2 g3 gw n Ds W)) 7 ⟨g4, [], _, _, _, _, _, _, _, _, _, _, _, _, _, _, _, _, _, _, _, _, _, _, rfl, HI⟩ ?_
 clear HI
 rintro n act W ⟨gw, Ds, u6, u7, u8, u9, u10, u11, u12, u13, u14, u15, u16, u17, u18, u19, u20, u21, u22, u23, u24, u25, u26, u27, rfl, HI⟩
 obtain ⟨cur, hok, hnar, hle, hn7, hM, hMk⟩ := HI.out
 clear HI
 have HM := Lib.hid hM
 have HK := Lib.hid hMk
 have HO := Lib.hid hok
 have c5 : W.cell? ⟨gw, 0, none⟩ = some (.int .i64 (n : Int)) := Mem.one hM (.head _)
 by_cases hn : n = 0
 ·subst hn
  have hcur : cur = R := by
   rw [← hnar, nar_done]
   rw [costL_eq]
   have h0 := hle 0 (by omega)
   have h1 := hle 1 (by omega)
   have h2 := hle 2 (by omega)
   have h3 := hle 3 (by omega)
   have h4 := hle 4 (by omega)
   have h5 := hle 5 (by omega)
   have := HB.out
   omega
  have HQ := Lib.hid hcur
  clear hcur hnar hle hM hMk hok
  rw [HQ.out] at HM
  unfold FitM at HM
  clear HQ HO
  go_wp2_with (first | (refine aLo ?_) | (refine wl_storeK rfl _ _ _ rfl rfl rfl arrAll HM 1 rfl (by exact q7l) LR ?_; clear HM; intro us HM hko; have HK2 := Lib.hid (HK.out.keeps hko); clear HK hko; simp only [List.set_cons_zero, List.set_cons_succ] at HM))
  refine leaves_marks Ds _ HK2.out.1 (fun D hD => (HK2.out.2 D hD).2) fun W' hs => ?_
  have hm := Shut.mem HM.out HK2.out hs
  exact ⟨_, res_one rfl _ rfl arrAll (Lib.hid hm) (by exact q7e) LR, rfl, hm.1⟩
 ·have hn1 : 0 < (n : Int) := by omega
  have HN := Lib.hid hnar
  have HLE := Lib.hid hle
  clear hnar hle hM hMk hok
  have hn0 : 0 < n := by omega
  go_wp2_with fail
  clear c5 hn1
  have hD : ∀ D ∈ Ds, D < W.heap.size := fun D hD => HK.out.lt hD
  have HDL := Lib.hid hD
  refine (wpIn_wide (n := 3)).1 ?_
  refine wpIn_rangeFunc_ownF (F := Fence.wide) (n := 3) rfl (by omega) (gf := 162) (lb := #[]) rfl trivial (enters_of Tryz.func162 (by kernel_rfl) rfl) (behind_stops Fence.wide 2 trivial rfl (by omega) W) walksK_t walksK_b (Below.refl _ _) (fun _ => rfl)
   (FitJ w B R g1 g2 g3 gw n Ds) (FitX w B R g1 g2 g3 gw n Ds) (fitJ_own HM.out.1.size hD) (fitX_own HM.out.1.size hD)
   ⟨cur, HO.out, HM.out, HK.out, fun k hk e => by
    obtain rfl : k = 0 := by have := congrArg List.length e; rw [std_length] at this; simpa using this.symm
    exact ⟨HN.out, fun b hb => ⟨HLE.out b hb, fun h => by omega⟩⟩⟩
   (fun x => { tmps := #[.agg (icells a), .int .i64 B, .pointer (some ⟨g1, 0, none⟩), .pointer (some ⟨g2, 0, none⟩), .pointer (some ⟨g3, 0, none⟩), .pointer (some ⟨gw, 0, none⟩), (.int .i64 ((x.val : Nat) : Int)), .int .i64 (n : Int), .bool true, u9, u10, (.int .i64 ((x.val : Nat) : Int)), u12, u13, u14, u15, u16, u17, u18, u19, u20, u21, u22, u23, u24, u25, u26, u27], defers := [] }) ?assign ?body ?done ?stop
  case assign =>
   intro l x W' K hK
   gi_wp2
   exact hK
  case body =>
   clear HK HN HLE HO HM hD
   rintro l pre x W1 ⟨cur1, hok1, hM1, hK1, hinv⟩ -
   have HM := Lib.hid (show Mem w [(gw, 3, [(n : Int)]), (g3, 165, zr 6), (g2, 3, [B]), (g1, 165, cur1)] W1 from hM1)
   have HK := Lib.hid hK1
   have HO := Lib.hid hok1
   have LC := Lib.hid hok1.1
   have HV := Lib.hid hinv
   obtain ⟨b, hb⟩ := x
   have hb6 : (b : Int) < 6 := by omega
   clear hok1 hM1 hK1 hinv
   obtain ⟨C, hC⟩ : ∃ C, costL cur1 = C := ⟨_, rfl⟩
   have HC := Lib.hid hC
   have HCst := Lib.hid (fun u (hu : Edg u) => cost_any cur1 u HO.out hu)
   rw [hC] at HCst
   have HH2 := Lib.hid (fun (u : World) (hu : Mem w [(gw, 3, [(n : Int)]), (g2, 3, [B]), (g1, 165, cur1)] u) => hu.one (.tail _ (.head _)))
   have H1 := Lib.hid (fun (u : World) (hu : Mem w [(gw, 3, [(n : Int)]), (g1, 165, cur1)] u) => hu.cell (.tail _ (.head _)) (k := b) (by rw [LC.out]; omega))
   have H2 := Lib.hid (fun (u : World) (hu : Mem w [(gw, 3, [(n : Int)]), (g1, 165, cur1)] u) => hu.one (.head _))
   obtain ⟨v, hv⟩ : ∃ v, cur1.getD b 0 = v := ⟨_, rfl⟩
   rw [hv] at H1
   have HVV := Lib.hid hv
   clear hC hv
   gi_wp2
   refine round_held (S := Mem w [(gw, 3, [(n : Int)]), (g2, 3, [B]), (g1, 165, cur1)]) (by kernel_rfl) (by rfl) (fun ⟨_, _, h⟩ => h) (HM.out.drew.sub (by exact q7u)) (fun hHeld => ?_)
   have HMd := Lib.hid HM.out.drew
   have HKo := Lib.hid (KeepsOthers.drew W1)
   clear HM
   have HM := HMd
   clear HMd
   generalize World.drew _ = wd at HM HKo hHeld ⊢
   (refine tk 0 rfl (yi_load rfl _ _ rfl rfl (by exact q7a) (fun u hu => hu) (by exact q7e) (by exact q7l)) ?_)
   (refine tk 2 rfl (yi_cell rfl _ rfl rfl (HH2).out) ?_)
   refine wpAnyH_ready (rs := [1]) (by kernel_rfl) (by simp) ?_; refine AllReadyH.cons rfl (fun K hK => ?_) (AllReadyH.nil)
   rw [if_pos (by rfl)]; go_simp
   refine (HCst.out _ (HE.out.mem HM.out)).mono ?_
   rintro e wb ⟨rfl, h1⟩
   have HM2 := Lib.hid (HM.out.below h1)
   have HKo2 := Lib.hid (HKo.out.trans (KeepsOthers.below h1))
   clear h1 HM hHeld HKo HCst
   have HM := HM2
   have HKo := HKo2
   clear HM2 HKo2
   go_wp2_with fail; refine hK.out _ _ (HM.out.sub (by exact q7u)) (fun hHeld => ?_); clear hK K; (try simp only [Act.put, qz1, qz2, qz3])
   by_cases hc : C ≤ B
   ·have hd : decide (C ≤ B) = true := decide_eq_true hc
    (refine tkg 3 (.bool true) rfl ?_)
    refine wpAnyH_done (by kernel_rfl) ?_ _
    clear hd
    gi_wp2
    exact ⟨HKo.out, rfl, cur1, HO.out, HM.out, HK.out.keeps HKo.out, fun k hk e => by
     obtain ⟨j, rfl, hj, -⟩ := std_snoc e
     have := (HV.out j (by omega) hj).1
     rw [nar_done (by rw [HC.out]; exact hc)] at this
     exact this⟩
   ·have hd : decide (C ≤ B) = false := decide_eq_false hc
    (refine tkg 3 (.bool false) rfl ?_)
    refine wpAnyH_done (by kernel_rfl) ?_ _
    clear hd
    gi_wp2
    refine round_held (S := Mem w [(gw, 3, [(n : Int)]), (g1, 165, cur1)]) (by kernel_rfl) (by rfl) (fun ⟨_, _, h⟩ => h) (HM.out.drew.sub (by exact q7u)) (fun hHeld => ?_)
    have HMd := Lib.hid HM.out.drew
    have HKo2 := Lib.hid (HKo.out.trans (KeepsOthers.drew wb))
    clear HM HKo
    have HM := HMd
    have HKo := HKo2
    clear HMd HKo2
    generalize World.drew _ = wd2 at HM HKo hHeld ⊢
    (refine tk 0 rfl (yi_free rfl (fun u => rfl)) ?_)
    (refine tkg 1 (.pointer (some ⟨g1, b, none⟩)) rfl ?_)
    (refine tk 2 rfl (yi_cell rfl _ rfl rfl (H1).out) ?_)
    (refine tk 3 rfl (yi_cell rfl _ rfl rfl (H2).out) ?_)
    by_cases hvn : v = (n : Int)
    ·have hd : (v == (n : Int)) = true := by simpa using hvn
     (refine tkg 4 (.bool true) rfl ?_)
     refine wpAnyH_done (by kernel_rfl) ?_ _
     have c7 := HM.out.cell (.tail _ (.tail _ (.tail _ (.head _)))) (k := b) (by rw [LC.out]; omega)
     have f7 := HM.out.free (.tail _ (.tail _ (.tail _ (.head _)))) b
     rw [HVV.out, hvn] at c7
     clear hd H1 H2 HH2 hHeld
     have HVN := Lib.hid hvn
     clear hvn
     gi_wp2
     have HM2 := HM.out.put 3 rfl b ((n : Int) - 1)
     simp only [List.set_cons_zero, List.set_cons_succ] at HM2
     have hks := HKo.out.trans (KeepsOthers.setCell wd2 ⟨g1, b, none⟩ (.int .i64 ((n : Int) - 1)))
     refine ⟨hks, hks.walks, cur1.set b ((n : Int) - 1), ok_set HO.out hb (by omega) (by omega), HM2, HK.out.keeps hks, fun k hk e => ?_⟩
     obtain ⟨j, rfl, hj, hx⟩ := std_snoc e
     obtain rfl : b = 5 - j := hx
     exact fit_take HB.out HO.out (by omega) (HV.out j (by omega) hj) (by rw [HC.out]; omega) (by rw [HVV.out, HVN.out])
    ·have hd : (v == (n : Int)) = false := by simpa using hvn
     (refine tkg 4 (.bool false) rfl ?_)
     refine wpAnyH_done (by kernel_rfl) ?_ _
     clear hd H1 H2 HH2 hHeld
     gi_wp2
     refine ⟨HKo.out, HKo.out.walks, cur1, HO.out, HM.out, HK.out.keeps HKo.out, fun k hk e => ?_⟩
     obtain ⟨j, rfl, hj, hx⟩ := std_snoc e
     obtain rfl : b = 5 - j := hx
     exact fit_pass (by omega) (HV.out j (by omega) hj) (by rw [HVV.out]; exact hvn)
  case done =>
   have HWS := Lib.hid HM.out.1.size
   clear HK HN HLE HO HM hD
   rintro D xs W1 hDW rfl ⟨cur1, hok1, hM1, hK1, hinv⟩ hDef
   obtain ⟨hnar1, hle1⟩ := hinv 6 (by omega) rfl
   have HN := Lib.hid hnar1
   have HLE := Lib.hid hle1
   have HO := Lib.hid hok1
   have HM := Lib.hid (show Mem w [(gw, 3, [(n : Int)]), (g3, 165, zr 6), (g2, 3, [B]), (g1, 165, cur1)] W1 from hM1)
   have HK := Lib.hid (hK1.cons (fun E hE => Nat.lt_of_lt_of_le (HDL.out E hE) hDW) (Nat.le_trans HWS.out hDW) hDef)
   have c5 : W1.cell? ⟨gw, 0, none⟩ = some (.int .i64 (n : Int)) := Mem.one HM.out (.head _)
   have hn1 : 0 < (n : Int) := by omega
   have hn8 : (n : Int) ≤ 7 := by omega
   clear hok1 hM1 hK1 hinv hnar1 hle1 hDef hDW
   go_wp2_with (first | (refine wl_alloc1K rfl rfl HM ?_; clear HM; intro g5 u5 HM hko; have HK2 := Lib.hid (HK.out.keeps hko); clear HK hko; have c6 := HM.out.one (.head _); have f6 := HM.out.free (.head _) 0))
   have HM2 := (HM.out.put1 0 rfl (n : Int)).put1 0 rfl ((n : Int) - 1)
   simp only [List.set_cons_zero] at HM2
   have hks := (KeepsOthers.setCell u5 ⟨g5, 0, none⟩ (.int .i64 (n : Int))).trans (KeepsOthers.setCell _ ⟨g5, 0, none⟩ (.int .i64 ((n : Int) - 1)))
   have e : ((n - 1 : Nat) : Int) = (n : Int) - 1 := by omega
   refine ⟨n - 1, by omega, g5, D :: Ds, _, _, _, _, _, _, _, _, _, _, _, _, _, _, _, _, _, _, _, _, _, _, rfl, Lib.hid ⟨cur1, HO.out, HN.out, fun b hb => by have := (HLE.out b hb).2 (by omega); omega, by omega, ?_, HK2.out.keeps hks⟩⟩
   unfold FitM
   rw [e]
   exact HM2.sub (by exact q7u)
  case stop =>
   have HWS := Lib.hid HM.out.1.size
   clear HK HN HLE HO HM hD
   rintro D c pre W1 hDW ⟨k, hk, rfl⟩ ⟨rfl, cur1, hok1, hM1, hK1, hinv⟩ hDef
   have hcur := hinv k hk rfl
   rw [hcur] at hM1
   have HM := Lib.hid (show Mem w [(gw, 3, [(n : Int)]), (g3, 165, zr 6), (g2, 3, [B]), (g1, 165, R)] W1 from hM1)
   have HK := Lib.hid (hK1.cons (fun E hE => Nat.lt_of_lt_of_le (HDL.out E hE) hDW) (Nat.le_trans HWS.out hDW) hDef)
   clear hok1 hM1 hK1 hinv hDef hDW hcur
   refine wpIn_wide.2 ?_
   go_wp2_with (first | (refine aLo ?_) | (refine wl_storeK rfl _ _ _ rfl rfl rfl arrAll HM 1 rfl (by exact q7l) LR ?_; clear HM; intro us HM hko; have HK2 := Lib.hid (HK.out.keeps hko); clear HK hko; simp only [List.set_cons_zero, List.set_cons_succ] at HM))
   refine leaves_marks (D :: Ds) _ HK2.out.1 (fun D hD => (HK2.out.2 D hD).2) fun W' hs => ?_
   have hm := Shut.mem HM.out HK2.out hs
   exact ⟨_, res_one rfl _ rfl arrAll (Lib.hid hm) (by exact q7e) LR, rfl, hm.1⟩
def shareV (l : List Int) (B : Int) : Value := if chkL l = true ∧ 0 ≤ B then .tuple #[.agg (icells (shareL l B)), .int .i64 0] else .tuple #[.agg (icells (zr 6)), .int .i64 1]
theorem share_bad1 (l : List Int) (B : Int) (w : World) (ll : l.length = 6) (hc : chkL l = false) :
  Calls Tryz.prog 93 #[.agg (icells l), .int .i64 B] w (ValQ w (.tuple #[.agg (icells (zr 6)), .int .i64 1])) := by
 have LL := Lib.hid ll
 have LZ := Lib.hid (zr_length 6)
 have HM := Lib.hid (Mem.start w)
 have HC := Lib.hid (fun u => mask_bad l u ll hc)
 clear ll hc
 go_enter Tryz.func93, Tryz.ntmps93
 go_wp2_with (first | (refine aNw ?_; first | (have q:dL HM = 0:=rfl;clear q HM;intro g1 u1 HM) | (have q:dL HM = 1:=rfl;clear q HM;intro g2 u2 HM) | (have q:dL HM = 2:=rfl;clear q HM;intro g3 u3 HM) | (have q:dL HM = 3:=rfl;clear q HM;intro g4 u4 HM)) | (refine aLo ?_) | (refine aSt ?_; clear HM; intro us HM; dsimp only [List.set] at HM) | (refine aZe ?_))
 refine (HC.out _).mono ?_
 rintro e w2 ⟨rfl, h1⟩
 replace HM := Lib.hid (HM.out.below h1)
 clear h1 HC
 go_wp2_with (first | (refine aNw ?_; first | (have q:dL HM = 0:=rfl;clear q HM;intro g1 u1 HM) | (have q:dL HM = 1:=rfl;clear q HM;intro g2 u2 HM) | (have q:dL HM = 2:=rfl;clear q HM;intro g3 u3 HM) | (have q:dL HM = 3:=rfl;clear q HM;intro g4 u4 HM)) | (refine aLo ?_) | (refine aSt ?_; clear HM; intro us HM; dsimp only [List.set] at HM) | (refine aZe ?_))
 refine bodyPost_ret (v := .tuple #[.agg (icells (zr 6)), .int .i64 1]) (res_two rfl _ rfl rfl arrAll HM (by exact q7e) LZ) rfl ⟨rfl, HM.out.1⟩
theorem share_bad2 (l : List Int) (B : Int) (w : World) (ll : l.length = 6) (hc : chkL l = true) (hB : B < 0) :
  Calls Tryz.prog 93 #[.agg (icells l), .int .i64 B] w (ValQ w (.tuple #[.agg (icells (zr 6)), .int .i64 1])) := by
 have LL := Lib.hid ll
 have LZ := Lib.hid (zr_length 6)
 have LM := Lib.hid (maskL_length l)
 have HM := Lib.hid (Mem.start w)
 have HC := Lib.hid (fun u => mask_good l u ll hc)
 generalize maskL l = m at HC LM
 clear ll hc
 go_enter Tryz.func93, Tryz.ntmps93
 go_wp2_with (first | (refine aNw ?_; first | (have q:dL HM = 0:=rfl;clear q HM;intro g1 u1 HM) | (have q:dL HM = 1:=rfl;clear q HM;intro g2 u2 HM) | (have q:dL HM = 2:=rfl;clear q HM;intro g3 u3 HM) | (have q:dL HM = 3:=rfl;clear q HM;intro g4 u4 HM)) | (refine aLo ?_) | (refine aSt ?_; clear HM; intro us HM; dsimp only [List.set] at HM) | (refine aZe ?_))
 refine (HC.out _).mono ?_
 rintro e w2 ⟨rfl, h1⟩
 replace HM := Lib.hid (HM.out.below h1)
 clear h1 HC
 go_wp2_with (first | (refine aNw ?_; first | (have q:dL HM = 0:=rfl;clear q HM;intro g1 u1 HM) | (have q:dL HM = 1:=rfl;clear q HM;intro g2 u2 HM) | (have q:dL HM = 2:=rfl;clear q HM;intro g3 u3 HM) | (have q:dL HM = 3:=rfl;clear q HM;intro g4 u4 HM)) | (refine aLo ?_) | (refine aSt ?_; clear HM; intro us HM; dsimp only [List.set] at HM) | (refine aZe ?_))
 refine bodyPost_ret (v := .tuple #[.agg (icells (zr 6)), .int .i64 1]) (res_two rfl _ rfl rfl arrAll HM (by exact q7e) LZ) rfl ⟨rfl, HM.out.1⟩
theorem share_good (l : List Int) (B : Int) (w : World) (ll : l.length = 6) (hc : chkL l = true) (hB : 0 ≤ B) (he : Edg w) :
  Calls Tryz.prog 93 #[.agg (icells l), .int .i64 B] w (ValQ w (.tuple #[.agg (icells (shareL l B)), .int .i64 0])) := by
 have LL := Lib.hid ll
 have HE := Lib.hid he
 have LZ := Lib.hid (zr_length 6)
 have LM := Lib.hid (maskL_length l)
 have LS := Lib.hid (share_ok l hB).1.1
 have HM := Lib.hid (Mem.start w)
 have HC := Lib.hid (fun u => mask_good l u ll hc)
 have HF := Lib.hid (fun u (hu : Edg u) => fit_any (wishL l (maskL l)) B u (wish_ok _ _) hB hu)
 rw [show narL 42 (wishL l (maskL l)) B = shareL l B from rfl] at HF
 have HL := Lib.hid (fun k => inR_bd hc (by omega) (by omega) k)
 have HB := Lib.hid (fun (k : Nat) (hk : k < 6) => mask_bd hc hk)
 obtain ⟨m, hm⟩ : ∃ m, maskL l = m := ⟨_, rfl⟩
 rw [hm] at HC LM HB HF
 clear ll hc he hm
 go_enter Tryz.func93, Tryz.ntmps93
 go_wp2_with (first | (refine aNw ?_; first | (have q:dL HM = 0:=rfl;clear q HM;intro g1 u1 HM) | (have q:dL HM = 1:=rfl;clear q HM;intro g2 u2 HM) | (have q:dL HM = 2:=rfl;clear q HM;intro g3 u3 HM) | (have q:dL HM = 3:=rfl;clear q HM;intro g4 u4 HM) | (have q:dL HM = 4:=rfl;clear q HM;intro g5 u5 HM)) | (refine aLo ?_) | (refine aSt ?_; clear HM; intro us HM; dsimp only [List.set] at HM) | (refine aZe ?_))
 refine (HC.out _).mono ?_
 rintro e w2 ⟨rfl, h1⟩
 replace HM := Lib.hid (HM.out.below h1)
 clear h1 HC
 go_wp2_with (first | (refine aNw ?_; first | (have q:dL HM = 0:=rfl;clear q HM;intro g1 u1 HM) | (have q:dL HM = 1:=rfl;clear q HM;intro g2 u2 HM) | (have q:dL HM = 2:=rfl;clear q HM;intro g3 u3 HM) | (have q:dL HM = 3:=rfl;clear q HM;intro g4 u4 HM) | (have q:dL HM = 4:=rfl;clear q HM;intro g5 u5 HM)) | (refine aLo ?_) | (refine aSt ?_; clear HM; intro us HM; dsimp only [List.set] at HM) | (refine aZe ?_))
 go_loopw [22] (fun vi wr => ∃ k : Nat, k ≤ 6 ∧ vi = .int .i64 (k : Int) ∧ Hid (Mem w [(g4, 165, tab 6 (part2 k (fun b => wishI (l.getD b 0) (m.getD b 0)) (fun _ => 0))), (g3, 29, m), (g2, 165, zr 6), (g1, 29, l)] wr)) (fun vi _ => 6 - (intOf vi).toNat)
 case atStart => exact ⟨0, by omega, rfl, Lib.hid (by rw [part2_none, tab_zero]; exact HM.out)⟩
 case round =>
  clear HM
  obtain ⟨k, hk, rfl, HM⟩ := hrel
  by_cases hlt : k < 6
  ·have k6 : (k : Int) < 6 := by omega
   have S1 := Lib.hid (part2_set (n := 6) (k := k) (fun b => wishI (l.getD b 0) (m.getD b 0)) (fun _ => 0))
   have H1 := Lib.hid (fun (u : World) (hu : Mem w [(g3, 29, m), (g1, 29, l)] u) => hu.cell (.tail _ (.head _)) (k := k) (by rw [LL.out]; exact hlt))
   have H2 := Lib.hid (fun (u : World) (hu : Mem w [(g3, 29, m), (g1, 29, l)] u) => hu.cell (.head _) (k := k) (by rw [LM.out]; exact hlt))
   have HW := Lib.hid (fun u => wished_any (l.getD k 0) (m.getD k 0) u (HL.out k).1 (HL.out k).2 (HB.out k hlt).1 (HB.out k hlt).2)
   generalize l.getD k 0 = x at H1 HW S1
   generalize m.getD k 0 = y at H2 HW S1
   generalize wishI x y = z at HW S1
   go_wp2_with fail
   refine wp_region_held_drew (S := Mem w [(g3, 29, m), (g1, 29, l)]) (by kernel_rfl) (HM.out.drew.sub (by exact q7u)) (fun hHeld => ?_)
   have HMd := Lib.hid HM.out.drew
   clear HM
   have HM := HMd
   clear HMd
   generalize World.drew _ = wd at HM hHeld ⊢
   (refine tk 0 rfl (yi_free rfl (fun u => rfl)) ?_)
   (refine tk 1 rfl (yi_free rfl (fun u => rfl)) ?_)
   (refine tkg 2 (.pointer (some ⟨g1, k, none⟩)) rfl ?_)
   (refine tk 3 rfl (yi_cell rfl _ rfl rfl (H1).out) ?_)
   (refine tk 4 rfl (yi_free rfl (fun u => rfl)) ?_)
   (refine tkg 5 (.pointer (some ⟨g3, k, none⟩)) rfl ?_)
   (refine tk 6 rfl (yi_cell rfl _ rfl rfl (H2).out) ?_)
   refine wpAnyH_ready (rs := [7]) (by kernel_rfl) (by simp) ?_; refine AllReadyH.cons rfl (fun K hK => ?_) (AllReadyH.nil)
   rw [if_pos (by rfl)]; go_simp
   refine (HW.out _).mono ?_
   rintro e wb ⟨rfl, rfl⟩
   clear hHeld
   go_wp2_with fail; refine hK.out _ _ (HM.out.sub (by exact q7u)) (fun hHeld => ?_); clear hK K; (try simp only [Act.put, qz1, qz2, qz3])
   (refine tkg 8 (.pointer (some ⟨g4, k, none⟩)) rfl ?_)
   have c1 := HM.out.cell (.head _) (k := k) (by rw [tab_length]; exact hlt)
   have f1 := HM.out.free (.head _) k
   generalize List.getD (tab 6 _) k 0 = o at c1
   refine wpAnyH_ready (rs := [9]) (by kernel_rfl) (by simp) ?_; refine AllReadyH.cons rfl (fun K hK => ?_) (AllReadyH.nil)
   rw [if_pos (by rfl)]; go_simp
   have HM3 := Lib.hid (HM.out.put 0 rfl k z)
   simp only [List.set_cons_zero] at HM3
   rw [S1.out] at HM3
   clear HM c1 f1 hHeld
   have HM := HM3
   clear HM3
   go_wp2_with fail; refine hK.out _ _ (HM.out.sub (by exact q7u)) (fun hHeld => ?_); clear hK K; (try simp only [Act.put, qz1, qz2, qz3])
   refine wpAnyH_done (by kernel_rfl) ?_ _
   clear H1 H2
   go_wp2
   go_roundw
   case rel => exact ⟨k + 1, by omega, by go_num, HM⟩
   case measure => simp [intOf]; omega
  ·obtain rfl : k = 6 := by omega
   rw [part2_all] at HM
   change Hid (Mem w [(g4, 165, wishL l m), (g3, 29, m), (g2, 165, zr 6), (g1, 29, l)] wr) at HM
   have LW := Lib.hid (show (wishL l m).length = 6 from tab_length _ _)
   go_wp2_with (first | (refine aNw ?_; first | (have q:dL HM = 0:=rfl;clear q HM;intro g1 u1 HM) | (have q:dL HM = 1:=rfl;clear q HM;intro g2 u2 HM) | (have q:dL HM = 2:=rfl;clear q HM;intro g3 u3 HM) | (have q:dL HM = 3:=rfl;clear q HM;intro g4 u4 HM) | (have q:dL HM = 4:=rfl;clear q HM;intro g5 u5 HM)) | (refine aLo ?_) | (refine aSt ?_; clear HM; intro us HM; dsimp only [List.set] at HM) | (refine aZe ?_))
   refine (HF.out _ (HE.out.mem HM.out)).mono ?_
   rintro e w2 ⟨rfl, h1⟩
   replace HM := Lib.hid (HM.out.below h1)
   clear h1 HF
   go_wp2_with (first | (refine aNw ?_; first | (have q:dL HM = 0:=rfl;clear q HM;intro g1 u1 HM) | (have q:dL HM = 1:=rfl;clear q HM;intro g2 u2 HM) | (have q:dL HM = 2:=rfl;clear q HM;intro g3 u3 HM) | (have q:dL HM = 3:=rfl;clear q HM;intro g4 u4 HM) | (have q:dL HM = 4:=rfl;clear q HM;intro g5 u5 HM)) | (refine aLo ?_) | (refine aSt ?_; clear HM; intro us HM; dsimp only [List.set] at HM) | (refine aZe ?_))
   refine bodyPost_ret (v := .tuple #[.agg (icells (shareL l B)), .int .i64 0]) (res_two rfl _ rfl rfl arrAll HM (by exact q7e) LS) rfl ⟨rfl, HM.out.1⟩
theorem bshare_any (l : List Int) (B : Int) (w : World) (ll : l.length = 6) (he : Edg w) : Calls Tryz.prog 93 #[.agg (icells l), .int .i64 B] w (ValQ w (shareV l B)) := by
 unfold shareV
 by_cases h : chkL l = true
 ·by_cases hB : 0 ≤ B
  ·rw [if_pos ⟨h, hB⟩]; exact share_good l B w ll h hB he
  ·rw [if_neg (fun k => hB k.2)]; exact share_bad2 l B w ll h (by omega)
 ·rw [if_neg (fun k => h k.1)]; exact share_bad1 l B w ll (by simpa using h)
def x2 : List Int := 0 :: 1048576 :: List.replicate 14 0
def m2 : List Int := [0, 161, 0, 0, 0, 0]
def a2 : List Int := [0, 7, 0, 0, 0, 0]
theorem meas_zero : measL (zr 16) = zr 6 := by decide +kernel
def mostN (k : Nat) : Nat := 2 ^ k - 1
def peakN (l : Nat) : Nat := (8 + l % 8) * 2 ^ (l / 8) / 8 + 1
def stepN (l k : Nat) : Nat := (peakN l + mostN k - 1) / mostN k
theorem mostN_pos {k : Nat} (h : 1 ≤ k) : 1 ≤ mostN k := by
 obtain ⟨j, rfl⟩ : ∃ j, k = j + 1 := ⟨k - 1, by omega⟩
 have := Nat.two_pow_pos j
 unfold mostN; rw [Nat.pow_succ]; omega
theorem mostN_bd : ∀ k, k ≤ 7 → mostN k ≤ 127 := by decide
theorem peakN_bd : ∀ l, l < 256 → 2 ≤ peakN l ∧ peakN l ≤ 4026531841 := by decide +kernel
theorem stepN_bd {l k : Nat} (hl : l < 256) (hk : 1 ≤ k) (hk7 : k ≤ 7) : 1 ≤ stepN l k ∧ stepN l k ≤ 4026531967 := by
 have hm := mostN_pos hk
 have hm7 := mostN_bd k hk7
 have hp := peakN_bd l hl
 constructor
 ·unfold stepN
  exact (Nat.le_div_iff_mul_le (by omega)).2 (by omega)
 ·unfold stepN
  exact Nat.le_trans (Nat.div_le_self _ _) (by omega)
def clampI (v by' : Int) : Int := min (max v (-by')) by'
def mostV (v : Int) : Nat := mostN (min (max v 0) 7).toNat
theorem two_pow_le31 {i : Nat} (h : i ≤ 31) : 2 ^ i ≤ 2147483648 := Nat.pow_le_pow_right (n := 2) (i := i) (j := 31) (by omega) h
theorem arrHop : Arr 26 16 := ⟨⟨.array 16 3, by kernel_rfl, rfl⟩, by kernel_rfl⟩
def stF (l a : List Int) (n : Nat) : Int := if 0 < a.getD (bnd n) 0 then (stepN (l.getD (bnd n) 0).toNat (a.getD (bnd n) 0).toNat : Int) else 0
def moF (a : List Int) (n : Nat) : Int := if 0 < a.getD (bnd n) 0 then (mostN (a.getD (bnd n) 0).toNat : Int) else 0
theorem moF_is (a : List Int) (n : Nat) : moF a n = if 0 < a.getD (bnd n) 0 then (mostN (a.getD (bnd n) 0).toNat : Int) else 0 := rfl
def stL (l a : List Int) : List Int := tab 16 (stF l a)
def moL (a : List Int) : List Int := tab 16 (moF a)
def ssL (l : List Int) : List Int := if chkL l = true then stL l (shareL l 120) else zr 16
def msL (l : List Int) : List Int := if chkL l = true then moL (shareL l 120) else zr 16
def asL (l : List Int) : List Int := if chkL l = true then shareL l 120 else zr 6
theorem part2_skip {n k : Nat} {f g : Nat → Int} (h : f k = g k) : tab n (part2 k f g) = tab n (part2 (k + 1) f g) := tab_congr fun i _ => by
 unfold part2
 by_cases e : i = k
 ·subst e; rw [if_neg (by omega), if_pos (by omega), h]
 ·by_cases h1 : i < k
  ·rw [if_pos h1, if_pos (by omega)]
  ·rw [if_neg h1, if_neg (by omega)]
theorem ssL_length (l : List Int) : (ssL l).length = 16 := by unfold ssL; split; exact tab_length _ _; exact zr_length _
theorem msL_length (l : List Int) : (msL l).length = 16 := by unfold msL; split; exact tab_length _ _; exact zr_length _
theorem asL_length (l : List Int) : (asL l).length = 6 := by unfold asL; split; exact (share_ok l (B := 120) (by decide)).1.1; exact zr_length _
theorem msL_bd (l : List Int) {k : Nat} (hk : k < 16) : 0 ≤ (msL l).getD k 0 ∧ (msL l).getD k 0 ≤ 127 := by
 unfold msL
 split
 ·unfold moL
  rw [tab_getD _ hk]
  unfold moF
  have h := (share_ok l (B := 120) (by decide)).1.2 (bnd k) (bnd_all k hk).1
  split
  ·have := mostN_bd ((shareL l 120).getD (bnd k) 0).toNat (by omega)
   omega
  ·omega
 ·rw [zr_getD]; omega
theorem ssL_bd (l : List Int) {k : Nat} (hk : k < 16) : 0 ≤ (ssL l).getD k 0 ∧ (ssL l).getD k 0 ≤ 4026531967 := by
 unfold ssL
 split
 ·rename_i hc
  unfold stL
  rw [tab_getD _ hk]
  unfold stF
  have h := (share_ok l (B := 120) (by decide)).1.2 (bnd k) (bnd_all k hk).1
  have hl := inR_bd hc (by omega) (by omega) (bnd k)
  split
  ·have := stepN_bd (l := (l.getD (bnd k) 0).toNat) (k := ((shareL l 120).getD (bnd k) 0).toNat) (by omega) (by omega) (by omega)
   omega
  ·omega
 ·rw [zr_getD]; omega
def mayN (q m : List Int) : Nat → Bool
 | 0 => true
 | k + 1 => mayN q m k && (decide (-(m.getD k 0) ≤ q.getD k 0) && decide (q.getD k 0 ≤ m.getD k 0))
theorem mayN_succ (q m : List Int) (k : Nat) : mayN q m (k + 1) = (mayN q m k && (decide (-(m.getD k 0) ≤ q.getD k 0) && decide (q.getD k 0 ≤ m.getD k 0))) := rfl
def mayB (q l : List Int) : Bool := chkL l && mayN q (msL l) 16
theorem mayN_at {q m : List Int} : ∀ n k, k < n → mayN q m n = true → -(m.getD k 0) ≤ q.getD k 0 ∧ q.getD k 0 ≤ m.getD k 0
 | n + 1, k, hk, h => by
  rw [mayN_succ, Bool.and_eq_true, Bool.and_eq_true, decide_eq_true_eq, decide_eq_true_eq] at h
  by_cases e : k = n
  ·subst e; exact h.2
  ·exact mayN_at n k (by omega) h.1
def greatF (q s : List Int) (n : Nat) : Int := clampI (q.getD n 0 * s.getD n 0) 67108864
def greatL (q l : List Int) : List Int := tab 16 (greatF q (ssL l))
def greatV (q l : List Int) : Value := if mayB q l = true then .tuple #[.agg (icells (greatL q l)), .int .i64 0] else .tuple #[.agg (icells (zr 16)), .int .i64 1]
theorem mulq_bd {a b m n : Int} (h1 : -m ≤ a) (h2 : a ≤ m) (h3 : 0 ≤ b) (h4 : b ≤ n) (hm : 0 ≤ m) : -(m * n) ≤ a * b ∧ a * b ≤ m * n := by
 have k1 : a * b ≤ m * b := Int.mul_le_mul_of_nonneg_right h2 h3
 have k2 : -m * b ≤ a * b := Int.mul_le_mul_of_nonneg_right h1 h3
 have k3 : m * b ≤ m * n := Int.mul_le_mul_of_nonneg_left h4 hm
 rw [Int.neg_mul] at k2
 omega
def smallF (x s m : List Int) (n : Nat) : Int := if 0 < s.getD n 0 then clampI (divI (x.getD n 0) (s.getD n 0)) (m.getD n 0) else 0
theorem smallF_is (x s m : List Int) (n : Nat) : smallF x s m n = if 0 < s.getD n 0 then min (max (divI (x.getD n 0) (s.getD n 0)) (-(m.getD n 0))) (m.getD n 0) else 0 := rfl
def smallL (x l : List Int) : List Int := tab 16 (smallF x (ssL l) (msL l))
def smallV (x l : List Int) : Value := if chkL l = true ∧ okX x = true then .tuple #[.agg (icells (smallL x l)), .agg (icells (asL l)), .int .i64 0] else .tuple #[.agg (icells (zr 16)), .agg (icells (zr 6)), .int .i64 1]
def nextS (t : Int) : Int := (1664525 * t + 1013904223) % 4294967296
def seedN (t : Int) : Nat → Int
 | 0 => t
 | k + 1 => nextS (seedN t k)
theorem seedN_succ (t : Int) (k : Nat) : seedN t (k + 1) = nextS (seedN t k) := rfl
theorem nextS_bd (t : Int) : 0 ≤ nextS t ∧ nextS t < 4294967296 := by unfold nextS; omega
theorem seedN_bd {t : Int} (h : 0 ≤ t ∧ t < 4294967296) : ∀ k, 0 ≤ seedN t k ∧ seedN t k < 4294967296
 | 0 => h
 | _ + 1 => nextS_bd _
def noiseR (t : Int) (p : Nat) : Int := roundI ((t / 65536 - 32768) * (p : Int)) 18
def noiseF (t : Int) (l : List Int) (n : Nat) : Int := if 0 < l.getD (bnd n) 0 then clampI (noiseR (seedN t (n + 1)) (peakN (l.getD (bnd n) 0).toNat)) 67108864 else 0
def noiseL (t : Int) (l : List Int) : List Int := tab 16 (noiseF t l)
def noiseV (t : Int) (l : List Int) : Value := if chkL l = true then .tuple #[.agg (icells (noiseL t l)), .int .u32 (seedN t 16), .int .i64 0] else .tuple #[.agg (icells (zr 16)), .int .u32 0, .int .i64 1]
theorem res_css {fn : Func} {p u v : Tmp} {ty : TypeId} (h : fn.results = #[.cell p ty, .tmp u, .tmp v]) (tmps : Array Value) {w w0 : World} {L : List (Nat × TypeId × List Int)} {g n : Nat} {xs : List Int} {a b : Value}
  (hp : tmps.getD p undef = .pointer (some ⟨g, 0, none⟩)) (hu : tmps.getD u undef = a) (hv : tmps.getD v undef = b) (ha : Arr ty n) (hm : Hid (Mem w0 L w)) (hin : (g, ty, xs) ∈ L) (hl : Hid (xs.length = n)) :
  (results fn tmps).run Tryz.prog w = .ok (.tuple #[.agg (icells xs), a, b]) w := by
 have hp' : tmps[p]?.getD undef = .pointer (some ⟨g, 0, none⟩) := by simpa using hp
 have hu' : tmps[u]?.getD undef = a := by simpa using hu
 have hv' : tmps[v]?.getD undef = b := by simpa using hv
 simp [results, h, hp', hu', hv', asAddr, Result.andThen, run_load_mem ha hm.out hin hl.out]
end Go.Proofs.YtkdbhndegkldcaaGreatDoor.Lp
namespace Go.Proofs.YtkdbhndegkldcaaGreatDoor.Cd
def kind (low high : Nat) : Nat := if high < 2147483648 then 0 else if 2147483648 ≤ low then 1 else if 1073741824 ≤ low ∧ high < 3221225472 then 2 else 3
def takeK (k : Nat) : Nat := if k = 1 then 2147483648 else if k = 2 then 1073741824 else 0
theorem takeK_0 : takeK 0 = 0 := by decide
theorem takeK_1 : takeK 1 = 2147483648 := by decide
theorem takeK_2 : takeK 2 = 1073741824 := by decide
theorem pow32 : (2 : Nat) ^ 32 = 4294967296 := by decide
structure En where
 low : Nat
 high : Nat
 wait : Nat
 out : List Bool
def emit (out : List Bool) (x : Bool) (wait : Nat) : List Bool := out ++ (x :: List.replicate wait (!x))
def stepE (e : En) : En :=
 if kind e.low e.high = 0 then ⟨2 * e.low, 2 * e.high + 1, 0, emit e.out false e.wait⟩
 else if kind e.low e.high = 1 then ⟨2 * (e.low - 2147483648), 2 * (e.high - 2147483648) + 1, 0, emit e.out true e.wait⟩
 else if kind e.low e.high = 2 then ⟨2 * (e.low - 1073741824), 2 * (e.high - 1073741824) + 1, e.wait + 1, e.out⟩
 else e
def widE : Nat → En → En
 | 0, e => e
 | n + 1, e => if kind e.low e.high = 3 then e else widE n (stepE e)
def Ok (low high : Nat) : Prop := low ≤ high ∧ high < 4294967296
theorem kind_cases (low high : Nat) : (kind low high = 0 ∧ high < 2147483648) ∨ (kind low high = 1 ∧ 2147483648 ≤ high ∧ 2147483648 ≤ low) ∨ (kind low high = 2 ∧ 2147483648 ≤ high ∧ low < 2147483648 ∧ 1073741824 ≤ low ∧ high < 3221225472) ∨ (kind low high = 3 ∧ 2147483648 ≤ high ∧ low < 2147483648 ∧ (low < 1073741824 ∨ 3221225472 ≤ high)) := by
 unfold kind
 split
 ·exact .inl ⟨rfl, by assumption⟩
 ·split
  ·exact .inr (.inl ⟨rfl, by omega, by assumption⟩)
  ·split
   ·exact .inr (.inr (.inl ⟨rfl, by omega, by omega, by omega, by omega⟩))
   ·exact .inr (.inr (.inr ⟨rfl, by omega, by omega, by omega⟩))
def off (e : En) : Nat := num e.out * 2 ^ (e.wait + 32) + (2 ^ e.wait - 1) * 2147483648
def len (e : En) : Nat := e.out.length + e.wait
def RL (e : En) : Nat := off e + e.low
def RH (e : En) : Nat := off e + e.high
theorem emit_length (o : List Bool) (x : Bool) (n : Nat) : (emit o x n).length = o.length + n + 1 := by simp [emit]; omega
theorem num_rep_true (n : Nat) : num (List.replicate n true) = 2 ^ n - 1 := by
 induction n with
 | zero => rfl
 | succ n ih =>
  rw [List.replicate_succ, num_cons, ih, List.length_replicate]
  have : 0 < 2 ^ n := Nat.pow_pos (by omega)
  simp [Nat.pow_succ]; omega
theorem num_rep_false (n : Nat) : num (List.replicate n false) = 0 := by
 induction n with
 | zero => rfl
 | succ n ih => rw [List.replicate_succ, num_cons, ih]; simp
theorem num_emit_false (o : List Bool) (n : Nat) : num (emit o false n) = num o * 2 ^ (n + 1) + (2 ^ n - 1) := by
 unfold emit
 rw [num_append, num_cons]
 simp [num_rep_true]
theorem num_emit_true (o : List Bool) (n : Nat) : num (emit o true n) = num o * 2 ^ (n + 1) + 2 ^ n := by
 unfold emit
 rw [num_append, num_cons]
 simp [num_rep_false]
theorem stepE_0 {e : En} (h : kind e.low e.high = 0) : stepE e = ⟨2 * e.low, 2 * e.high + 1, 0, emit e.out false e.wait⟩ := by unfold stepE; rw [if_pos h]
theorem stepE_1 {e : En} (h : kind e.low e.high = 1) : stepE e = ⟨2 * (e.low - 2147483648), 2 * (e.high - 2147483648) + 1, 0, emit e.out true e.wait⟩ := by unfold stepE; rw [if_neg (by omega), if_pos h]
theorem stepE_2 {e : En} (h : kind e.low e.high = 2) : stepE e = ⟨2 * (e.low - 1073741824), 2 * (e.high - 1073741824) + 1, e.wait + 1, e.out⟩ := by unfold stepE; rw [if_neg (by omega), if_neg (by omega), if_pos h]
theorem off_zero (l h : Nat) (o : List Bool) : off ⟨l, h, 0, o⟩ = num o * 4294967296 := by
 unfold off
 simp only [Nat.zero_add, Nat.pow_zero, pow32, Nat.sub_self, Nat.zero_mul, Nat.add_zero]
theorem off_is (e : En) (q : Nat) (hq : 2 ^ e.wait = q + 1) : off e = num e.out * (q + 1) * 4294967296 + q * 2147483648 := by
 unfold off
 rw [Nat.pow_add, pow32, hq, Nat.add_sub_cancel, Nat.mul_assoc]
theorem stepE_off {e : En} (h : kind e.low e.high ≠ 3) : off (stepE e) = 2 * off e + 2 * takeK (kind e.low e.high) ∧ len (stepE e) = len e + 1 := by
 have hp : 0 < 2 ^ e.wait := Nat.pow_pos (by omega)
 obtain ⟨q, hq⟩ : ∃ q, 2 ^ e.wait = q + 1 := ⟨2 ^ e.wait - 1, by omega⟩
 rw [off_is e q hq]
 rcases kind_cases e.low e.high with ⟨hk, _⟩ | ⟨hk, _⟩ | ⟨hk, _⟩ | ⟨hk, _⟩
 ·rw [stepE_0 hk, hk, takeK_0, off_zero, num_emit_false, Nat.pow_succ, hq, Nat.add_sub_cancel]
  refine ⟨?_, by simp only [len, emit_length] <;> omega⟩
  have : num e.out * ((q + 1) * 2) = num e.out * (q + 1) * 2 := by rw [Nat.mul_assoc]
  rw [this]
  generalize num e.out * (q + 1) = z
  omega
 ·rw [stepE_1 hk, hk, takeK_1, off_zero, num_emit_true, Nat.pow_succ, hq]
  refine ⟨?_, by simp only [len, emit_length] <;> omega⟩
  have : num e.out * ((q + 1) * 2) = num e.out * (q + 1) * 2 := by rw [Nat.mul_assoc]
  rw [this]
  generalize num e.out * (q + 1) = z
  omega
 ·rw [stepE_2 hk, hk, takeK_2]
  have hq2 : 2 ^ (e.wait + 1) = (2 * q + 1) + 1 := by rw [Nat.pow_succ, hq]; omega
  rw [off_is ⟨2 * (e.low - 1073741824), 2 * (e.high - 1073741824) + 1, e.wait + 1, e.out⟩ (2 * q + 1) hq2]
  refine ⟨?_, by simp only [len]; omega⟩
  have : num e.out * (2 * q + 1 + 1) = num e.out * (q + 1) * 2 := by rw [Nat.mul_assoc]; congr 1; omega
  show num e.out * (2 * q + 1 + 1) * 4294967296 + (2 * q + 1) * 2147483648 = _
  rw [this]
  generalize num e.out * (q + 1) = z
  omega
 ·exact absurd hk h
theorem stepE_low {e : En} (hok : Ok e.low e.high) (h : kind e.low e.high ≠ 3) : (stepE e).low + 2 * takeK (kind e.low e.high) = 2 * e.low ∧ (stepE e).high + 2 * takeK (kind e.low e.high) = 2 * e.high + 1 ∧ Ok (stepE e).low (stepE e).high := by
 obtain ⟨h1, h2⟩ := hok
 rcases kind_cases e.low e.high with ⟨hk, _⟩ | ⟨hk, _⟩ | ⟨hk, _⟩ | ⟨hk, _⟩
 ·rw [stepE_0 hk, hk, takeK_0]; unfold Ok; dsimp only; refine ⟨?_, ?_, ?_, ?_⟩ <;> omega
 ·rw [stepE_1 hk, hk, takeK_1]; unfold Ok; dsimp only; refine ⟨?_, ?_, ?_, ?_⟩ <;> omega
 ·rw [stepE_2 hk, hk, takeK_2]; unfold Ok; dsimp only; refine ⟨?_, ?_, ?_, ?_⟩ <;> omega
 ·exact absurd hk h
theorem stepE_R {e : En} (hok : Ok e.low e.high) (h : kind e.low e.high ≠ 3) : RL (stepE e) = 2 * RL e ∧ RH (stepE e) = 2 * RH e + 1 := by
 obtain ⟨a1, _⟩ := stepE_off h
 obtain ⟨b1, b2, _⟩ := stepE_low hok h
 unfold RL RH
 omega
def wid (e : En) : Nat := e.high - e.low + 1
theorem stepE_wid {e : En} (hok : Ok e.low e.high) (h : kind e.low e.high ≠ 3) : wid (stepE e) = 2 * wid e := by
 obtain ⟨b1, b2, b3⟩ := stepE_low hok h
 obtain ⟨h1, h2⟩ := hok
 obtain ⟨h3, h4⟩ := b3
 unfold wid
 omega
theorem wid_small {e : En} (hok : Ok e.low e.high) (h : kind e.low e.high ≠ 3) : wid e ≤ 2147483648 := by
 obtain ⟨h1, h2⟩ := hok
 unfold wid
 rcases kind_cases e.low e.high with ⟨hk, _⟩ | ⟨hk, _⟩ | ⟨hk, _⟩ | ⟨hk, _⟩
 ·omega
 ·omega
 ·omega
 ·exact absurd hk h
theorem widE_facts (n : Nat) : ∀ (e : En), Ok e.low e.high → ∃ k, k ≤ n ∧ len (widE n e) = len e + k ∧ RL (widE n e) = RL e * 2 ^ k ∧ RH (widE n e) + 1 = (RH e + 1) * 2 ^ k ∧ wid (widE n e) = wid e * 2 ^ k ∧ Ok (widE n e).low (widE n e).high ∧ (4294967296 < wid e * 2 ^ (n + 1) → kind (widE n e).low (widE n e).high = 3) := by
 induction n with
 | zero =>
  intro e hok
  refine ⟨0, by omega, by simp [widE], by simp [widE], by simp [widE], by simp [widE], hok, fun hw => ?_⟩
  by_cases h : kind e.low e.high = 3
  ·exact h
  ·have := wid_small hok h
   simp at hw
   omega
 | succ n ih =>
  intro e hok
  unfold widE
  by_cases h : kind e.low e.high = 3
  ·rw [if_pos h]
   exact ⟨0, by omega, by simp, by simp, by simp, by simp, hok, fun _ => h⟩
  ·rw [if_neg h]
   obtain ⟨k, hk, a1, a2, a3, a4, a5, a6⟩ := ih (stepE e) (stepE_low hok h).2.2
   obtain ⟨r1, r2⟩ := stepE_R hok h
   refine ⟨k + 1, by omega, by rw [a1, (stepE_off h).2]; omega, ?_, ?_, ?_, a5, fun hw => a6 ?_⟩
   ·rw [a2, r1, Nat.pow_succ, Nat.mul_comm 2 (RL e), Nat.mul_assoc, Nat.mul_comm 2]
   ·rw [a3, r2, show 2 * RH e + 1 + 1 = (RH e + 1) * 2 by omega, Nat.pow_succ, Nat.mul_assoc, Nat.mul_comm 2]
   ·rw [a4, stepE_wid hok h, Nat.pow_succ, Nat.mul_comm 2 (wid e), Nat.mul_assoc, Nat.mul_comm 2]
   ·rw [stepE_wid hok h]
    rw [Nat.pow_succ 2 (n + 1)] at hw
    rw [Nat.mul_comm 2 (wid e), Nat.mul_assoc, Nat.mul_comm 2]
    exact hw
def val (inp : List Bool) : Nat → Nat
 | 0 => 0
 | m + 1 => 2 * val inp m + (bitF inp m).toNat
theorem val_succ (inp : List Bool) (m : Nat) : val inp (m + 1) = 2 * val inp m + (bitF inp m).toNat := rfl
theorem toNat_le (b : Bool) : b.toNat ≤ 1 := by cases b <;> decide
theorem val_add (inp : List Bool) (m k : Nat) : val inp m * 2 ^ k ≤ val inp (m + k) ∧ val inp (m + k) < (val inp m + 1) * 2 ^ k := by
 induction k with
 | zero => simp
 | succ k ih =>
  have hb := toNat_le (bitF inp (m + k))
  rw [← Nat.add_assoc, val_succ inp (m + k), Nat.pow_succ, ← Nat.mul_assoc, ← Nat.mul_assoc]
  generalize val inp m * 2 ^ k = a at ih
  generalize (val inp m + 1) * 2 ^ k = b at ih
  omega
theorem val_pre (b tail : List Bool) (m : Nat) (h : m ≤ b.length) : val (b ++ tail) m = num (b.take m) := by
 induction m with
 | zero => rfl
 | succ m ih =>
  have hm : m < b.length := by omega
  rw [List.take_succ_eq_append_getElem hm, num_snoc, ← ih (by omega)]
  show 2 * val (b ++ tail) m + (bitF (b ++ tail) m).toNat = _
  rw [bitF_append, if_pos hm]
  simp [bitF, List.getD_eq_getElem?_getD, hm]
structure De where
 low : Nat
 high : Nat
 code : Nat
 at_ : Nat
def stepD (inp : List Bool) (d : De) : De :=
 ⟨2 * (d.low - takeK (kind d.low d.high)), 2 * (d.high - takeK (kind d.low d.high)) + 1, 2 * (d.code - takeK (kind d.low d.high)) + (bitF inp d.at_).toNat, d.at_ + 1⟩
def widD : Nat → List Bool → De → De
 | 0, _, d => d
 | n + 1, inp, d => if kind d.low d.high = 3 then d else widD n inp (stepD inp d)
def nar (e : En) (a b T : Nat) : En := ⟨e.low + wid e * a / T, e.low + wid e * b / T - 1, e.wait, e.out⟩
def putE (e : En) (a b T : Nat) : En := widE 40 (nar e a b T)
def In (inp : List Bool) (e : En) : Prop := RL e ≤ val inp (len e + 32) ∧ val inp (len e + 32) ≤ RH e
def Sync (inp : List Bool) (e : En) (d : De) : Prop := d.low = e.low ∧ d.high = e.high ∧ d.at_ = len e + 32 ∧ d.code + off e = val inp (len e + 32)
theorem wide_wid {e : En} (hok : Ok e.low e.high) (h : kind e.low e.high = 3) : 1073741824 ≤ wid e ∧ wid e ≤ 4294967296 := by
 obtain ⟨h1, h2⟩ := hok
 unfold wid
 rcases kind_cases e.low e.high with ⟨hk, _⟩ | ⟨hk, _⟩ | ⟨hk, _⟩ | ⟨hk, h3, h4, h5⟩
 ·omega
 ·omega
 ·omega
 ·omega
def Sp (a b T : Nat) : Prop := a < b ∧ b ≤ T ∧ T ≤ 16384
theorem nar_parts {W a b T : Nat} (h : Sp a b T) (hW : 16384 ≤ W) : W * a / T < W * b / T ∧ W * b / T ≤ W ∧ W * (b - a) / T ≤ W * b / T - W * a / T := by
 obtain ⟨h1, h2, h3⟩ := h
 have hT : 0 < T := by omega
 have e : W * b = W * a + W * (b - a) := by rw [← Nat.mul_add]; congr 1; omega
 have hle : W ≤ W * (b - a) := Nat.le_mul_of_pos_right _ (by omega)
 have h4 : W * a / T + W * (b - a) / T ≤ W * b / T := by
  rw [Nat.le_div_iff_mul_le hT, Nat.add_mul, e]
  have x1 := Nat.div_mul_le_self (W * a) T
  have x2 := Nat.div_mul_le_self (W * (b - a)) T
  omega
 have h5 : 1 ≤ W * (b - a) / T := by rw [Nat.le_div_iff_mul_le hT]; omega
 have h6 : W * b / T ≤ W := by
  refine Nat.div_le_of_le_mul ?_
  rw [Nat.mul_comm T W]
  exact Nat.mul_le_mul_left _ h2
 omega
theorem nar_ok {e : En} {a b T : Nat} (hok : Ok e.low e.high) (hk : kind e.low e.high = 3) (h : Sp a b T) :
  Ok (nar e a b T).low (nar e a b T).high ∧ e.low ≤ (nar e a b T).low ∧ (nar e a b T).high ≤ e.high ∧ wid (nar e a b T) = wid e * b / T - wid e * a / T ∧ 1 ≤ wid (nar e a b T) := by
 obtain ⟨w1, w2⟩ := wide_wid hok hk
 obtain ⟨n1, n2, n3⟩ := nar_parts h (show 16384 ≤ wid e by omega)
 obtain ⟨h1, h2⟩ := hok
 have hw : wid e = e.high - e.low + 1 := rfl
 unfold Ok
 have e1 : (nar e a b T).low = e.low + wid e * a / T := rfl
 have e2 : (nar e a b T).high = e.low + wid e * b / T - 1 := rfl
 have e3 : wid (nar e a b T) = (nar e a b T).high - (nar e a b T).low + 1 := rfl
 rw [e1, e2] at e3
 rw [e1, e2, e3]
 generalize wid e * a / T = p at n1 n2 n3
 generalize wid e * b / T = q at n1 n2 n3
 omega
theorem pow41 : (2 : Nat) ^ (40 + 1) = 2199023255552 := by decide
theorem put_facts {e : En} {a b T : Nat} (hok : Ok e.low e.high) (hk : kind e.low e.high = 3) (h : Sp a b T) :
  Ok (putE e a b T).low (putE e a b T).high ∧ kind (putE e a b T).low (putE e a b T).high = 3 ∧ ∃ k, len (putE e a b T) = len e + k ∧ wid (putE e a b T) = wid (nar e a b T) * 2 ^ k := by
 obtain ⟨n1, _, _, _, n5⟩ := nar_ok hok hk h
 obtain ⟨k, _, a1, _, _, a4, a5, a6⟩ := widE_facts 40 (nar e a b T) n1
 refine ⟨a5, a6 ?_, k, a1, a4⟩
 rw [pow41]
 omega
theorem In.back {inp : List Bool} {e : En} (hok : Ok e.low e.high) (h : kind e.low e.high ≠ 3) (hi : In inp (stepE e)) : In inp e := by
 obtain ⟨r1, r2⟩ := stepE_R hok h
 obtain ⟨i1, i2⟩ := hi
 rw [(stepE_off h).2, r1, show len e + 1 + 32 = (len e + 32) + 1 by omega] at i1
 rw [(stepE_off h).2, r2, show len e + 1 + 32 = (len e + 32) + 1 by omega] at i2
 have hb := toNat_le (bitF inp (len e + 32))
 rw [val_succ inp (len e + 32)] at i1 i2
 unfold In
 omega
theorem In.backs {inp : List Bool} (n : Nat) : ∀ {e : En}, Ok e.low e.high → In inp (widE n e) → In inp e := by
 induction n with
 | zero => intro e _ hi; exact hi
 | succ n ih =>
  intro e hok hi
  unfold widE at hi
  by_cases h : kind e.low e.high = 3
  ·rw [if_pos h] at hi; exact hi
  ·rw [if_neg h] at hi
   exact (ih (stepE_low hok h).2.2 hi).back hok h
theorem In.narrow {inp : List Bool} {e : En} {a b T : Nat} (hok : Ok e.low e.high) (hk : kind e.low e.high = 3) (h : Sp a b T) (hi : In inp (nar e a b T)) : In inp e := by
 obtain ⟨_, n2, n3, _, _⟩ := nar_ok hok hk h
 obtain ⟨i1, i2⟩ := hi
 have e1 : off (nar e a b T) = off e := rfl
 have e2 : len (nar e a b T) = len e := rfl
 unfold RL at i1
 unfold RH at i2
 rw [e1, e2] at i1 i2
 unfold In RL RH
 omega
theorem In.put {inp : List Bool} {e : En} {a b T : Nat} (hok : Ok e.low e.high) (hk : kind e.low e.high = 3) (h : Sp a b T) (hi : In inp (putE e a b T)) : In inp (nar e a b T) ∧ In inp e := by
 have h1 := In.backs 40 (nar_ok hok hk h).1 hi
 exact ⟨h1, h1.narrow hok hk h⟩
theorem sync_step {inp : List Bool} {e : En} {d : De} (hok : Ok e.low e.high) (h : kind e.low e.high ≠ 3) (hi : In inp e) (hs : Sync inp e d) : Sync inp (stepE e) (stepD inp d) := by
 obtain ⟨s1, s2, s3, s4⟩ := hs
 obtain ⟨o1, o2⟩ := stepE_off h
 obtain ⟨l1, l2, _⟩ := stepE_low hok h
 obtain ⟨i1, i2⟩ := hi
 unfold RL at i1
 have ht : takeK (kind e.low e.high) ≤ e.low := by omega
 have hh : takeK (kind e.low e.high) ≤ e.high := by have := hok.1; omega
 refine ⟨?_, ?_, ?_, ?_⟩
 ·show 2 * (d.low - takeK (kind d.low d.high)) = _
  rw [s1, s2]; omega
 ·show 2 * (d.high - takeK (kind d.low d.high)) + 1 = _
  rw [s1, s2]; omega
 ·show d.at_ + 1 = _
  rw [s3, o2] <;> omega
 ·show 2 * (d.code - takeK (kind d.low d.high)) + (bitF inp d.at_).toNat + _ = _
  rw [o2, show len e + 1 + 32 = (len e + 32) + 1 by omega, o1, s1, s2, s3]
  rw [val_succ inp (len e + 32)]
  omega
theorem sync_wid {inp : List Bool} (n : Nat) : ∀ {e : En} {d : De}, Ok e.low e.high → In inp (widE n e) → Sync inp e d → Sync inp (widE n e) (widD n inp d) := by
 induction n with
 | zero => intro e d _ _ hs; exact hs
 | succ n ih =>
  intro e d hok hi hs
  have hi0 := In.backs (n + 1) hok hi
  unfold widE at hi ⊢
  unfold widD
  rw [hs.1, hs.2.1]
  by_cases h : kind e.low e.high = 3
  ·rw [if_pos h, if_pos h]; exact hs
  ·rw [if_neg h] at hi ⊢
   rw [if_neg h]
   exact ih (stepE_low hok h).2.2 hi (sync_step hok h hi0 hs)
def symX (d : De) (T : Nat) : Nat := ((d.code - d.low + 1) * T - 1) / (d.high - d.low + 1)
theorem next_sync {inp : List Bool} {e : En} {d : De} {a b T : Nat} (hok : Ok e.low e.high) (hk : kind e.low e.high = 3) (h : Sp a b T) (hi : In inp (putE e a b T)) (hs : Sync inp e d) :
  a ≤ symX d T ∧ symX d T < b ∧ d.low ≤ d.code ∧ d.code ≤ d.high ∧ Sync inp (putE e a b T) (widD 40 inp ⟨(nar e a b T).low, (nar e a b T).high, d.code, d.at_⟩) := by
 obtain ⟨hn, hi0⟩ := hi.put hok hk h
 obtain ⟨w1, w2⟩ := wide_wid hok hk
 have hT : 0 < T := by have := h.1; have := h.2.1; omega
 obtain ⟨s1, s2, s3, s4⟩ := hs
 have e1 : off (nar e a b T) = off e := rfl
 have e2 : len (nar e a b T) = len e := rfl
 obtain ⟨i1, i2⟩ := hn
 unfold RL at i1
 unfold RH at i2
 rw [e1, e2, ← s4] at i1 i2
 have c1 : (nar e a b T).low ≤ d.code := by omega
 have c2 : d.code ≤ (nar e a b T).high := by omega
 have hsync : Sync inp (nar e a b T) ⟨(nar e a b T).low, (nar e a b T).high, d.code, d.at_⟩ := ⟨rfl, rfl, by rw [e2]; exact s3, by rw [e1, e2]; exact s4⟩
 have hw : d.high - d.low + 1 = wid e := by rw [s1, s2]; rfl
 obtain ⟨_, m2, m3, _, _⟩ := nar_ok hok hk h
 have hlow : (nar e a b T).low = e.low + wid e * a / T := rfl
 have hhigh : (nar e a b T).high = e.low + wid e * b / T - 1 := rfl
 obtain ⟨p1, p2, _⟩ := nar_parts h (show 16384 ≤ wid e by omega)
 rw [hlow] at c1
 rw [hhigh] at c2
 refine ⟨?_, ?_, by omega, by omega, sync_wid 40 (nar_ok hok hk h).1 hi hsync⟩
 ·unfold symX
  rw [hw, Nat.le_div_iff_mul_le (by omega)]
  have k1 : wid e * a / T < d.code - d.low + 1 := by omega
  have k2 := (Nat.div_lt_iff_lt_mul hT).1 k1
  rw [Nat.mul_comm a]
  omega
 ·unfold symX
  rw [hw, Nat.div_lt_iff_lt_mul (by omega)]
  have k1 : d.code - d.low + 1 ≤ wid e * b / T := by omega
  have k2 := (Nat.le_div_iff_mul_le hT).1 k1
  rw [Nat.mul_comm b]
  have k3 : 0 < (d.code - d.low + 1) * T := Nat.mul_pos (by omega) hT
  omega
def endBits (e : En) : List Bool := emit e.out (decide (1073741824 ≤ e.low)) (e.wait + 1)
theorem endBits_length (e : En) : (endBits e).length = len e + 2 := by unfold endBits len; rw [emit_length]; omega
theorem pow30 : (2 : Nat) ^ 30 = 1073741824 := by decide
theorem end_in {e : En} (hok : Ok e.low e.high) (hk : kind e.low e.high = 3) (tail : List Bool) : In (endBits e ++ tail) e := by
 have hp : 0 < 2 ^ e.wait := Nat.pow_pos (by omega)
 obtain ⟨q, hq⟩ : ∃ q, 2 ^ e.wait = q + 1 := ⟨2 ^ e.wait - 1, by omega⟩
 obtain ⟨v1, v2⟩ := val_add (endBits e ++ tail) (len e + 2) 30
 have hvp : val (endBits e ++ tail) (len e + 2) = num (endBits e) := by
  rw [val_pre _ _ _ (by rw [endBits_length]; exact Nat.le_refl _), List.take_of_length_le (by rw [endBits_length]; exact Nat.le_refl _)]
 rw [hvp, pow30, show len e + 2 + 30 = len e + 32 by omega] at v1 v2
 have ho := off_is e q hq
 have hq2 : 2 ^ (e.wait + 1) = 2 * q + 2 := by rw [Nat.pow_succ, hq]; omega
 have hq3 : 2 ^ (e.wait + 1 + 1) = 4 * (q + 1) := by rw [Nat.pow_succ, hq2]; omega
 unfold In RL RH
 rw [ho]
 obtain ⟨h1, h2⟩ := hok
 rcases kind_cases e.low e.high with ⟨hk', _⟩ | ⟨hk', _⟩ | ⟨hk', _⟩ | ⟨_, h3, h4, h5⟩
 ·omega
 ·omega
 ·omega
 ·by_cases hl : 1073741824 ≤ e.low
  ·have en : num (endBits e) = num e.out * (q + 1) * 4 + (2 * q + 2) := by
    unfold endBits
    rw [decide_eq_true hl, num_emit_true, hq2, hq3, Nat.mul_comm 4, ← Nat.mul_assoc]
   rw [en] at v1 v2
   generalize num e.out * (q + 1) = z at v1 v2
   omega
  ·have en : num (endBits e) = num e.out * (q + 1) * 4 + (2 * q + 1) := by
    unfold endBits
    rw [decide_eq_false hl, num_emit_false, hq2, hq3, Nat.mul_comm 4, ← Nat.mul_assoc]
    omega
   rw [en] at v1 v2
   generalize num e.out * (q + 1) = z at v1 v2
   omega
def e0 : En := ⟨0, 4294967295, 0, []⟩
theorem e0_ok : Ok e0.low e0.high ∧ kind e0.low e0.high = 3 := ⟨⟨by decide, by decide⟩, by decide⟩
theorem e0_sync (inp : List Bool) : Sync inp e0 ⟨0, 4294967295, val inp 32, 32⟩ := ⟨rfl, rfl, rfl, by simp [off, e0, len, num_nil]⟩
theorem put_long {e : En} {a b T n : Nat} (hok : Ok e.low e.high) (hk : kind e.low e.high = 3) (h : Sp a b T) (hn : T ≤ (b - a) * 2 ^ n) (M : Nat) (hM : 4294967296 * 2 ^ len e ≤ wid e * 2 ^ M) :
  4294967296 * 2 ^ len (putE e a b T) ≤ wid (putE e a b T) * 2 ^ (M + (n + 1)) := by
 obtain ⟨_, _, k, hk1, hk2⟩ := put_facts hok hk h
 obtain ⟨_, _, _, hw, _⟩ := nar_ok hok hk h
 obtain ⟨w1, w2⟩ := wide_wid hok hk
 obtain ⟨n1, n2, n3⟩ := nar_parts h (show 16384 ≤ wid e by omega)
 have hT : 0 < T := by have := h.1; have := h.2.1; omega
 obtain ⟨g, hg⟩ : ∃ g, g = wid e * (b - a) / T := ⟨_, rfl⟩
 have hg1 : 1 ≤ g := by
  rw [hg, Nat.le_div_iff_mul_le hT]
  have : wid e ≤ wid e * (b - a) := Nat.le_mul_of_pos_right _ (by have := h.1; omega)
  have := h.2.2
  omega
 have hg2 : wid e * (b - a) < (g + 1) * T := by
  rw [← Nat.div_lt_iff_lt_mul hT, ← hg]; omega
 have key : wid e ≤ g * 2 ^ (n + 1) := by
  have s1 : wid e * T ≤ wid e * (b - a) * 2 ^ n := by rw [Nat.mul_assoc]; exact Nat.mul_le_mul_left _ hn
  have s2 : wid e * (b - a) * 2 ^ n ≤ (g + 1) * T * 2 ^ n := Nat.mul_le_mul_right _ (by omega)
  have s3 : wid e * T ≤ ((g + 1) * 2 ^ n) * T := by
   refine Nat.le_trans s1 (Nat.le_trans s2 ?_)
   rw [Nat.mul_assoc, Nat.mul_comm T, ← Nat.mul_assoc]
   exact Nat.le_refl _
  have s4 := Nat.le_of_mul_le_mul_right s3 hT
  refine Nat.le_trans s4 ?_
  rw [Nat.pow_succ, Nat.mul_comm (2 ^ n) 2, ← Nat.mul_assoc]
  exact Nat.mul_le_mul_right _ (by omega)
 have hgw : g ≤ wid (nar e a b T) := by rw [hw, hg]; exact n3
 rw [hk1, hk2, Nat.pow_add, ← Nat.mul_assoc, Nat.pow_add 2 M, Nat.mul_assoc (wid (nar e a b T)), Nat.mul_comm (2 ^ k), ← Nat.mul_assoc]
 refine Nat.mul_le_mul_right _ (Nat.le_trans hM ?_)
 rw [Nat.mul_comm (2 ^ M), ← Nat.mul_assoc]
 refine Nat.mul_le_mul_right _ (Nat.le_trans key (Nat.mul_le_mul_right _ hgw))
theorem long_end {e : En} {M : Nat} (hok : Ok e.low e.high) (hk : kind e.low e.high = 3) (hM : 4294967296 * 2 ^ len e ≤ wid e * 2 ^ M) : len e ≤ M := by
 obtain ⟨_, w2⟩ := wide_wid hok hk
 have h1 : 4294967296 * 2 ^ len e ≤ 4294967296 * 2 ^ M := Nat.le_trans hM (Nat.mul_le_mul_right _ w2)
 have h2 := Nat.le_of_mul_le_mul_left h1 (by omega)
 exact (Nat.pow_le_pow_iff_right (by omega)).1 h2
end Go.Proofs.YtkdbhndegkldcaaGreatDoor.Cd
namespace Go.Proofs.YtkdbhndegkldcaaGreatDoor
open Go.RowKit
def BBad (w : World) (er : Int) (e : Ending) (w' : World) : Prop := e = .returned (.tuple #[zeroB, .int .i64 er]) ∧ Below w.heap.size w w'
def strOf (bs : List Nat) : ByteArray := (bs.map fun n => ((n : Nat) : Int)).foldl (fun r n => r.push (UInt8.ofNat n.toNat)) ByteArray.empty
theorem run_str {w : World} {A : Option Addr} {n : Nat} {bs : List Nat} (c : Nat) (h : Rd w A n bs) : (convert 34 9 (.slice A n c)).run Tryz.prog w = .ok (.string (strOf bs)) w := by
 rw [run_convert_bytes_string w 34 9 5 A n c Tryz.underlying34 Tryz.underlying5 Tryz.underlying9]
 obtain ⟨rfl, hlt, hc⟩ := h
 cases A with
 | none =>
  have h0 : bs = [] := by
   cases bs with
   | nil => rfl
   | cons b bs =>
    obtain ⟨ad, e, _⟩ := hc (by simp)
    cases e
  subst h0
  rfl
 | some ad =>
  have hload : (loadCells ad bs.length).run Tryz.prog w = .ok ((bs.map fun n => ((n : Nat) : Int)).map (Value.int .u8)).toArray w := by
   have := run_loadCells_list (P := Tryz.prog) w ad (bs.map byteV) (fun j v hv => by
    rw [List.getElem?_map] at hv
    obtain ⟨x, hx, rfl⟩ := Option.map_eq_some_iff.1 hv
    have hpos : 0 < bs.length := by
     have := (List.getElem?_eq_some_iff.1 hx).1
     omega
    obtain ⟨ad', e, hc'⟩ := hc hpos
    injection e with e
    subst e
    exact hc' j x hx)
   rw [List.length_map] at this
   rw [this, List.map_map]
   rfl
  exact run_bytesToString w ad _ c _ hload
theorem RdL.one {w : World} {g : Nat} {A : Option Addr} {n c : Nat} {N : Int} {bs : List Nat} {t : TypeId} (h : Rd w A n bs) (hb : Blk w g t #[.slice A n c, .int .i64 N]) :
  RdL w (some ⟨g, 0, none⟩) 1 [⟨A, n, c, N, bs⟩] := by
 refine ⟨rfl, fun _ => ⟨_, rfl, fun j x hx => ?_⟩⟩
 match j, hx with
 | 0, hx =>
  simp only [List.getElem?_cons_zero, Option.some.injEq] at hx
  subst hx
  refine ⟨?_, ?_, h⟩
  ·rw [add_own, hb.cell]; rfl
  ·rw [add_own]; exact (hb.cell 1).trans rfl
theorem IsB.rd {w : World} {A : Option Addr} {n c : Nat} {N : Int} {l : List Bool} (h : IsB w (.agg #[.slice A n c, .int .i64 N]) l) : Rd w A n (pack l) := by
 obtain ⟨A1, c1, e1, hr, _⟩ := h
 simp only [Value.agg.injEq, Array.mk.injEq, List.cons.injEq, Value.slice.injEq, Value.int.injEq, and_true, true_and] at e1
 obtain ⟨⟨rfl, rfl, rfl⟩, rfl⟩ := e1
 exact hr
def OwnB (w : World) (base : Nat) (v : Value) (l : List Bool) : Prop := w.ownsRow base 5 1 v (pack l).length ((pack l).map byteV)
theorem OwnB.nil_ (w : World) (base : Nat) : OwnB w base (.slice none 0 0) [] := World.ownsRow_nil w base 5 1
theorem OwnB.alloc {w : World} {base : Nat} {v : Value} {l : List Bool} (h : OwnB w base v l) (o : Obj) : OwnB (w.alloc o) base v l := World.ownsRow.alloc h o
theorem OwnB.rd {w : World} {base n c : Nat} {A : Option Addr} {l : List Bool} (h : OwnB w base (.slice A n c) l) : Rd w A n (pack l) ∧ n = (pack l).length := by
 have hf := h.2
 have hl := h.1
 rcases hf with ⟨e, h0⟩ | ⟨g, cap, cur, e, hb, hh, hnc, hcm, hcs, ht⟩
 ·injection e with e1 e2 e3
  subst e1 e2
  refine ⟨⟨by omega, pack_lt _, fun h => by omega⟩, h0.symm⟩
 ·injection e with e1 e2 e3
  subst e1
  refine ⟨⟨e2.symm, pack_lt _, fun _ => ⟨_, rfl, fun j x hx => ?_⟩⟩, e2⟩
  have := World.ownsRow.cells h (g := g) rfl j (byteV x) (by rw [List.getElem?_map, hx]; rfl)
  exact this
theorem Blk.ne_ {w : World} {g g' : Nat} {t t' : TypeId} {cs cs' : Array Value} (h : Blk w g t cs) (h' : Blk w g' t' cs') (hne : t ≠ t') : g ≠ g' := by
 rintro rfl
 unfold Blk at h h'
 rw [h] at h'
 injection h' with h'
 injection h' with _ ht
 exact hne ht
theorem OwnB.lt {w : World} {base n c : Nat} {A : Option Addr} {l : List Bool} (h : OwnB w base (.slice A n c) l) : ∀ ad, A = some ad → ad.block < w.heap.size := by
 intro ad e
 subst e
 exact (World.ownsRow.lt h ad.block rfl).2
theorem Blk.row {w w' : World} {g : Nat} {t : TypeId} {cs : Array Value} {row : Option Nat} (h : Blk w g t cs) (hb : w.grownBy w' row) (hg : row ≠ some g) : Blk w' g t cs := (hb.block g h.lt (fun e => hg e.symm)).trans h
theorem OwnB.keep {w w' : World} {base : Nat} {v : Value} {l : List Bool} (h : OwnB w base v l) (hb : Below w.heap.size w w') : OwnB w' base v l :=
 World.ownsRow.kept h (only_of_below hb none) (by cases hv : v.ownBlock with | none => exact .inl rfl | some k => exact .inr (by simp))
def RO (w : World) (g7 : Nat) (l : List Bool) (wr : World) : Prop :=
 Blk wr w.heap.size 100 #[.slice none 0 0, .int .i64 0] ∧ Below w.heap.size w wr ∧
 ∃ A n c, Blk wr g7 100 #[.slice A n c, .int .i64 ((l.length : Nat) : Int)] ∧ OwnB wr w.heap.size (.slice A n c) l
theorem RO.alloc {w wr : World} {g7 : Nat} {l : List Bool} (h : RO w g7 l wr) (o : Obj) : RO w g7 l (wr.alloc o) := by
 obtain ⟨h1, h2, A, n, c, h3, h4⟩ := h
 exact ⟨h1.alloc o, h2.alloc h2.size o, A, n, c, h3.alloc o, h4.alloc o⟩
def jWhat (xs : List It) : Int × Int × List Nat :=
 if xs.all It.ok then (if sumN xs ≤ 65536 then (((allBits xs).length : Int), 0, pack (allBits xs)) else (0, 2, [])) else (0, 1, [])
def JOut (w : World) (N E : Int) (bs : List Nat) (e : Ending) (w' : World) : Prop :=
 ∃ A n c, e = .returned (.tuple #[.agg #[.slice A n c, .int .i64 N], .int .i64 E]) ∧ Below w.heap.size w w' ∧ Rd w' A n bs
theorem JoinPost.out {w w' : World} {xs : List It} {e : Ending} {N E : Int} {bs : List Nat} (h : JoinPost w xs e w') (hj : jWhat xs = (N, E, bs)) : JOut w N E bs e w' := by
 obtain ⟨hb, h⟩ := h
 unfold jWhat at hj
 rcases h with ⟨⟨x, hx, hf⟩, rfl⟩ | ⟨hok, hs, rfl⟩ | ⟨hok, hs, v, rfl, hv⟩
 ·have hall : xs.all It.ok = false := by
   cases h : xs.all It.ok
   ·rfl
   ·rw [List.all_eq_true.1 h x hx] at hf; cases hf
  rw [hall] at hj
  simp only [Bool.false_eq_true, if_false, Prod.mk.injEq] at hj
  obtain ⟨rfl, rfl, rfl⟩ := hj
  exact ⟨none, 0, 0, rfl, hb, Rd.none_⟩
 ·rw [List.all_eq_true.2 hok, if_pos rfl, if_neg (by omega)] at hj
  simp only [Prod.mk.injEq] at hj
  obtain ⟨rfl, rfl, rfl⟩ := hj
  exact ⟨none, 0, 0, rfl, hb, Rd.none_⟩
 ·rw [List.all_eq_true.2 hok, if_pos rfl, if_pos hs] at hj
  simp only [Prod.mk.injEq] at hj
  obtain ⟨rfl, rfl, rfl⟩ := hj
  obtain ⟨A, c, rfl, hr, _⟩ := hv
  exact ⟨A, _, c, rfl, hb, hr⟩
def pWhat (l : List Bool) : Int × Int × List Nat := if l.length ≤ 65536 then ((l.length : Int), 0, pack l) else (0, 2, [])
theorem BBad.out {w w' : World} {e : Ending} {E : Int} (h : BBad w E e w') : JOut w 0 E [] e w' := by
 obtain ⟨rfl, hb⟩ := h
 exact ⟨none, 0, 0, rfl, hb, Rd.none_⟩
theorem BOut.out {w w' : World} {B : Nat} {l : List Bool} {e : Ending} {N E : Int} {bs : List Nat} (h : BOut w (JQ B l) e w') (hp : pWhat l = (N, E, bs)) : JOut w N E bs e w' := by
 obtain ⟨A, n, c, N', er, rfl, hb, hq⟩ := h
 unfold pWhat at hp
 rcases hq with ⟨h1, rfl, g, e1, _, hblk, _⟩ | ⟨h1, rfl, e1⟩
 ·rw [if_pos h1] at hp
  simp only [Prod.mk.injEq] at hp
  obtain ⟨rfl, rfl, rfl⟩ := hp
  rw [e1]
  exact ⟨_, _, _, rfl, hb, Rd.of_blk hblk (pack_lt _)⟩
 ·rw [if_neg (by omega)] at hp
  simp only [Prod.mk.injEq] at hp
  obtain ⟨rfl, rfl, rfl⟩ := hp
  rw [e1]
  exact ⟨none, 0, 0, rfl, hb, Rd.none_⟩
end Go.Proofs.YtkdbhndegkldcaaGreatDoor
namespace Go.Proofs.YtkdbhndegkldcaaGreatDoor.Cd
open Go.RowKit
def wideB (low high : Nat) : Bool := decide (low < high ∧ high < 4294967296 ∧ kind low high = 3)
theorem blk2 {w : World} {t : TypeId} {a b : Value} {g : Nat} (h : Blk w g t #[a, b]) : w.cell? ⟨g, 0, none⟩ = some a ∧ w.cell? ⟨g, 1, none⟩ = some b ∧ w.frozen? ⟨g, 0, none⟩ = false ∧ w.frozen? ⟨g, 1, none⟩ = false := ⟨h.cell 0, h.cell 1, h.frozen 0, h.frozen 1⟩
def encV (low high : Nat) (wt : Int) (A : Option Addr) (n c : Nat) (N : Int) : Value := .agg #[.int .u32 (low : Int), .int .u32 (high : Int), .int .i64 wt, .slice A n c, .int .i64 N]
theorem blk5 {w : World} {t : TypeId} {a b c d e : Value} {g : Nat} (h : Blk w g t #[a, b, c, d, e]) : w.cell? ⟨g, 0, none⟩ = some a ∧ w.cell? ⟨g, 1, none⟩ = some b ∧ w.cell? ⟨g, 2, none⟩ = some c ∧ w.cell? ⟨g, 3, none⟩ = some d ∧ w.cell? ⟨g, 4, none⟩ = some e := ⟨h.cell 0, h.cell 1, h.cell 2, h.cell 3, h.cell 4⟩
theorem isB_parts {w : World} {A : Option Addr} {n c : Nat} {N : Int} {l : List Bool} (h : IsB w (.agg #[.slice A n c, .int .i64 N]) l) : n = (pack l).length ∧ N = (l.length : Int) ∧ Rd w A n (pack l) ∧ l.length ≤ 65536 := by
 obtain ⟨A', c', e, hr, hl⟩ := h
 simp only [Value.agg.injEq, Array.mk.injEq, List.cons.injEq, Value.slice.injEq, Value.int.injEq, and_true, true_and] at e
 obtain ⟨⟨rfl, rfl, rfl⟩, rfl⟩ := e
 exact ⟨rfl, rfl, hr, hl⟩
def decV (low high code : Nat) (A : Option Addr) (n c : Nat) (N At : Int) : Value := .agg #[.int .u32 (low : Int), .int .u32 (high : Int), .int .u32 (code : Int), .slice A n c, .int .i64 N, .int .i64 At]
theorem blk6 {w : World} {t : TypeId} {a b c d e f : Value} {g : Nat} (h : Blk w g t #[a, b, c, d, e, f]) : w.cell? ⟨g, 0, none⟩ = some a ∧ w.cell? ⟨g, 1, none⟩ = some b ∧ w.cell? ⟨g, 2, none⟩ = some c ∧ w.cell? ⟨g, 3, none⟩ = some d ∧ w.cell? ⟨g, 4, none⟩ = some e ∧ w.cell? ⟨g, 5, none⟩ = some f := ⟨h.cell 0, h.cell 1, h.cell 2, h.cell 3, h.cell 4, h.cell 5⟩
theorem frz6 {w : World} {t : TypeId} {cs : Array Value} {g : Nat} (h : Blk w g t cs) : w.frozen? ⟨g, 0, none⟩ = false ∧ w.frozen? ⟨g, 1, none⟩ = false ∧ w.frozen? ⟨g, 2, none⟩ = false ∧ w.frozen? ⟨g, 3, none⟩ = false ∧ w.frozen? ⟨g, 4, none⟩ = false ∧ w.frozen? ⟨g, 5, none⟩ = false := ⟨h.frozen 0, h.frozen 1, h.frozen 2, h.frozen 3, h.frozen 4, h.frozen 5⟩
def okD (low high code : Nat) (bs : List Nat) (N At : Int) : Bool := wideB low high && (decide (low ≤ code) && (decide (code ≤ high) && (okB bs N && (decide (32 ≤ At) && decide (At ≤ 65600)))))
theorem rd_far {w : World} {A : Option Addr} {n g : Nat} {bs : List Nat} (h : Rd w A n bs) (hA : ∀ ad, A = some ad → 0 < n → ad.block ≠ g) (o : Nat) (u : Value) : Rd (w.setCell ⟨g, o, none⟩ u) A n bs :=
 ⟨h.1, h.2.1, fun hn => by
  obtain ⟨ad, e, hc⟩ := h.2.2 hn
  refine ⟨ad, e, fun j x hx => ?_⟩
  have := hc j x hx
  rw [← this]
  exact World.cell?_of_block (Below.heap_setCell w ⟨g, o, none⟩ u (ad.add j).block (by rw [block_of_add]; exact hA ad e hn))⟩
theorem val_lt (inp : List Bool) (m : Nat) : val inp m < 2 ^ m := by
 have := (val_add inp 0 m).2
 simpa [val] using this
def DOut (w : World) (lo hi co : Nat) (At N E : Int) (bs : List Nat) (e : Ending) (w' : World) : Prop :=
 ∃ A n c, e = .returned (.tuple #[decV lo hi co A n c N At, .int .i64 E]) ∧ Below w.heap.size w w' ∧ Rd w' A n bs
theorem below6 {B g : Nat} {w u : World} (h : Below B w u) (hg : B ≤ g) (a b c d e f : Value) : Below B w ((((((u.setCell ⟨g, 0, none⟩ a).setCell ⟨g, 1, none⟩ b).setCell ⟨g, 2, none⟩ c).setCell ⟨g, 3, none⟩ d).setCell ⟨g, 4, none⟩ e).setCell ⟨g, 5, none⟩ f) :=
 (((((h.setCell hg a).setCell hg b).setCell hg c).setCell hg d).setCell hg e).setCell hg f
end Go.Proofs.YtkdbhndegkldcaaGreatDoor.Cd
