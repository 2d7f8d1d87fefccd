/-
  Own texts, laid together: La, Lb, Lm, Lc, Ld, Le, Lf, Lg, Lh.
-/
import Derived.Test.YtcnckamocbaceaaDoorMT
import Derived.Deep.MidRow
import Derived.Deep.WholeRow
import Derived.Laws.ResultCell
import Derived.Deep.RegionHeld3
import Derived.Laws.CopyOwn
import Derived.Laws.StructEq
import Derived.Deep.RegionWith
/- La -/
namespace Go.Proofs.YtcnckamocbaceaaDoor.Lp
open Go.RowKit Go.Proofs.YtcnckamocbaceaaDoor.Fx Go.Proofs.YtcnckamocbaceaaDoor.Fq Go.Proofs.YtcnckamocbaceaaDoor.Tb
/-- blocks that a call has made, each another one, and the ints that they hold -/
def Mem (w0 : World) (L : List (Nat × TypeId × List Int)) (w : World) : Prop :=
  Below w0.heap.size w0 w ∧ (∀ e ∈ L, Blk w e.1 e.2.1 (icells e.2.2)) ∧ (∀ e ∈ L, w0.heap.size ≤ e.1) ∧ L.Pairwise (fun a b => a.1 ≠ b.1)
section
variable {w0 w w' : World} {L : List (Nat × TypeId × List Int)} {g : Nat} {T : TypeId} {xs : List Int}
theorem Mem.start (w : World) : Mem w [] w := ⟨Below.refl _ _, by simp, by simp, .nil⟩
theorem Mem.get (h : Mem w0 L w) (hm : (g, T, xs) ∈ L) : Blk w g T (icells xs) := h.2.1 _ hm
theorem Mem.alloc (h : Mem w0 L w) (T : TypeId) (xs : List Int) : Mem w0 ((w.heap.size, T, xs) :: L) (w.alloc (.cells (icells xs) T)) := by
  obtain ⟨h1, h2, h3, h4⟩ := h
  refine ⟨h1.alloc h1.size _, fun e he => ?_, fun e he => ?_, .cons (fun e he => Nat.ne_of_gt (h2 e he).lt) h4⟩
  · rcases List.mem_cons.1 he with rfl | he
    · exact Blk.new w _ _
    · exact (h2 e he).alloc _
  · rcases List.mem_cons.1 he with rfl | he
    · exact h1.size
    · exact h3 e he
theorem Mem.below (h : Mem w0 L w) (hb : Below w.heap.size w w') : Mem w0 L w' :=
  ⟨h.1.trans (hb.mono h.1.size), fun e he => (h.2.1 e he).below hb (h.2.1 e he).lt, h.2.2.1, h.2.2.2⟩
theorem Mem.drew (h : Mem w0 L w) : Mem w0 L w.drew := ⟨⟨h.1.os, h.1.tape, h.1.output, h.1.size, h.1.block⟩, h.2.1, h.2.2⟩
theorem Mem.drewN (h : Mem w0 L w) (n : Nat) : Mem w0 L (w.drewN n) := ⟨below_drewN h.1 n, h.2.1, h.2.2⟩
theorem Mem.tail {e : Nat × TypeId × List Int} (h : Mem w0 (e :: L) w) : Mem w0 L w :=
  ⟨h.1, fun e he => h.2.1 e (.tail _ he), fun e he => h.2.2.1 e (.tail _ he), (List.pairwise_cons.1 h.2.2.2).2⟩
theorem Mem.sub {L' : List (Nat × TypeId × List Int)} (h : Mem w0 L w) (hs : L'.Sublist L) : Mem w0 L' w :=
  ⟨h.1, fun e he => h.2.1 e (hs.mem he), fun e he => h.2.2.1 e (hs.mem he), h.2.2.2.sublist hs⟩
theorem Mem.perm {L' : List (Nat × TypeId × List Int)} (h : Mem w0 L w) (hp : L'.Perm L) : Mem w0 L' w :=
  ⟨h.1, fun e he => h.2.1 e (hp.mem_iff.1 he), fun e he => h.2.2.1 e (hp.mem_iff.1 he), (hp.pairwise_iff (fun h => Ne.symm h)).2 h.2.2.2⟩
theorem pw_ne {i j : Nat} {a b : Nat × TypeId × List Int} (h : L.Pairwise (fun a b => a.1 ≠ b.1)) (hi : L[i]? = some a) (hj : L[j]? = some b) (hij : i ≠ j) : a.1 ≠ b.1 := by
  obtain ⟨hi1, hi2⟩ := List.getElem?_eq_some_iff.1 hi
  obtain ⟨hj1, hj2⟩ := List.getElem?_eq_some_iff.1 hj
  rw [List.pairwise_iff_getElem] at h
  rcases Nat.lt_or_gt_of_ne hij with k | k
  · have := h i j hi1 hj1 k
    rwa [hi2, hj2] at this
  · have := h j i hj1 hi1 k
    rw [hi2, hj2] at this; exact this.symm
/-- another world in which block g alone holds other ints -/
theorem Mem.turn (h : Mem w0 L w) (i : Nat) (hi : L[i]? = some (g, T, xs)) (ys : List Int) (hb : w.grownBy w' (some g)) (hg : Blk w' g T (icells ys)) : Mem w0 (L.set i (g, T, ys)) w' := by
  obtain ⟨h1, h2, h3, h4⟩ := h
  have hmem : (g, T, xs) ∈ L := List.mem_of_getElem? hi
  have hil := (List.getElem?_eq_some_iff.1 hi).1
  refine ⟨below_grown h1 hb (h3 _ hmem) h1.size, fun e he => ?_, fun e he => ?_, ?_⟩
  · obtain ⟨j, hj⟩ := List.mem_iff_getElem?.1 he
    rw [List.getElem?_set] at hj
    by_cases hij : i = j
    · rw [if_pos hij, if_pos (by omega)] at hj
      injection hj with hj
      subst hj
      exact hg
    · rw [if_neg hij] at hj
      have hm := List.mem_of_getElem? hj
      exact (h2 e hm).only hb (fun k => pw_ne h4 hi hj hij k.symm)
  · rcases List.mem_or_eq_of_mem_set he with he | rfl
    · exact h3 e he
    · show w0.heap.size ≤ g; exact h3 _ hmem
  · rw [List.pairwise_iff_getElem] at h4 ⊢
    intro a b ha hb' hab
    have e1 : ((L.set i (g, T, ys))[a]).1 = (L[a]'(by simpa using ha)).1 := by
      rw [List.getElem_set]
      by_cases k : i = a
      · subst k
        rw [if_pos rfl]
        have := (List.getElem?_eq_some_iff.1 hi).2
        rw [this]
      · rw [if_neg k]
    have e2 : ((L.set i (g, T, ys))[b]).1 = (L[b]'(by simpa using hb')).1 := by
      rw [List.getElem_set]
      by_cases k : i = b
      · subst k
        rw [if_pos rfl]
        have := (List.getElem?_eq_some_iff.1 hi).2
        rw [this]
      · rw [if_neg k]
    rw [e1, e2]
    exact h4 a b _ _ hab
theorem grown_set (w : World) (g j : Nat) (v : Value) : w.grownBy (w.setCell ⟨g, j, none⟩ v) (some g) := only_setCell (only_of_below (Below.refl _ _) _) (.inl rfl) _
theorem grown_row (w : World) (g : Nat) (cs : Array Value) : w.grownBy (w.setRow g cs) (some g) :=
  ⟨rfl, rfl, rfl, by simp, fun i _ hne => setRow_other w g i cs (fun e => hne (by rw [e]))⟩
theorem Mem.put (h : Mem w0 L w) (i : Nat) (hi : L[i]? = some (g, T, xs)) (j : Nat) (v : Int) : Mem w0 (L.set i (g, T, xs.set j v)) (w.setCell ⟨g, j, none⟩ (.int .i64 v)) :=
  h.turn i hi _ (grown_set w g j _) (blk_put (h.get (List.mem_of_getElem? hi)) j v)
theorem Mem.row (h : Mem w0 L w) (i : Nat) (hi : L[i]? = some (g, T, xs)) (ys : List Int) : Mem w0 (L.set i (g, T, ys)) (w.setRow g (icells ys)) :=
  h.turn i hi _ (grown_row w g _) (setRow_heap w g _ _ T _ (h.get (List.mem_of_getElem? hi)))
theorem Mem.rd (h : Mem w0 L w) (hm : (g, T, xs) ∈ L) {n : Nat} (hn : xs.length = n) : RdI w (some ⟨g, 0, none⟩) n xs := RdI.of_blk (h.get hm) hn
theorem Mem.cell (h : Mem w0 L w) (hm : (g, T, xs) ∈ L) {k : Nat} (hk : k < xs.length) : w.cell? ⟨g, k, none⟩ = some (.int .i64 (xs.getD k 0)) := blk_at (h.get hm) hk
theorem Mem.free (h : Mem w0 L w) (hm : (g, T, xs) ∈ L) (k : Nat) : w.frozen? ⟨g, k, none⟩ = false := (h.get hm).frozen k
end
/-- n zeros -/
def zr (n : Nat) : List Int := List.replicate n 0
theorem zr_length (n : Nat) : (zr n).length = n := List.length_replicate
/-- T is a type of n ints, laid one behind the other -/
def Arr (T : TypeId) (n : Nat) : Prop :=
  (∃ d, Tryd.prog.underlying T = some d ∧ d.isRow = true) ∧ (Tryd.prog.info? T).map (fun i => (i.zero, i.size)) = some (some (.agg (icells (zr n))), n)
theorem Arr.size {T : TypeId} {n : Nat} (h : Arr T n) : (Tryd.prog.info? T).map (·.size) = some n := by
  obtain ⟨_, h⟩ := h
  cases hq : Tryd.prog.info? T with
  | none => simp [hq] at h
  | some i => simp [hq] at h; simp [h.2]
theorem Arr.zero {T : TypeId} {n : Nat} (h : Arr T n) (w : World) : (zeroValue T).run Tryd.prog w = .ok (.agg (icells (zr n))) w := by
  obtain ⟨_, h⟩ := h
  cases hq : Tryd.prog.info? T with
  | none => simp [hq] at h
  | some i => simp [hq] at h; simp [zeroValue, typeInfo, hq, h.1]
theorem icells_one (xs : List Int) : (icells xs).all (·.oneCell') = true :=
  Array.all_eq_true_iff_forall_mem.2 (fun v hv => by
    simp only [icells, List.mem_toArray, List.mem_map] at hv
    obtain ⟨x, -, rfl⟩ := hv
    rfl)
theorem arrSpec : Arr 30 16 := ⟨⟨.array 16 3, by kernel_rfl, rfl⟩, by kernel_rfl⟩
section
variable {ops : Array Oper} {rest : List Oper} {o : Oper} {a : Act} {w w0 : World} {Q : Exit → Act → World → Prop} {L : List (Nat × TypeId × List Int)}
theorem wl_step (hgd : Region.wanted o (yielded ops a.tmps) = true) (h : ∀ K : Act → World → Prop, (∀ a w, wpList Tryd.prog ops Q rest a w → K a w) → o.wp Tryd.prog a w K Q) : wpList Tryd.prog ops Q (o :: rest) a w :=
  wpList_step fun K hK => by rw [if_pos hgd]; exact h K hK
theorem wl_alloc (hgd : Region.wanted o (yielded ops a.tmps) = true) (T : TypeId) (ho : o.op = .alloc T) {n : Nat} (ha : Arr T n) (hm : Hid (Mem w0 L w))
    (h : ∀ g w', Hid (Mem w0 ((g, T, zr n) :: L) w') → wpList Tryd.prog ops Q rest (a.put o.dst (.pointer (some ⟨g, 0, none⟩))) w') : wpList Tryd.prog ops Q (o :: rest) a w :=
  wl_step hgd fun K hK => by
    have hz := ha.zero w
    have := hK _ _ (h w.heap.size _ (Lib.hid (hm.out.alloc T (zr n))))
    unfold Oper.wp execOp
    simp only [ho, Instr.alloc, newVar, newRow, Sem.run_bind, hz, Result.andThen, Value.cells, Sem.run_pure]
    exact this
theorem wl_box (hgd : Region.wanted o (yielded ops a.tmps) = true) (T : TypeId) (x : Operand) (ho : o.op = .box T x) {xs : List Int} (hx : a.eval x = .agg (icells xs)) (hm : Hid (Mem w0 L w))
    (h : ∀ g w', Hid (Mem w0 ((g, T, xs) :: L) w') → wpList Tryd.prog ops Q rest (a.put o.dst (.pointer (some ⟨g, 0, none⟩))) w') : wpList Tryd.prog ops Q (o :: rest) a w :=
  wl_step hgd fun K hK => by
    have := hK _ _ (h w.heap.size _ (Lib.hid (hm.out.alloc T xs)))
    unfold Oper.wp execOp
    simp only [ho, Instr.box, newVar, newRow, Sem.run_bind, hx, Result.andThen, Value.cells, Sem.run_pure]
    exact this
theorem run_load_mem {g n : Nat} {T : TypeId} {xs : List Int} (ha : Arr T n) (hm : Mem w0 L w) (hin : (g, T, xs) ∈ L) (hl : xs.length = n) : (loadVar T ⟨g, 0, none⟩).run Tryd.prog w = .ok (.agg (icells xs)) w := by
  obtain ⟨d, h1, h2⟩ := ha.1
  exact run_loadVar_row w g T T (icells xs) (0, 0) d (hm.get hin) h1 (by cases d <;> first | rfl | cases h2) (by rw [ha.size, icells_size, hl])
theorem wl_load (hgd : Region.wanted o (yielded ops a.tmps) = true) (T : TypeId) (x : Operand) (ho : o.op = .load T x) {g n : Nat} (hx : a.eval x = .pointer (some ⟨g, 0, none⟩)) (ha : Arr T n) {xs : List Int} (hm : Hid (Mem w0 L w))
    (hin : (g, T, xs) ∈ L) (hl : Hid (xs.length = n)) (h : wpList Tryd.prog ops Q rest (a.put o.dst (.agg (icells xs))) w) : wpList Tryd.prog ops Q (o :: rest) a w :=
  wl_step hgd fun K hK => by
    have := hK _ _ h
    unfold Oper.wp execOp
    simp only [ho, hx, Instr.loadAt, Instr.sureAddr, Sem.run_bind, Sem.run_pure, Result.andThen_ok, run_load_mem ha hm.out hin hl.out]
    exact this
theorem run_store_mem {g n : Nat} {T : TypeId} {xs ys : List Int} (ha : Arr T n) (hm : Mem w0 L w) (hin : (g, T, xs) ∈ L) (hl : xs.length = n) (hl' : ys.length = n) : (storeVar T ⟨g, 0, none⟩ (.agg (icells ys))).run Tryd.prog w = .ok () (w.setRow g (icells ys)) :=
  run_storeVar_row w g T T (icells xs) (icells ys) (hm.get hin) (by rw [ha.size, icells_size, hl']) (by rw [icells_size, icells_size, hl, hl']) (icells_one ys)
theorem wl_store (hgd : Region.wanted o (yielded ops a.tmps) = true) (T : TypeId) (x y : Operand) (ho : o.op = .store T x y) {g n : Nat} (hx : a.eval x = .pointer (some ⟨g, 0, none⟩)) {ys : List Int} (hy : a.eval y = .agg (icells ys)) (ha : Arr T n) {xs : List Int}
    (hm : Hid (Mem w0 L w)) (i : Nat) (hi : L[i]? = some (g, T, xs)) (hl : Hid (xs.length = n)) (hl' : Hid (ys.length = n))
    (h : ∀ w', Hid (Mem w0 (L.set i (g, T, ys)) w') → wpList Tryd.prog ops Q rest (a.put o.dst undef) w') : wpList Tryd.prog ops Q (o :: rest) a w :=
  wl_step hgd fun K hK => by
    have := hK _ _ (h _ (Lib.hid (hm.out.row i hi ys)))
    unfold Oper.wp execOp
    simp only [ho, hx, hy, Instr.storeAt, Instr.sureAddr, Sem.run_bind, Sem.run_pure, Result.andThen_ok, run_store_mem ha hm.out (List.mem_of_getElem? hi) hl.out hl'.out]
    exact this
end
/- short words for the arms: the premises find themselves -/
theorem arrOf {T : TypeId} {n : Nat} (h : Arr T n := by first | exact arrSpec | exact arrLev | exact arrAll | exact arrHop | exact arrSix) : Arr T n := h
theorem memOf {e : Nat × TypeId × List Int} {L : List (Nat × TypeId × List Int)} (h : e ∈ L := by repeat' (first | exact .head _ | refine .tail _ ?_)) : e ∈ L := h
theorem lenOf {xs : List Int} {n : Nat} (h : Hid (xs.length = n) := by with_reducible first | assumption | exact Lib.hid (zr_length _) | exact Lib.hid (tab_length _ _)) : Hid (xs.length = n) := h
theorem subOf {L L' : List (Nat × TypeId × List Int)} (h : List.Sublist L L' := by repeat' first | exact List.nil_sublist _ | exact .slnil | refine List.Sublist.cons_cons _ ?_ | refine List.Sublist.cons _ ?_) : List.Sublist L L' := h
/-- the i-th entry is e -/
def Nth (L : List (Nat × TypeId × List Int)) (i : Nat) (e : Nat × TypeId × List Int) : Prop := L[i]? = some e
theorem Nth.hd {e : Nat × TypeId × List Int} {L : List (Nat × TypeId × List Int)} : Nth (e :: L) 0 e := rfl
theorem Nth.tl {e x : Nat × TypeId × List Int} {L : List (Nat × TypeId × List Int)} {i : Nat} (h : Nth L i e) : Nth (x :: L) (i + 1) e := by
  unfold Nth at h ⊢; rw [List.getElem?_cons_succ]; exact h
theorem idxOf {L : List (Nat × TypeId × List Int)} {i : Nat} {e : Nat × TypeId × List Int} (h : Nth L i e := by first | exact Nth.hd | exact Nth.tl (Nth.hd) | exact Nth.tl (Nth.tl (Nth.hd)) | exact Nth.tl (Nth.tl (Nth.tl (Nth.hd))) | exact Nth.tl (Nth.tl (Nth.tl (Nth.tl (Nth.hd)))) | exact Nth.tl (Nth.tl (Nth.tl (Nth.tl (Nth.tl (Nth.hd))))) | exact Nth.tl (Nth.tl (Nth.tl (Nth.tl (Nth.tl (Nth.tl (Nth.hd)))))) | exact Nth.tl (Nth.tl (Nth.tl (Nth.tl (Nth.tl (Nth.tl (Nth.tl (Nth.hd))))))) | exact Nth.tl (Nth.tl (Nth.tl (Nth.tl (Nth.tl (Nth.tl (Nth.tl (Nth.tl (Nth.hd)))))))) | exact Nth.tl (Nth.tl (Nth.tl (Nth.tl (Nth.tl (Nth.tl (Nth.tl (Nth.tl (Nth.tl (Nth.hd))))))))) | exact Nth.tl (Nth.tl (Nth.tl (Nth.tl (Nth.tl (Nth.tl (Nth.tl (Nth.tl (Nth.tl (Nth.tl (Nth.hd)))))))))) | exact Nth.tl (Nth.tl (Nth.tl (Nth.tl (Nth.tl (Nth.tl (Nth.tl (Nth.tl (Nth.tl (Nth.tl (Nth.tl (Nth.hd))))))))))) | exact Nth.tl (Nth.tl (Nth.tl (Nth.tl (Nth.tl (Nth.tl (Nth.tl (Nth.tl (Nth.tl (Nth.tl (Nth.tl (Nth.tl (Nth.hd)))))))))))) | exact Nth.tl (Nth.tl (Nth.tl (Nth.tl (Nth.tl (Nth.tl (Nth.tl (Nth.tl (Nth.tl (Nth.tl (Nth.tl (Nth.tl (Nth.tl (Nth.hd)))))))))))))) : Nth L i e := h
/-- how many entries there are -/
def dL {w0 w : World} {L : List (Nat × TypeId × List Int)} (_ : Hid (Mem w0 L w)) : Nat := L.length
section
variable {ops : Array Oper} {rest : List Oper} {o : Oper} {a : Act} {w w0 : World} {Q : Exit → Act → World → Prop} {L : List (Nat × TypeId × List Int)}
theorem wl_storeM (hgd : Region.wanted o (yielded ops a.tmps) = true) (T : TypeId) (x y : Operand) (ho : o.op = .store T x y) {g n : Nat} (hx : a.eval x = .pointer (some ⟨g, 0, none⟩)) {ys : List Int} (hy : a.eval y = .agg (icells ys)) (ha : Arr T n) {xs : List Int}
    (hm : Hid (Mem w0 L w)) {i : Nat} (hi : Nth L i (g, T, xs)) (hl : Hid (xs.length = n)) (hl' : Hid (ys.length = n))
    (h : ∀ w', Hid (Mem w0 (L.set i (g, T, ys)) w') → wpList Tryd.prog ops Q rest (a.put o.dst undef) w') : wpList Tryd.prog ops Q (o :: rest) a w :=
  wl_store hgd T x y ho hx hy ha hm i hi hl hl' h
end
theorem arn_elem (w : World) : (sizeOf 3).run Tryd.prog w = .ok 1 w := by kernel_rfl
section
variable {ops : Array Oper} {rest : List Oper} {o : Oper} {a : Act} {w w0 : World} {Q : Exit → Act → World → Prop} {L : List (Nat × TypeId × List Int)}
theorem wl_zero (hgd : Region.wanted o (yielded ops a.tmps) = true) (T : TypeId) (ho : o.op = .build T #[]) {n : Nat} (ha : Arr T n) (hu : Tryd.prog.underlying T = some (.array n 3))
    (h : wpList Tryd.prog ops Q rest (a.put o.dst (.agg (icells (zr n)))) w) : wpList Tryd.prog ops Q (o :: rest) a w :=
  wl_step hgd fun K hK => by
    have := hK _ _ h
    unfold Oper.wp execOp
    simp only [ho, Instr.build, Sem.run_bind, ha.zero w, Result.andThen_ok, run_underlying hu w, Value.cells, List.map_toArray, List.map_nil]
    simp only [arn_elem w, Result.andThen_ok, Instr.fill, Sem.run_pure]
    exact this
theorem wl_built (hgd : Region.wanted o (yielded ops a.tmps) = true) (T : TypeId) (parts : Array (Nat × Operand)) (ho : o.op = .build T parts) (xs : List Int)
    (hf : Tryd.prog.built T (parts.map fun (i, x) => (i, a.eval x)).toList = some (icells xs))
    (h : wpList Tryd.prog ops Q rest (a.put o.dst (.agg (icells xs))) w) : wpList Tryd.prog ops Q (o :: rest) a w :=
  wl_step hgd fun K hK => by
    have := hK _ _ h
    refine wp_build T parts ho (by rw [hf]; rfl) ?_
    rw [hf]
    exact this
end
theorem Mem.add {w0 w w' : World} {L : List (Nat × TypeId × List Int)} (h : Mem w0 L w) (hb : Below w.heap.size w w') {r : Nat} {T : TypeId} {xs : List Int} (hr : w.heap.size ≤ r) (hB : Blk w' r T (icells xs)) : Mem w0 ((r, T, xs) :: L) w' := by
  refine ⟨h.1.trans (hb.mono h.1.size), fun e he => ?_, fun e he => ?_, .cons (fun e he => Nat.ne_of_gt (Nat.lt_of_lt_of_le (h.2.1 e he).lt hr)) h.2.2.2⟩
  · rcases List.mem_cons.1 he with rfl | he
    · exact hB
    · exact (h.2.1 e he).below hb (h.2.1 e he).lt
  · rcases List.mem_cons.1 he with rfl | he
    · exact Nat.le_trans h.1.size hr
    · exact h.2.2.1 e he
theorem rd_sub {w : World} {g : Nat} {T : TypeId} {xs : List Int} (h : Blk w g T (icells xs)) (o n : Nat) (hn : (xs.drop o).length = n) : RdI w (some ⟨g, o, none⟩) n (xs.drop o) := by
  refine ⟨hn, fun _ => ⟨_, rfl, fun j x hx => ?_⟩⟩
  rw [Addr.add_mid, h.cell]
  rw [List.getElem?_drop] at hx
  simp [icells, hx]
/-- copy into a block that is known whole -/
theorem run_copy_mem {w : World} {g : Nat} {T : TypeId} {zs xs : List Int} (hg : Blk w g T (icells zs)) (o dLen dCap : Nat) {ad : Addr} {n : Nat} (sCap : Nat) (hr : RdI w (some ad) n xs) (hn : n = Nat.min n dLen) (hfit : o + n ≤ zs.length) (ys : List Int)
    (hys : zs.take o ++ xs ++ zs.drop (o + n) = ys) :
    (Builtin.copy_ #[77, 77] 3 #[.slice (some ⟨g, o, none⟩) dLen dCap, .slice (some ad) n sCap]).run Tryd.prog w = .ok (goInt n) (w.setRow g (icells ys)) := by
  have hl := hr.1
  have := run_copy_row (P := Tryd.prog) w 77 77 3 3 g o dLen dCap ad n sCap (icells zs) T (xs.map fun x => Value.int .i64 x) Tryd.underlying77 (by kernel_rfl) hg (by rw [List.length_map, hl]; exact hn)
    (fun j v hv => by
      rw [List.getElem?_map] at hv
      cases hx : xs[j]? with
      | none => rw [hx] at hv; cases hv
      | some x =>
        rw [hx] at hv
        injection hv with hv
        subst hv
        by_cases h0 : 0 < n
        · obtain ⟨ad', e, hc⟩ := hr.2 h0
          injection e with e
          subst e
          exact hc j x hx
        · have := (List.getElem?_eq_some_iff.1 hx).1; omega)
    (by rw [icells_size, List.length_map, hl]; exact hfit)
    (fun v hv => by
      rw [List.mem_map] at hv
      obtain ⟨x, -, rfl⟩ := hv
      rfl)
  rw [this, List.length_map, hl]
  congr 2
  rw [← hys]
  simp [icells, List.map_take, List.map_drop]
/-- an element of an array that is a value -/
theorem run_index (T : TypeId) {n : Nat} (hT : Tryd.prog.underlying T = some (.array n 3)) (xs : List Int) (hl : xs.length = n) (k : Nat) (hk : k < n) (w : World) :
    (Instr.index T (.agg (icells xs)) (.int .i64 (k : Int))).run Tryd.prog w = .ok (.int .i64 (xs.getD k 0)) w := by
  have hs : (sizeOf 3).run Tryd.prog w = .ok 1 w := by kernel_rfl
  have ha : (isAgg 3).run Tryd.prog w = .ok false w := by kernel_rfl
  have hc : (icells xs)[k]? = some (.int .i64 (xs.getD k 0)) := icells_get (by omega)
  simp only [Instr.index, asIntOf, Sem.run_bind, Sem.run_pure, Result.andThen_ok, run_underlying hT w]
  rw [if_pos ⟨by omega, by omega⟩]
  simp [Sem.run_bind, hs, part, ha, Result.andThen, hc]
/-- two arrays that are values, compared -/
theorem getD_ext {xs ys : List Int} (h : xs.length = ys.length) (hk : ∀ k, k < xs.length → xs.getD k 0 = ys.getD k 0) : xs = ys := by
  refine List.ext_getElem h fun k h1 h2 => ?_
  have := hk k h1
  simpa [List.getD_eq_getElem?_getD, h1, h2] using this
theorem res_one {fn : Func} {p : Tmp} {ty : TypeId} (h : fn.results = #[.cell p ty]) (tmps : Array Value) {w w0 : World} {L : List (Nat × TypeId × List Int)} {g n : Nat} {xs : List Int}
    (hp : tmps.getD p undef = .pointer (some ⟨g, 0, none⟩)) (ha : Arr ty n) (hm : Hid (Mem w0 L w)) (hin : (g, ty, xs) ∈ L) (hl : Hid (xs.length = n)) : (results fn tmps).run Tryd.prog w = .ok (.agg (icells xs)) w := by
  obtain ⟨d, h1, h2⟩ := ha.1
  exact results_cell_row h tmps w g ty (icells xs) (0, 0) d hp (hm.out.get hin) h1 (by cases d <;> first | rfl | cases h2) (by rw [ha.size, icells_size, hl.out])
theorem res_two {fn : Func} {p u : Tmp} {ty : TypeId} (h : fn.results = #[.cell p ty, .tmp u]) (tmps : Array Value) {w w0 : World} {L : List (Nat × TypeId × List Int)} {g n : Nat} {xs : List Int} {v : Value}
    (hp : tmps.getD p undef = .pointer (some ⟨g, 0, none⟩)) (hv : tmps.getD u undef = v) (ha : Arr ty n) (hm : Hid (Mem w0 L w)) (hin : (g, ty, xs) ∈ L) (hl : Hid (xs.length = n)) :
    (results fn tmps).run Tryd.prog w = .ok (.tuple #[.agg (icells xs), v]) w := by
  rw [results_cell_tmp h, hp, hv]
  simp only [asAddr, Sem.run_pure, Result.andThen_ok, run_load_mem ha hm.out hin hl.out]
theorem res_three {fn : Func} {p q u : Tmp} {ty tz : TypeId} (h : fn.results = #[.cell p ty, .cell q tz, .tmp u]) (tmps : Array Value) {w w0 : World} {L : List (Nat × TypeId × List Int)} {g k n m : Nat} {xs ys : List Int} {v : Value}
    (hp : tmps.getD p undef = .pointer (some ⟨g, 0, none⟩)) (hq : tmps.getD q undef = .pointer (some ⟨k, 0, none⟩)) (hv : tmps.getD u undef = v) (ha : Arr ty n) (hb : Arr tz m) (hm : Hid (Mem w0 L w))
    (hin : (g, ty, xs) ∈ L) (hin' : (k, tz, ys) ∈ L) (hl : Hid (xs.length = n)) (hl' : Hid (ys.length = m)) :
    (results fn tmps).run Tryd.prog w = .ok (.tuple #[.agg (icells xs), .agg (icells ys), v]) w := by
  have hp' : tmps[p]?.getD undef = .pointer (some ⟨g, 0, none⟩) := by simpa using hp
  have hq' : tmps[q]?.getD undef = .pointer (some ⟨k, 0, none⟩) := by simpa using hq
  have hv' : tmps[u]?.getD undef = v := by simpa using hv
  simp [results, h, hp', hq', hv', asAddr, Sem.run_bind, Result.andThen, run_load_mem ha hm.out hin hl.out, run_load_mem hb hm.out hin' hl'.out]
end Go.Proofs.YtcnckamocbaceaaDoor.Lp
/- Lb -/
namespace Go.Proofs.YtcnckamocbaceaaDoor.Lp
open Go.RowKit Go.Proofs.YtcnckamocbaceaaDoor.Fx Go.Proofs.YtcnckamocbaceaaDoor.Fq Go.Proofs.YtcnckamocbaceaaDoor.Tb
/-- the circle on the way: a cosines, b sines -/
def cR (a b : Nat) : List Int := (List.range 256).map fun n => if n < 128 then (if n < a then cosP n else 0) else if n - 128 < b then sinP (n - 128) else 0
def cAll : List Int := cR 128 128
theorem cR_length (a b : Nat) : (cR a b).length = 256 := by rw [cR, List.length_map, List.length_range]
theorem cAll_length : cAll.length = 256 := cR_length _ _
theorem cR_get (a b n : Nat) (h : n < 256) : (cR a b)[n]? = some (if n < 128 then (if n < a then cosP n else 0) else if n - 128 < b then sinP (n - 128) else 0) := by
  unfold cR; rw [List.getElem?_map, List.getElem?_range h]; rfl
theorem cR_none : cR 0 0 = zr 256 := by
  unfold zr
  refine List.ext_getElem? fun i => ?_
  by_cases h : i < 256
  · rw [cR_get _ _ _ h, List.getElem?_replicate, if_pos h]
    simp
  · rw [List.getElem?_eq_none (by rw [cR_length]; omega), List.getElem?_eq_none (by rw [List.length_replicate]; omega)]
theorem cR_cos (a b : Nat) (h : a < 128) : (cR a b).set a (cosP a) = cR (a + 1) b := by
  refine List.ext_getElem? fun i => ?_
  rw [List.getElem?_set, cR_length]
  by_cases hi : i < 256
  · rw [cR_get _ _ _ hi, cR_get _ _ _ hi]
    by_cases k : a = i
    · subst k
      rw [if_pos rfl, if_pos hi, if_pos h, if_pos (by omega)]
    · rw [if_neg k]
      by_cases k1 : i < 128
      · rw [if_pos k1, if_pos k1]
        by_cases k2 : i < a
        · rw [if_pos k2, if_pos (by omega)]
        · rw [if_neg k2, if_neg (by omega)]
      · rw [if_neg k1, if_neg k1]
  · rw [List.getElem?_eq_none (by rw [cR_length]; omega), List.getElem?_eq_none (by rw [cR_length]; omega), if_neg (by omega)]
theorem cR_sin (a b : Nat) (h : b < 128) : (cR a b).set (128 + b) (sinP b) = cR a (b + 1) := by
  refine List.ext_getElem? fun i => ?_
  rw [List.getElem?_set, cR_length]
  by_cases hi : i < 256
  · rw [cR_get _ _ _ hi, cR_get _ _ _ hi]
    by_cases k : 128 + b = i
    · subst k
      rw [if_pos rfl, if_pos hi, if_neg (by omega), if_pos (by omega), show 128 + b - 128 = b by omega]
    · rw [if_neg k]
      by_cases k1 : i < 128
      · rw [if_pos k1, if_pos k1]
      · rw [if_neg k1, if_neg k1]
        by_cases k2 : i - 128 < b
        · rw [if_pos k2, if_pos (by omega)]
        · rw [if_neg k2, if_neg (by omega)]
  · rw [List.getElem?_eq_none (by rw [cR_length]; omega), List.getElem?_eq_none (by rw [cR_length]; omega), if_neg (by omega)]
theorem cAll_cos (n : Nat) (h : n < 128) : cAll.getD n 0 = cosP n := by
  unfold cAll
  rw [List.getD_eq_getElem?_getD, cR_get _ _ _ (by omega), if_pos h, if_pos h]; rfl
theorem cAll_sin (n : Nat) (h : n < 128) : cAll.getD (128 + n) 0 = sinP n := by
  unfold cAll
  rw [List.getD_eq_getElem?_getD, cR_get _ _ _ (by omega), if_neg (by omega), show 128 + n - 128 = n by omega, if_pos h]; rfl
/-- the window's n-th, the kernel's (n, k) -/
def winP (n : Nat) : Int := sinP (2 * n + 1)
def kerP (n k : Nat) : Int := cosP ((2 * n + 17) * (2 * k + 1) % 128)
theorem kerP_is (n k : Nat) : kerI (n : Int) (k : Int) = kerP n k := by
  have e : (2 * (n : Int) + 17) * (2 * (k : Int) + 1) = (((2 * n + 17) * (2 * k + 1) : Nat) : Int) := by simp
  have e2 : pl (phI (n : Int) (k : Int)) = (2 * n + 17) * (2 * k + 1) % 128 := by
    unfold pl phI
    rw [e]
    generalize (2 * n + 17) * (2 * k + 1) = z
    omega
  unfold kerI kerP
  rw [e2]
def RoundQ (w : World) (e : Ending) (w' : World) : Prop := e = .returned (.agg (icells cAll)) ∧ Below w.heap.size w w'
end Go.Proofs.YtcnckamocbaceaaDoor.Lp
/- Lm -/
namespace Go.Proofs.YtcnckamocbaceaaDoor.Lp
open Go.RowKit Go.Proofs.YtcnckamocbaceaaDoor.Fx Go.Proofs.YtcnckamocbaceaaDoor.Fq Go.Proofs.YtcnckamocbaceaaDoor.Tb
theorem small_all : ∀ n, n < 128 → -16777300 ≤ cosP n ∧ cosP n ≤ 16777300 ∧ -16777300 ≤ sinP n ∧ sinP n ≤ 16777300 := by decide +kernel
theorem win_bd {n : Nat} (h : n < 32) : -16777300 ≤ winP n ∧ winP n ≤ 16777300 := by
  have := small_all (2 * n + 1) (by omega)
  exact ⟨this.2.2.1, this.2.2.2⟩
theorem ker_bd (n k : Nat) : -16777300 ≤ kerP n k ∧ kerP n k ≤ 16777300 := by
  have := small_all ((2 * n + 17) * (2 * k + 1) % 128) (Nat.mod_lt _ (by omega))
  exact ⟨this.1, this.2.1⟩
theorem mul_bd {x y A B : Int} (hx1 : -A ≤ x) (hx2 : x ≤ A) (hy1 : -B ≤ y) (hy2 : y ≤ B) : -(A * B) ≤ x * y ∧ x * y ≤ A * B := by
  have hA : 0 ≤ A := by omega
  have hB : 0 ≤ B := by omega
  have h : (x * y).natAbs ≤ A.natAbs * B.natAbs := by
    rw [Int.natAbs_mul]
    exact Nat.mul_le_mul (by omega) (by omega)
  have e : ((A.natAbs * B.natAbs : Nat) : Int) = A * B := by
    rw [Int.natCast_mul, Int.natAbs_of_nonneg hA, Int.natAbs_of_nonneg hB]
  omega
/-- the sum of the first n of f's -/
def sumN (f : Nat → Int) : Nat → Int
  | 0 => 0
  | n + 1 => sumN f n + f n
theorem sumN_succ (f : Nat → Int) (n : Nat) : sumN f (n + 1) = sumN f n + f n := rfl
theorem sumN_bd (f : Nat → Int) (M : Int) : ∀ n : Nat, (∀ i, i < n → -M ≤ f i ∧ f i ≤ M) → -(M * (n : Int)) ≤ sumN f n ∧ sumN f n ≤ M * (n : Int)
  | 0, _ => by simp [sumN]
  | n + 1, h => by
    have ih := sumN_bd f M n fun i hi => h i (by omega)
    have h1 := h n (by omega)
    rw [sumN_succ, Int.natCast_add, Int.mul_add]
    simp only [Int.natCast_one, Int.mul_one]
    omega
theorem sumN_congr (f g : Nat → Int) : ∀ n : Nat, (∀ i, i < n → f i = g i) → sumN f n = sumN g n
  | 0, _ => rfl
  | n + 1, h => by rw [sumN_succ, sumN_succ, sumN_congr f g n fun i hi => h i (by omega), h n (by omega)]
theorem round_lit (v : Int) (b : Nat) (P H : Int) (hb : 1 ≤ b) (hb2 : b ≤ 62) (hP : ((2 ^ b : Nat) : Int) = P) (hH : ((2 ^ (b - 1) : Nat) : Int) = H) : roundI v (b : Int) = v / P + v / H % 2 := by
  unfold roundI
  rw [if_neg (by omega), if_neg (by omega), show ((b : Nat) : Int).toNat = b by omega, hP, hH]
theorem round8 (v : Int) : roundI v 8 = v / 256 + v / 128 % 2 := round_lit v 8 256 128 (by omega) (by omega) (by decide) (by decide)
theorem round16 (v : Int) : roundI v 16 = v / 65536 + v / 32768 % 2 := round_lit v 16 65536 32768 (by omega) (by omega) (by decide) (by decide)
theorem round20 (v : Int) : roundI v 20 = v / 1048576 + v / 524288 % 2 := round_lit v 20 1048576 524288 (by omega) (by omega) (by decide) (by decide)
theorem round27 (v : Int) : roundI v 27 = v / 134217728 + v / 67108864 % 2 := round_lit v 27 134217728 67108864 (by omega) (by omega) (by decide) (by decide)
theorem round28 (v : Int) : roundI v 28 = v / 268435456 + v / 134217728 % 2 := round_lit v 28 268435456 134217728 (by omega) (by omega) (by decide) (by decide)
/-- the list of f's first n -/
def tab (n : Nat) (f : Nat → Int) : List Int := (List.range n).map f
theorem tab_length (n : Nat) (f : Nat → Int) : (tab n f).length = n := by rw [tab, List.length_map, List.length_range]
theorem tab_get {n : Nat} (f : Nat → Int) {i : Nat} (h : i < n) : (tab n f)[i]? = some (f i) := by
  unfold tab; rw [List.getElem?_map, List.getElem?_range h]; rfl
theorem tab_getD {n : Nat} (f : Nat → Int) {i : Nat} (h : i < n) : (tab n f).getD i 0 = f i := by
  rw [List.getD_eq_getElem?_getD, tab_get f h]; rfl
theorem tab_congr {n : Nat} {f g : Nat → Int} (h : ∀ i, i < n → f i = g i) : tab n f = tab n g := by
  unfold tab; exact List.map_congr_left fun i hi => h i (List.mem_range.1 hi)
theorem tab_set {n : Nat} {f g : Nat → Int} {j : Nat} {v : Int} (hv : v = g j) (h : ∀ i, i < n → i ≠ j → f i = g i) : (tab n f).set j v = tab n g := by
  refine List.ext_getElem? fun i => ?_
  rw [List.getElem?_set, tab_length]
  by_cases hi : i < n
  · rw [tab_get f hi, tab_get g hi]
    by_cases k : j = i
    · subst k; rw [if_pos rfl, if_pos hi, hv]
    · rw [if_neg k, h i hi (Ne.symm k)]
  · rw [List.getElem?_eq_none (by rw [tab_length]; omega), List.getElem?_eq_none (by rw [tab_length]; omega)]
    split
    · rw [if_neg (by omega)]
    · rfl
theorem tab_zero (n : Nat) : tab n (fun _ => 0) = zr n := by
  unfold tab zr
  exact List.map_const' ..|>.trans (by rw [List.length_range])
theorem tab_self {n : Nat} {xs : List Int} (h : xs.length = n) : tab n (fun i => xs.getD i 0) = xs := by
  refine List.ext_getElem (by rw [tab_length, h]) fun i h1 h2 => ?_
  have := tab_get (fun i => xs.getD i 0) (n := n) (i := i) (by omega)
  rw [List.getElem?_eq_getElem h1] at this
  injection this with this
  rw [this]
  simp [List.getD_eq_getElem?_getD, h2]
/-- the first k made anew, the others as they are -/
def part2 (k : Nat) (f g : Nat → Int) : Nat → Int := fun i => if i < k then f i else g i
theorem part2_set {n k : Nat} (f g : Nat → Int) : (tab n (part2 k f g)).set k (f k) = tab n (part2 (k + 1) f g) :=
  tab_set (by unfold part2; rw [if_pos (by omega)]) fun i _ hne => by
    unfold part2
    by_cases h : i < k
    · rw [if_pos h, if_pos (by omega)]
    · rw [if_neg h, if_neg (by omega)]
theorem part2_all {n : Nat} (f g : Nat → Int) : tab n (part2 n f g) = tab n f := tab_congr fun i hi => by unfold part2; rw [if_pos hi]
theorem part2_none (n : Nat) (f g : Nat → Int) : tab n (part2 0 f g) = tab n g := tab_congr fun i _ => by unfold part2; rw [if_neg (by omega)]
/-- whether all are within bounds -/
def inR (lo hi : Int) (zs : List Int) : Bool := decide (∀ k, k < zs.length → lo ≤ zs.getD k 0 ∧ zs.getD k 0 ≤ hi)
/-- two frames' samples -/
def smp (p q : List Int) (n : Nat) : Int := if n < 16 then p.getD n 0 else q.getD (n - 16) 0
def wgt (p q : List Int) (n : Nat) : Int := roundI (smp p q n * winP n) 16
def fwd (p q : List Int) (k : Nat) : Int := roundI (sumN (fun n => wgt p q n * kerP n k) 32) 28
def fwdL (p q : List Int) : List Int := tab 16 (fwd p q)
def mixN (x : List Int) (n : Nat) : Int := sumN (fun k => x.getD k 0 * kerP n k) 16
def inv (x : List Int) (n : Nat) : Int := roundI (roundI (mixN x n) 20 * winP n) 27
def invL (x : List Int) : List Int := tab 32 (inv x)
def lapN (t w : List Int) (i : Nat) : Int := satI (roundI (t.getD i 0 + w.getD i 0) 8) 16
def lapL (t w : List Int) : List Int := tab 16 (lapN t w)
def leftL (w : List Int) : List Int := tab 16 (fun i => w.getD (16 + i) 0)
def okP (p : List Int) : Bool := inR (-32768) 32767 p
def okX (x : List Int) : Bool := inR (-67108864) 67108864 x
def okW (w : List Int) : Bool := inR (-1099511627776) 1099511627776 w
def fwdV (p q : List Int) : Value := if okP p = true ∧ okP q = true then .tuple #[.agg (icells (fwdL p q)), .int .i64 0] else .tuple #[.agg (icells (zr 16)), .int .i64 1]
def invV (x : List Int) : Value := if okX x = true then .tuple #[.agg (icells (invL x)), .int .i64 0] else .tuple #[.agg (icells (zr 32)), .int .i64 1]
def lapV (t w : List Int) : Value := if okW t = true ∧ okW w = true then .tuple #[.agg (icells (lapL t w)), .agg (icells (leftL w)), .int .i64 0] else .tuple #[.agg (icells (zr 16)), .agg (icells (zr 16)), .int .i64 1]
def eng (x : List Int) : Int := if okX x = true then sumN (fun k => x.getD k 0 * x.getD k 0) 16 else 0
def chkE (p : List Int) : Int := if okP p = true then 0 else 1
theorem inR_of {lo hi : Int} {zs : List Int} (h : inR lo hi zs = true) {k : Nat} (hk : k < zs.length) : lo ≤ zs.getD k 0 ∧ zs.getD k 0 ≤ hi := of_decide_eq_true h k hk
theorem inR_bd {lo hi : Int} {zs : List Int} (h : inR lo hi zs = true) (h0 : lo ≤ 0) (h1 : 0 ≤ hi) (k : Nat) : lo ≤ zs.getD k 0 ∧ zs.getD k 0 ≤ hi := by
  by_cases hk : k < zs.length
  · exact inR_of h hk
  · rw [List.getD_eq_getElem?_getD, List.getElem?_eq_none (by omega)]; exact ⟨h0, h1⟩
theorem inR_iff {lo hi : Int} {zs : List Int} {n : Nat} (hl : zs.length = n) : inR lo hi zs = true ↔ ∀ k, k < n → lo ≤ zs.getD k 0 ∧ zs.getD k 0 ≤ hi := by
  subst hl; unfold inR; rw [decide_eq_true_eq]
theorem smp_bd {p q : List Int} (hp : okP p = true) (hq : okP q = true) (n : Nat) : -32768 ≤ smp p q n ∧ smp p q n ≤ 32768 := by
  unfold smp
  have h1 := inR_bd hp (by omega) (by omega) n
  have h2 := inR_bd hq (by omega) (by omega) (n - 16)
  split <;> omega
theorem wgt_in {p q : List Int} (hp : okP p = true) (hq : okP q = true) {n : Nat} (hn : n < 32) : -549758566400 ≤ smp p q n * winP n ∧ smp p q n * winP n ≤ 549758566400 := by
  have h1 := smp_bd hp hq n
  have h2 := win_bd hn
  have := mul_bd (A := 32768) (B := 16777300) (by omega) h1.2 (by omega) h2.2
  omega
theorem wgt_bd {p q : List Int} (hp : okP p = true) (hq : okP q = true) {n : Nat} (hn : n < 32) : -8388700 ≤ wgt p q n ∧ wgt p q n ≤ 8388700 := by
  have := wgt_in hp hq hn
  unfold wgt
  rw [round16]
  omega
theorem fwd_term {p q : List Int} (hp : okP p = true) (hq : okP q = true) {n : Nat} (hn : n < 32) (k : Nat) : -140739737000000 ≤ wgt p q n * kerP n k ∧ wgt p q n * kerP n k ≤ 140739737000000 := by
  have h1 := wgt_bd hp hq hn
  have h2 := ker_bd n k
  have := mul_bd (A := 8388700) (B := 16777300) (by omega) h1.2 (by omega) h2.2
  omega
theorem fwd_sum {p q : List Int} (hp : okP p = true) (hq : okP q = true) (k j : Nat) (hj : j ≤ 32) : -4503671584000000 ≤ sumN (fun n => wgt p q n * kerP n k) j ∧ sumN (fun n => wgt p q n * kerP n k) j ≤ 4503671584000000 := by
  have := sumN_bd (fun n => wgt p q n * kerP n k) 140739737000000 j fun i hi => fwd_term hp hq (by omega) k
  omega
theorem mix_term {x : List Int} (hx : okX x = true) (n k : Nat) : -1125905544000000 ≤ x.getD k 0 * kerP n k ∧ x.getD k 0 * kerP n k ≤ 1125905544000000 := by
  have h1 := inR_bd hx (by omega) (by omega) k
  have h2 := ker_bd n k
  have := mul_bd (A := 67108864) (B := 16777300) (by omega) h1.2 (by omega) h2.2
  omega
theorem mix_sum {x : List Int} (hx : okX x = true) (n j : Nat) (hj : j ≤ 16) : -18014488704000000 ≤ sumN (fun k => x.getD k 0 * kerP n k) j ∧ sumN (fun k => x.getD k 0 * kerP n k) j ≤ 18014488704000000 := by
  have := sumN_bd (fun k => x.getD k 0 * kerP n k) 1125905544000000 j fun i hi => mix_term hx n i
  omega
theorem inv_mid {x : List Int} (hx : okX x = true) (n : Nat) : -17179967000 ≤ roundI (mixN x n) 20 ∧ roundI (mixN x n) 20 ≤ 17179967000 := by
  have := mix_sum hx n 16 (by omega)
  unfold mixN
  rw [round20]
  omega
theorem inv_in {x : List Int} (hx : okX x = true) {n : Nat} (hn : n < 32) : -288233460350000000 ≤ roundI (mixN x n) 20 * winP n ∧ roundI (mixN x n) 20 * winP n ≤ 288233460350000000 := by
  have h1 := inv_mid hx n
  have h2 := win_bd hn
  have := mul_bd (A := 17179967000) (B := 16777300) (by omega) h1.2 (by omega) h2.2
  omega
theorem inv_bd {x : List Int} (hx : okX x = true) {n : Nat} (hn : n < 32) : -2147507000 ≤ inv x n ∧ inv x n ≤ 2147507000 := by
  have := inv_in hx hn
  unfold inv
  rw [round27]
  omega
theorem okW_inv {x : List Int} (hx : okX x = true) : okW (invL x) = true := (inR_iff (tab_length 32 _)).2 fun k hk => by
  show _ ≤ (tab 32 (inv x)).getD k 0 ∧ (tab 32 (inv x)).getD k 0 ≤ _
  rw [tab_getD _ hk]
  have := inv_bd hx hk
  omega
theorem hold31_id {a : Int} (h1 : -2147483648 ≤ a) (h2 : a ≤ 2147483647) : hold31 a = a := by
  unfold hold31 holdI
  omega
theorem mulI_wgt {p q : List Int} (hp : okP p = true) (hq : okP q = true) {n : Nat} (hn : n < 32) : mulI (smp p q n) (winP n) 16 = wgt p q n := by
  have h1 := smp_bd hp hq n
  have h2 := win_bd hn
  unfold mulI wgt
  rw [hold31_id (by omega) (by omega), hold31_id (by omega) (by omega)]
theorem eng_term {x : List Int} (hx : okX x = true) (k : Nat) : 0 ≤ x.getD k 0 * x.getD k 0 ∧ x.getD k 0 * x.getD k 0 ≤ 4503599627370496 := by
  have h1 := inR_bd hx (by omega) (by omega) k
  have := mul_bd (A := 67108864) (B := 67108864) (by omega) h1.2 (by omega) h1.2
  refine ⟨?_, by omega⟩
  generalize x.getD k 0 = v
  rcases Int.le_total 0 v with g | g
  · exact Int.mul_nonneg g g
  · exact Int.mul_nonneg_of_nonpos_of_nonpos g g
theorem eng_sum {x : List Int} (hx : okX x = true) : ∀ j : Nat, j ≤ 16 → 0 ≤ sumN (fun k => x.getD k 0 * x.getD k 0) j ∧ sumN (fun k => x.getD k 0 * x.getD k 0) j ≤ 4503599627370496 * (j : Int)
  | 0, _ => by simp [sumN]
  | j + 1, h => by
    have ih := eng_sum hx j (by omega)
    have := eng_term hx j
    rw [sumN_succ]
    omega
end Go.Proofs.YtcnckamocbaceaaDoor.Lp
/- Lc -/
namespace Go.Proofs.YtcnckamocbaceaaDoor.Lp
open Go.RowKit Go.Proofs.YtcnckamocbaceaaDoor.Fx Go.Proofs.YtcnckamocbaceaaDoor.Fq Go.Proofs.YtcnckamocbaceaaDoor.Tb
set_option maxRecDepth 100000 in
set_option maxHeartbeats 2000000 in
theorem within_any (lo hi : Int) (A : Option Addr) (n c : Nat) (zs : List Int) (b : Bool) (w : World) (hr : Hid (RdI w A n zs)) (hn : n ≤ maxLen) (hb : inR lo hi zs = b) :
    Calls Tryd.prog 63 #[.int .i64 lo, .int .i64 hi, .slice A n c] w fun e w' => e = .returned (.bool b) ∧ w = w' := by
  have HI := Lib.hid (inR_iff (lo := lo) (hi := hi) hr.out.1)
  rw [hb] at HI
  clear hb
  unfold maxLen at hn
  go_enter Tryd.func63, Tryd.ntmps63
  go_wp2_with fail
  go_loop [11] (fun vi => ∃ k : Nat, vi = .int .i64 (k : Int) ∧ k ≤ n ∧ Hid (∀ j, j < k → lo ≤ zs.getD j 0 ∧ zs.getD j 0 ≤ hi)) (fun vi => n - (intOf vi).toNat)
  case atStart => exact ⟨0, rfl, by omega, Lib.hid (fun j hj => by omega)⟩
  case round =>
    obtain ⟨k, rfl, hk, HK⟩ := hrel
    by_cases hlt : k < n
    · obtain ⟨ad, rfl, hlt2, hcell⟩ := hr.out.at_ hlt
      obtain ⟨x, hx⟩ : ∃ x, zs.getD k 0 = x := ⟨_, rfl⟩
      rw [hx] at hcell
      have HX := Lib.hid hx
      clear hx hlt2
      by_cases h1 : x < lo
      · obtain rfl : b = false := by
          cases b with
          | false => rfl
          | true => have := HI.out.1 rfl k hlt; rw [HX.out] at this; omega
        go_wp2
        go_ret
        exact ⟨rfl, rfl⟩
      · by_cases h2 : hi < x
        · obtain rfl : b = false := by
            cases b with
            | false => rfl
            | true => have := HI.out.1 rfl k hlt; rw [HX.out] at this; omega
          go_wp2
          go_ret
          exact ⟨rfl, rfl⟩
        · go_wp2
          go_round
          case rel =>
            refine ⟨k + 1, by go_num, by omega, Lib.hid fun j hj => ?_⟩
            by_cases hjk : j < k
            · exact HK.out j hjk
            · obtain rfl : j = k := by omega
              rw [HX.out]; omega
          case measure => simp [intOf]; omega
    · obtain rfl : k = n := by omega
      obtain rfl : b = true := HI.out.2 HK.out
      go_wp2
      go_ret
      exact ⟨rfl, rfl⟩
set_option maxRecDepth 100000 in
set_option maxHeartbeats 2000000 in
theorem areNumbers_any (x : List Int) (b : Bool) (w : World) (hl : x.length = 16) (hb : okX x = b) :
    Calls Tryd.prog 57 #[.agg (icells x)] w fun e w' => e = .returned (.bool b) ∧ Below w.heap.size w w' := by
  have HL := Lib.hid hl
  have HB := Lib.hid hb
  have HM := Lib.hid (Mem.start w)
  clear hl hb
  go_enter Tryd.func57, Tryd.ntmps57
  go_wp2_with (first | ((first | refine wl_box rfl _ _ rfl rfl HM ?_ | refine wl_alloc rfl _ rfl (by exact arrOf) HM ?_); first | (have q : dL HM = 0 := rfl; clear q HM; intro g1 u1 HM) | (have q : dL HM = 1 := rfl; clear q HM; intro g2 u2 HM) | (have q : dL HM = 2 := rfl; clear q HM; intro g3 u3 HM) | (have q : dL HM = 3 := rfl; clear q HM; intro g4 u4 HM) | (have q : dL HM = 4 := rfl; clear q HM; intro g5 u5 HM) | (have q : dL HM = 5 := rfl; clear q HM; intro g6 u6 HM) | (have q : dL HM = 6 := rfl; clear q HM; intro g7 u7 HM) | (have q : dL HM = 7 := rfl; clear q HM; intro g8 u8 HM) | (have q : dL HM = 8 := rfl; clear q HM; intro g9 u9 HM) | (have q : dL HM = 9 := rfl; clear q HM; intro g10 u10 HM) | (have q : dL HM = 10 := rfl; clear q HM; intro g11 u11 HM) | (have q : dL HM = 11 := rfl; clear q HM; intro g12 u12 HM) | (have q : dL HM = 12 := rfl; clear q HM; intro g13 u13 HM) | (have q : dL HM = 13 := rfl; clear q HM; intro g14 u14 HM)) | (refine wl_load rfl _ _ rfl rfl (by exact arrOf) HM (by exact memOf) (by exact lenOf) ?_) | (refine wl_storeM rfl _ _ _ rfl rfl rfl (by exact arrOf) HM (by exact idxOf) (by exact lenOf) (by exact lenOf) ?_; clear HM; intro us HM; dsimp only [List.set] at HM) | (refine wl_zero rfl _ rfl (by exact arrOf) (by kernel_rfl) ?_))
  refine (within_any _ _ _ 16 16 x b _ (Lib.hid (HM.out.rd (.head _) HL.out)) (by unfold maxLen; omega) HB.out).mono ?_
  rintro e w2 ⟨rfl, rfl⟩
  go_wp2
  go_ret
  exact ⟨rfl, HM.out.1⟩
/-- a number's row -/
def rowP (k : Nat) : List Int := tab 32 (fun n => kerP n k)
theorem rowP_is (k : Nat) : rowI (k : Int) = rowP k := by
  unfold rowI rowP tab
  exact List.map_congr_left fun n _ => kerP_is n k
def RowQ2 (w : World) (xs : List Int) (e : Ending) (w' : World) : Prop := ∃ r, e = .returned (.tuple #[.slice (some ⟨r, 0, none⟩) 32 32, .int .i64 0]) ∧ w.heap.size ≤ r ∧ Blk w' r 3 (icells xs) ∧ Below w.heap.size w w'
def RowPQ (w : World) (xs : List Int) (e : Ending) (w' : World) : Prop := ∃ r, e = .returned (.slice (some ⟨r, 0, none⟩) 32 32) ∧ w.heap.size ≤ r ∧ Blk w' r 3 (icells xs) ∧ Below w.heap.size w w'
end Go.Proofs.YtcnckamocbaceaaDoor.Lp
/- Ld -/
namespace Go.Proofs.YtcnckamocbaceaaDoor.Lp
open Go.RowKit Go.Proofs.YtcnckamocbaceaaDoor.Fx Go.Proofs.YtcnckamocbaceaaDoor.Fq Go.Proofs.YtcnckamocbaceaaDoor.Tb
theorem i64_w {x : Int} (h1 : -9223372036854775808 ≤ x) (h2 : x ≤ 9223372036854775807) : IntKind.i64.wrap x = x := IntWalk.i64_in _ (by omega)
def ShQ (w : World) (v : Int) (e : Ending) (w' : World) : Prop := e = .returned (.int .i64 v) ∧ Below w.heap.size w w'
def AggQ (w : World) (xs : List Int) (e : Ending) (w' : World) : Prop := e = .returned (.agg (icells xs)) ∧ Below w.heap.size w w'
theorem smp_app {p q : List Int} (hp : p.length = 16) (hq : q.length = 16) : p ++ q = tab 32 (smp p q) := by
  refine List.ext_getElem? fun i => ?_
  by_cases h : i < 16
  · rw [tab_get _ (by omega), List.getElem?_append_left (by omega), get_of_lt (by omega)]
    unfold smp
    rw [if_pos h]
  · by_cases h2 : i < 32
    · rw [tab_get _ (by omega), List.getElem?_append_right (by omega), hp, get_of_lt (by omega)]
      unfold smp
      rw [if_neg h]
    · rw [List.getElem?_eq_none (by rw [List.length_append]; omega), List.getElem?_eq_none (by rw [tab_length]; omega)]
end Go.Proofs.YtcnckamocbaceaaDoor.Lp
/- Le -/
namespace Go.Proofs.YtcnckamocbaceaaDoor.Lp
open Go.RowKit Go.Proofs.YtcnckamocbaceaaDoor.Fx Go.Proofs.YtcnckamocbaceaaDoor.Fq Go.Proofs.YtcnckamocbaceaaDoor.Tb
/-- each sample's sum, behind k numbers -/
def mxN (x : List Int) (k n : Nat) : Int := sumN (fun k => x.getD k 0 * kerP n k) k
end Go.Proofs.YtcnckamocbaceaaDoor.Lp
/- Lf -/
namespace Go.Proofs.YtcnckamocbaceaaDoor.Lp
open Go.RowKit Go.Proofs.YtcnckamocbaceaaDoor.Fx Go.Proofs.YtcnckamocbaceaaDoor.Fq Go.Proofs.YtcnckamocbaceaaDoor.Tb
def ValQ (w : World) (v : Value) (e : Ending) (w' : World) : Prop := e = .returned v ∧ Below w.heap.size w w'
end Go.Proofs.YtcnckamocbaceaaDoor.Lp
/- Lg -/
namespace Go.Proofs.YtcnckamocbaceaaDoor.Lp
open Go.RowKit Go.Proofs.YtcnckamocbaceaaDoor.Fx Go.Proofs.YtcnckamocbaceaaDoor.Fq Go.Proofs.YtcnckamocbaceaaDoor.Tb
set_option maxRecDepth 100000 in
set_option maxHeartbeats 4000000 in
theorem energy_any (x : List Int) (w : World) (lx : x.length = 16) :
    Calls Tryd.prog 47 #[.agg (icells x)] w (ValQ w (.int .u64 (eng x))) := by
  have LX := Lib.hid lx
  have HM := Lib.hid (Mem.start w)
  cases h : okX x with
  | false =>
    have HC := Lib.hid (fun u => areNumbers_any x false u lx h)
    have HV := Lib.hid (show eng x = 0 by unfold eng; rw [h]; rfl)
    clear lx h
    go_enter Tryd.func47, Tryd.ntmps47
    go_wp2_with (first | ((first | refine wl_box rfl _ _ rfl rfl HM ?_ | refine wl_alloc rfl _ rfl (by exact arrOf) HM ?_); first | (have q : dL HM = 0 := rfl; clear q HM; intro g1 u1 HM) | (have q : dL HM = 1 := rfl; clear q HM; intro g2 u2 HM) | (have q : dL HM = 2 := rfl; clear q HM; intro g3 u3 HM) | (have q : dL HM = 3 := rfl; clear q HM; intro g4 u4 HM) | (have q : dL HM = 4 := rfl; clear q HM; intro g5 u5 HM) | (have q : dL HM = 5 := rfl; clear q HM; intro g6 u6 HM) | (have q : dL HM = 6 := rfl; clear q HM; intro g7 u7 HM) | (have q : dL HM = 7 := rfl; clear q HM; intro g8 u8 HM) | (have q : dL HM = 8 := rfl; clear q HM; intro g9 u9 HM) | (have q : dL HM = 9 := rfl; clear q HM; intro g10 u10 HM) | (have q : dL HM = 10 := rfl; clear q HM; intro g11 u11 HM) | (have q : dL HM = 11 := rfl; clear q HM; intro g12 u12 HM) | (have q : dL HM = 12 := rfl; clear q HM; intro g13 u13 HM) | (have q : dL HM = 13 := rfl; clear q HM; intro g14 u14 HM)) | (refine wl_load rfl _ _ rfl rfl (by exact arrOf) HM (by exact memOf) (by exact lenOf) ?_) | (refine wl_storeM rfl _ _ _ rfl rfl rfl (by exact arrOf) HM (by exact idxOf) (by exact lenOf) (by exact lenOf) ?_; clear HM; intro us HM; dsimp only [List.set] at HM) | (refine wl_zero rfl _ rfl (by exact arrOf) (by kernel_rfl) ?_))
    refine (HC.out _).mono ?_
    rintro e w2 ⟨rfl, h1⟩
    have HM2 := Lib.hid (HM.out.below h1)
    clear h1 HM HC
    go_wp2
    go_ret
    exact ⟨by rw [HV.out]; rfl, HM2.out.1⟩
  | true =>
    have HC := Lib.hid (fun u => areNumbers_any x true u lx h)
    have HX := Lib.hid h
    have HV := Lib.hid (show eng x = sumN (fun k => x.getD k 0 * x.getD k 0) 16 by unfold eng; rw [if_pos h])
    clear lx h
    go_enter Tryd.func47, Tryd.ntmps47
    go_wp2_with (first | ((first | refine wl_box rfl _ _ rfl rfl HM ?_ | refine wl_alloc rfl _ rfl (by exact arrOf) HM ?_); first | (have q : dL HM = 0 := rfl; clear q HM; intro g1 u1 HM) | (have q : dL HM = 1 := rfl; clear q HM; intro g2 u2 HM) | (have q : dL HM = 2 := rfl; clear q HM; intro g3 u3 HM) | (have q : dL HM = 3 := rfl; clear q HM; intro g4 u4 HM) | (have q : dL HM = 4 := rfl; clear q HM; intro g5 u5 HM) | (have q : dL HM = 5 := rfl; clear q HM; intro g6 u6 HM) | (have q : dL HM = 6 := rfl; clear q HM; intro g7 u7 HM) | (have q : dL HM = 7 := rfl; clear q HM; intro g8 u8 HM) | (have q : dL HM = 8 := rfl; clear q HM; intro g9 u9 HM) | (have q : dL HM = 9 := rfl; clear q HM; intro g10 u10 HM) | (have q : dL HM = 10 := rfl; clear q HM; intro g11 u11 HM) | (have q : dL HM = 11 := rfl; clear q HM; intro g12 u12 HM) | (have q : dL HM = 12 := rfl; clear q HM; intro g13 u13 HM) | (have q : dL HM = 13 := rfl; clear q HM; intro g14 u14 HM)) | (refine wl_load rfl _ _ rfl rfl (by exact arrOf) HM (by exact memOf) (by exact lenOf) ?_) | (refine wl_storeM rfl _ _ _ rfl rfl rfl (by exact arrOf) HM (by exact idxOf) (by exact lenOf) (by exact lenOf) ?_; clear HM; intro us HM; dsimp only [List.set] at HM) | (refine wl_zero rfl _ rfl (by exact arrOf) (by kernel_rfl) ?_))
    refine (HC.out _).mono ?_
    rintro e w2 ⟨rfl, h1⟩
    have HM2 := Lib.hid (HM.out.below h1)
    clear h1 HM HC
    have HM := HM2
    clear HM2
    go_wp2_with (refine wl_load rfl _ _ rfl rfl (by exact arrOf) HM (by exact memOf) (by exact lenOf) ?_)
    go_loop [3, 10] (fun vs vi => ∃ k : Nat, k ≤ 16 ∧ vi = .int .i64 (k : Int) ∧ vs = .int .u64 (sumN (fun k => x.getD k 0 * x.getD k 0) k)) (fun _ vi => 16 - (intOf vi).toNat)
    case atStart => exact ⟨0, by omega, rfl, rfl⟩
    case round =>
      obtain ⟨k, hk, rfl, rfl⟩ := hrel
      by_cases hlt : k < 16
      · have hix := run_index 30 (n := 16) (by kernel_rfl) x LX.out k hlt
        have t1 := eng_term HX.out k
        have t2 := eng_sum HX.out k (by omega)
        have t3 := eng_sum HX.out (k + 1) (by omega)
        rw [sumN_succ] at t3
        have HT := Lib.hid (show sumN (fun k => x.getD k 0 * x.getD k 0) (k + 1) = _ from sumN_succ _ _)
        generalize sumN (fun k => x.getD k 0 * x.getD k 0) k = S at t2 t3 HT ⊢
        obtain ⟨z, hz⟩ : ∃ z, x.getD k 0 = z := ⟨_, rfl⟩
        rw [hz] at hix t1 t3 HT
        have e1 : IntKind.i64.wrap (z * z) = z * z := i64_w (by omega) (by omega)
        have e2 : IntKind.u64.wrap (z * z) = z * z := IntWalk.u64_in _ (by omega)
        have e3 : IntKind.u64.wrap (S + z * z) = S + z * z := IntWalk.u64_in _ (by omega)
        have k16 : (k : Int) < 16 := by omega
        clear t1 t2 t3 hz
        go_wp2
        go_round
        case rel => exact ⟨k + 1, by omega, by go_num, by rw [HT.out]⟩
        case measure => simp [intOf]; omega
      · obtain rfl : k = 16 := by omega
        go_wp2
        go_ret
        exact ⟨by rw [HV.out]; rfl, HM.out.1⟩
/-- the cells of ints -/
def ic (xs : List Int) : List Value := xs.map fun x => Value.int .i64 x
theorem ic_length (xs : List Int) : (ic xs).length = xs.length := by rw [ic, List.length_map]
theorem ic_one (xs : List Int) : ∀ v ∈ ic xs, v.oneCell' = true := fun v hv => by
  rw [ic, List.mem_map] at hv
  obtain ⟨x, -, rfl⟩ := hv
  rfl
theorem ic_arr (xs : List Int) : (ic xs).toArray = icells xs := rfl
section
variable {w0 w : World} {L : List (Nat × TypeId × List Int)} {g n : Nat} {T : TypeId} {xs : List Int}
theorem Mem.range (h : Mem w0 L w) (hm : (g, T, xs) ∈ L) : w.rangeAt g 0 (ic xs) := fun j v hv => by
  rw [Nat.zero_add, (h.get hm).cell]
  rw [ic] at hv
  simpa [icells] using hv
theorem Mem.there (h : Mem w0 L w) (hm : (g, T, xs) ∈ L) (hl : xs.length = n) : w.there g 0 n := fun j hj => by
  rw [Nat.zero_add]
  refine ⟨?_, h.free hm j⟩
  rw [h.cell hm (by omega)]; rfl
theorem Mem.ne (h : Mem w0 L w) {i j : Nat} {a b : Nat × TypeId × List Int} (hi : L[i]? = some a) (hj : L[j]? = some b) (hij : i ≠ j) : a.1 ≠ b.1 := pw_ne h.2.2.2 hi hj hij
end
section
variable {ops : Array Oper} {o : Oper} {a : Act} {w w0 : World} {Q : Exit → Act → World → Prop} {K : Act → World → Prop} {L : List (Nat × TypeId × List Int)} {S : World → Prop}
/-- a load of a whole array in a region that draws: it may be taken first -/
theorem yi_load (hw : Region.wanted o (yielded ops a.tmps) = true) (T : TypeId) (x : Operand) (ho : o.op = .load T x) {g n : Nat} (hx : a.eval x = .pointer (some ⟨g, 0, none⟩)) (ha : Arr T n) {xs : List Int}
    (hS : ∀ u, S u → Mem w0 L u) (hin : (g, T, xs) ∈ L) (hl : Hid (xs.length = n)) : YieldsIf Tryd.prog ops S o (.agg (icells xs)) a :=
  .inl ⟨hw, fun u hu => by
    unfold execOp
    simp only [ho, hx, Instr.loadAt, Instr.sureAddr, Sem.run_bind, Sem.run_pure, Result.andThen_ok, run_load_mem ha (hS u hu) hin hl.out]⟩
/-- a load of one element -/
theorem yi_cell (hw : Region.wanted o (yielded ops a.tmps) = true) (x : Operand) (ho : o.op = .load 3 x) {ad : Addr} (hx : a.eval x = .pointer (some ad)) {v : Int}
    (hS : ∀ u, S u → u.cell? ad = some (.int .i64 v)) : YieldsIf Tryd.prog ops S o (.int .i64 v) a :=
  .inl ⟨hw, fun u hu => by
    have hg : (isAgg 3).run Tryd.prog u = .ok false u := by kernel_rfl
    unfold execOp
    simp only [ho, hx, Instr.loadAt, Instr.sureAddr, Sem.run_bind, Sem.run_pure, Result.andThen_ok, loadVar, hg, run_load, hS u hu, Bool.false_eq_true, if_false]⟩
/-- what needs no memory -/
theorem yi_free (hw : Region.wanted o (yielded ops a.tmps) = true) {v : Value} (h : ∀ u, (execOp a.eval o).run Tryd.prog u = .ok (.value v) u) : YieldsIf Tryd.prog ops S o v a := .inl ⟨hw, fun u _ => h u⟩
theorem wa_take {md : Region.Mode} {i d : Nat} {oi : Oper} {v : Value} {fuel : Nat} {listed : Array Bool} (hi : ops[i]? = some oi)
    (hs : Region.noSelect ops = true) (hf : Region.free md ops listed i = true) (hr : (Region.ready md ops listed).contains i = true)
    (hQ : ∀ c a w, Q (.panic c) (a.put oi.dst v) w → Q (.panic c) a w) (hy : YieldsIf Tryd.prog ops S oi v a) (hS : S w) (hd : oi.dst = some d)
    (h : wpAnyH Tryd.prog md ops Q S fuel (listed.setIfInBounds i true) (a.put (some d) v) w) : wpAnyH Tryd.prog md ops Q S (fuel + 1) listed a w :=
  wpAnyH_take hi hs hf hr hQ hy hS (by rw [hd]; exact h)
theorem ow_store (T : TypeId) (x y : Operand) (ho : o.op = .store T x y) {g n : Nat} (hx : a.eval x = .pointer (some ⟨g, 0, none⟩)) {ys : List Int} (hy : a.eval y = .agg (icells ys)) (ha : Arr T n) {xs : List Int}
    (hm : Hid (Mem w0 L w)) (i : Nat) (hi : L[i]? = some (g, T, xs)) (hl : Hid (xs.length = n)) (hl' : Hid (ys.length = n))
    (hd : o.dst = none) (h : ∀ w', Hid (Mem w0 (L.set i (g, T, ys)) w') → K (a.put none undef) w') : o.wp Tryd.prog a w K Q := by
  rw [← hd] at h
  have := h _ (Lib.hid (hm.out.row i hi ys))
  unfold Oper.wp execOp
  simp only [ho, hx, hy, Instr.storeAt, Instr.sureAddr, Sem.run_bind, Sem.run_pure, Result.andThen_ok, run_store_mem ha hm.out (List.mem_of_getElem? hi) hl.out hl'.out]
  exact this
end
theorem leftL_is {v : List Int} (lv : v.length = 32) : v.drop 16 = leftL v := by
  refine List.ext_getElem? fun i => ?_
  rw [List.getElem?_drop]
  unfold leftL
  by_cases h : i < 16
  · rw [tab_get _ h, get_of_lt (by omega)]
  · rw [List.getElem?_eq_none (by omega), List.getElem?_eq_none (by rw [tab_length]; omega)]
theorem lap_term {t v : List Int} (ht : okW t = true) (hv : okW v = true) (i : Nat) : -2199023255552 ≤ t.getD i 0 + v.getD i 0 ∧ t.getD i 0 + v.getD i 0 ≤ 2199023255552 := by
  have h1 := inR_bd ht (by omega) (by omega) i
  have h2 := inR_bd hv (by omega) (by omega) i
  omega
end Go.Proofs.YtcnckamocbaceaaDoor.Lp
/- Lh -/
namespace Go.Proofs.YtcnckamocbaceaaDoor.Lp
open Go.RowKit Go.Proofs.YtcnckamocbaceaaDoor.Fx Go.Proofs.YtcnckamocbaceaaDoor.Fq Go.Proofs.YtcnckamocbaceaaDoor.Tb
end Go.Proofs.YtcnckamocbaceaaDoor.Lp
