/-
  Own texts, laid together: La.
-/
import Derived.Test.YtplfcncibmgllaaDoorTg
import Derived.Deep.MidRow
import Derived.Deep.WholeRow
import Derived.Laws.ResultCell
import Derived.Deep.RegionHeld3
import Derived.Laws.CopyOwn
import Derived.Laws.StructEq
/- La -/
namespace Go.Proofs.YtplfcncibmgllaaDoor.Lp
open Go.RowKit Go.Proofs.YtplfcncibmgllaaDoor.Fx Go.Proofs.YtplfcncibmgllaaDoor.Fq Go.Proofs.YtplfcncibmgllaaDoor.Tb
/-- blocks that a call has made, each another one, and the ints that they hold -/
def Mem (w0 : World) (L : List (Nat × TypeId × List Int)) (w : World) : Prop :=
  Below w0.heap.size w0 w ∧ (∀ e ∈ L, Blk w e.1 e.2.1 (icells e.2.2)) ∧ (∀ e ∈ L, w0.heap.size ≤ e.1) ∧ L.Pairwise (fun a b => a.1 ≠ b.1)
section
variable {w0 w w' : World} {L : List (Nat × TypeId × List Int)} {g : Nat} {T : TypeId} {xs : List Int}
theorem Mem.start (w : World) : Mem w [] w := ⟨Below.refl _ _, by simp, by simp, .nil⟩
theorem Mem.get (h : Mem w0 L w) (hm : (g, T, xs) ∈ L) : Blk w g T (icells xs) := h.2.1 _ hm
theorem Mem.alloc (h : Mem w0 L w) (T : TypeId) (xs : List Int) : Mem w0 ((w.heap.size, T, xs) :: L) (w.alloc (.cells (icells xs) T)) := by
  obtain ⟨h1, h2, h3, h4⟩ := h
  refine ⟨h1.alloc h1.size _, fun e he => ?_, fun e he => ?_, .cons (fun e he => Nat.ne_of_gt (h2 e he).lt) h4⟩
  · rcases List.mem_cons.1 he with rfl | he
    · exact Blk.new w _ _
    · exact (h2 e he).alloc _
  · rcases List.mem_cons.1 he with rfl | he
    · exact h1.size
    · exact h3 e he
theorem Mem.below (h : Mem w0 L w) (hb : Below w.heap.size w w') : Mem w0 L w' :=
  ⟨h.1.trans (hb.mono h.1.size), fun e he => (h.2.1 e he).below hb (h.2.1 e he).lt, h.2.2.1, h.2.2.2⟩
theorem Mem.drew (h : Mem w0 L w) : Mem w0 L w.drew := ⟨⟨h.1.os, h.1.tape, h.1.output, h.1.size, h.1.block⟩, h.2.1, h.2.2⟩
theorem Mem.drewN (h : Mem w0 L w) (n : Nat) : Mem w0 L (w.drewN n) := ⟨below_drewN h.1 n, h.2.1, h.2.2⟩
theorem Mem.tail {e : Nat × TypeId × List Int} (h : Mem w0 (e :: L) w) : Mem w0 L w :=
  ⟨h.1, fun e he => h.2.1 e (.tail _ he), fun e he => h.2.2.1 e (.tail _ he), (List.pairwise_cons.1 h.2.2.2).2⟩
theorem Mem.sub {L' : List (Nat × TypeId × List Int)} (h : Mem w0 L w) (hs : L'.Sublist L) : Mem w0 L' w :=
  ⟨h.1, fun e he => h.2.1 e (hs.mem he), fun e he => h.2.2.1 e (hs.mem he), h.2.2.2.sublist hs⟩
theorem Mem.perm {L' : List (Nat × TypeId × List Int)} (h : Mem w0 L w) (hp : L'.Perm L) : Mem w0 L' w :=
  ⟨h.1, fun e he => h.2.1 e (hp.mem_iff.1 he), fun e he => h.2.2.1 e (hp.mem_iff.1 he), (hp.pairwise_iff (fun h => Ne.symm h)).2 h.2.2.2⟩
theorem pw_ne {i j : Nat} {a b : Nat × TypeId × List Int} (h : L.Pairwise (fun a b => a.1 ≠ b.1)) (hi : L[i]? = some a) (hj : L[j]? = some b) (hij : i ≠ j) : a.1 ≠ b.1 := by
  obtain ⟨hi1, hi2⟩ := List.getElem?_eq_some_iff.1 hi
  obtain ⟨hj1, hj2⟩ := List.getElem?_eq_some_iff.1 hj
  rw [List.pairwise_iff_getElem] at h
  rcases Nat.lt_or_gt_of_ne hij with k | k
  · have := h i j hi1 hj1 k
    rwa [hi2, hj2] at this
  · have := h j i hj1 hi1 k
    rw [hi2, hj2] at this; exact this.symm
/-- another world in which block g alone holds other ints -/
theorem Mem.turn (h : Mem w0 L w) (i : Nat) (hi : L[i]? = some (g, T, xs)) (ys : List Int) (hb : w.grownBy w' (some g)) (hg : Blk w' g T (icells ys)) : Mem w0 (L.set i (g, T, ys)) w' := by
  obtain ⟨h1, h2, h3, h4⟩ := h
  have hmem : (g, T, xs) ∈ L := List.mem_of_getElem? hi
  have hil := (List.getElem?_eq_some_iff.1 hi).1
  refine ⟨below_grown h1 hb (h3 _ hmem) h1.size, fun e he => ?_, fun e he => ?_, ?_⟩
  · obtain ⟨j, hj⟩ := List.mem_iff_getElem?.1 he
    rw [List.getElem?_set] at hj
    by_cases hij : i = j
    · rw [if_pos hij, if_pos (by omega)] at hj
      injection hj with hj
      subst hj
      exact hg
    · rw [if_neg hij] at hj
      have hm := List.mem_of_getElem? hj
      exact (h2 e hm).only hb (fun k => pw_ne h4 hi hj hij k.symm)
  · rcases List.mem_or_eq_of_mem_set he with he | rfl
    · exact h3 e he
    · show w0.heap.size ≤ g; exact h3 _ hmem
  · rw [List.pairwise_iff_getElem] at h4 ⊢
    intro a b ha hb' hab
    have e1 : ((L.set i (g, T, ys))[a]).1 = (L[a]'(by simpa using ha)).1 := by
      rw [List.getElem_set]
      by_cases k : i = a
      · subst k
        rw [if_pos rfl]
        have := (List.getElem?_eq_some_iff.1 hi).2
        rw [this]
      · rw [if_neg k]
    have e2 : ((L.set i (g, T, ys))[b]).1 = (L[b]'(by simpa using hb')).1 := by
      rw [List.getElem_set]
      by_cases k : i = b
      · subst k
        rw [if_pos rfl]
        have := (List.getElem?_eq_some_iff.1 hi).2
        rw [this]
      · rw [if_neg k]
    rw [e1, e2]
    exact h4 a b _ _ hab
theorem grown_set (w : World) (g j : Nat) (v : Value) : w.grownBy (w.setCell ⟨g, j, none⟩ v) (some g) := only_setCell (only_of_below (Below.refl _ _) _) (.inl rfl) _
theorem grown_row (w : World) (g : Nat) (cs : Array Value) : w.grownBy (w.setRow g cs) (some g) :=
  ⟨rfl, rfl, rfl, by simp, fun i _ hne => setRow_other w g i cs (fun e => hne (by rw [e]))⟩
theorem Mem.put (h : Mem w0 L w) (i : Nat) (hi : L[i]? = some (g, T, xs)) (j : Nat) (v : Int) : Mem w0 (L.set i (g, T, xs.set j v)) (w.setCell ⟨g, j, none⟩ (.int .i64 v)) :=
  h.turn i hi _ (grown_set w g j _) (blk_put (h.get (List.mem_of_getElem? hi)) j v)
theorem Mem.row (h : Mem w0 L w) (i : Nat) (hi : L[i]? = some (g, T, xs)) (ys : List Int) : Mem w0 (L.set i (g, T, ys)) (w.setRow g (icells ys)) :=
  h.turn i hi _ (grown_row w g _) (setRow_heap w g _ _ T _ (h.get (List.mem_of_getElem? hi)))
theorem Mem.rd (h : Mem w0 L w) (hm : (g, T, xs) ∈ L) {n : Nat} (hn : xs.length = n) : RdI w (some ⟨g, 0, none⟩) n xs := RdI.of_blk (h.get hm) hn
theorem Mem.cell (h : Mem w0 L w) (hm : (g, T, xs) ∈ L) {k : Nat} (hk : k < xs.length) : w.cell? ⟨g, k, none⟩ = some (.int .i64 (xs.getD k 0)) := blk_at (h.get hm) hk
theorem Mem.free (h : Mem w0 L w) (hm : (g, T, xs) ∈ L) (k : Nat) : w.frozen? ⟨g, k, none⟩ = false := (h.get hm).frozen k
end
/-- n zeros -/
def zr (n : Nat) : List Int := List.replicate n 0
theorem zr_length (n : Nat) : (zr n).length = n := List.length_replicate
/-- T is a type of n ints, laid one behind the other -/
def Arr (T : TypeId) (n : Nat) : Prop :=
  (∃ d, Tryd.prog.underlying T = some d ∧ d.isRow = true) ∧ (Tryd.prog.info? T).map (fun i => (i.zero, i.size)) = some (some (.agg (icells (zr n))), n)
theorem Arr.size {T : TypeId} {n : Nat} (h : Arr T n) : (Tryd.prog.info? T).map (·.size) = some n := by
  obtain ⟨_, h⟩ := h
  cases hq : Tryd.prog.info? T with
  | none => simp [hq] at h
  | some i => simp [hq] at h; simp [h.2]
theorem Arr.zero {T : TypeId} {n : Nat} (h : Arr T n) (w : World) : (zeroValue T).run Tryd.prog w = .ok (.agg (icells (zr n))) w := by
  obtain ⟨_, h⟩ := h
  cases hq : Tryd.prog.info? T with
  | none => simp [hq] at h
  | some i => simp [hq] at h; simp [zeroValue, typeInfo, hq, h.1]
theorem icells_one (xs : List Int) : (icells xs).all (·.oneCell') = true :=
  Array.all_eq_true_iff_forall_mem.2 (fun v hv => by
    simp only [icells, List.mem_toArray, List.mem_map] at hv
    obtain ⟨x, -, rfl⟩ := hv
    rfl)
theorem arrSpec : Arr 23 16 := ⟨⟨.array 16 3, by kernel_rfl, rfl⟩, by kernel_rfl⟩
section
variable {ops : Array Oper} {rest : List Oper} {o : Oper} {a : Act} {w w0 : World} {Q : Exit → Act → World → Prop} {L : List (Nat × TypeId × List Int)}
theorem wl_step (hgd : Region.wanted o (yielded ops a.tmps) = true) (h : ∀ K : Act → World → Prop, (∀ a w, wpList Tryd.prog ops Q rest a w → K a w) → o.wp Tryd.prog a w K Q) : wpList Tryd.prog ops Q (o :: rest) a w :=
  wpList_step fun K hK => by rw [if_pos hgd]; exact h K hK
theorem wl_alloc (hgd : Region.wanted o (yielded ops a.tmps) = true) (T : TypeId) (ho : o.op = .alloc T) {n : Nat} (ha : Arr T n) (hm : Hid (Mem w0 L w))
    (h : ∀ g w', Hid (Mem w0 ((g, T, zr n) :: L) w') → wpList Tryd.prog ops Q rest (a.put o.dst (.pointer (some ⟨g, 0, none⟩))) w') : wpList Tryd.prog ops Q (o :: rest) a w :=
  wl_step hgd fun K hK => by
    have hz := ha.zero w
    have := hK _ _ (h w.heap.size _ (Lib.hid (hm.out.alloc T (zr n))))
    unfold Oper.wp execOp
    simp only [ho, Instr.alloc, newVar, newRow, Sem.run_bind, hz, Result.andThen, Value.cells, Sem.run_pure]
    exact this
theorem wl_box (hgd : Region.wanted o (yielded ops a.tmps) = true) (T : TypeId) (x : Operand) (ho : o.op = .box T x) {xs : List Int} (hx : a.eval x = .agg (icells xs)) (hm : Hid (Mem w0 L w))
    (h : ∀ g w', Hid (Mem w0 ((g, T, xs) :: L) w') → wpList Tryd.prog ops Q rest (a.put o.dst (.pointer (some ⟨g, 0, none⟩))) w') : wpList Tryd.prog ops Q (o :: rest) a w :=
  wl_step hgd fun K hK => by
    have := hK _ _ (h w.heap.size _ (Lib.hid (hm.out.alloc T xs)))
    unfold Oper.wp execOp
    simp only [ho, Instr.box, newVar, newRow, Sem.run_bind, hx, Result.andThen, Value.cells, Sem.run_pure]
    exact this
theorem run_load_mem {g n : Nat} {T : TypeId} {xs : List Int} (ha : Arr T n) (hm : Mem w0 L w) (hin : (g, T, xs) ∈ L) (hl : xs.length = n) : (loadVar T ⟨g, 0, none⟩).run Tryd.prog w = .ok (.agg (icells xs)) w := by
  obtain ⟨d, h1, h2⟩ := ha.1
  exact run_loadVar_row w g T T (icells xs) (0, 0) d (hm.get hin) h1 (by cases d <;> first | rfl | cases h2) (by rw [ha.size, icells_size, hl])
theorem wl_load (hgd : Region.wanted o (yielded ops a.tmps) = true) (T : TypeId) (x : Operand) (ho : o.op = .load T x) {g n : Nat} (hx : a.eval x = .pointer (some ⟨g, 0, none⟩)) (ha : Arr T n) {xs : List Int} (hm : Hid (Mem w0 L w))
    (hin : (g, T, xs) ∈ L) (hl : Hid (xs.length = n)) (h : wpList Tryd.prog ops Q rest (a.put o.dst (.agg (icells xs))) w) : wpList Tryd.prog ops Q (o :: rest) a w :=
  wl_step hgd fun K hK => by
    have := hK _ _ h
    unfold Oper.wp execOp
    simp only [ho, hx, Instr.loadAt, Instr.sureAddr, Sem.run_bind, Sem.run_pure, Result.andThen_ok, run_load_mem ha hm.out hin hl.out]
    exact this
theorem run_store_mem {g n : Nat} {T : TypeId} {xs ys : List Int} (ha : Arr T n) (hm : Mem w0 L w) (hin : (g, T, xs) ∈ L) (hl : xs.length = n) (hl' : ys.length = n) : (storeVar T ⟨g, 0, none⟩ (.agg (icells ys))).run Tryd.prog w = .ok () (w.setRow g (icells ys)) :=
  run_storeVar_row w g T T (icells xs) (icells ys) (hm.get hin) (by rw [ha.size, icells_size, hl']) (by rw [icells_size, icells_size, hl, hl']) (icells_one ys)
theorem wl_store (hgd : Region.wanted o (yielded ops a.tmps) = true) (T : TypeId) (x y : Operand) (ho : o.op = .store T x y) {g n : Nat} (hx : a.eval x = .pointer (some ⟨g, 0, none⟩)) {ys : List Int} (hy : a.eval y = .agg (icells ys)) (ha : Arr T n) {xs : List Int}
    (hm : Hid (Mem w0 L w)) (i : Nat) (hi : L[i]? = some (g, T, xs)) (hl : Hid (xs.length = n)) (hl' : Hid (ys.length = n))
    (h : ∀ w', Hid (Mem w0 (L.set i (g, T, ys)) w') → wpList Tryd.prog ops Q rest (a.put o.dst undef) w') : wpList Tryd.prog ops Q (o :: rest) a w :=
  wl_step hgd fun K hK => by
    have := hK _ _ (h _ (Lib.hid (hm.out.row i hi ys)))
    unfold Oper.wp execOp
    simp only [ho, hx, hy, Instr.storeAt, Instr.sureAddr, Sem.run_bind, Sem.run_pure, Result.andThen_ok, run_store_mem ha hm.out (List.mem_of_getElem? hi) hl.out hl'.out]
    exact this
end
theorem arn_elem (w : World) : (sizeOf 3).run Tryd.prog w = .ok 1 w := by kernel_rfl
section
variable {ops : Array Oper} {rest : List Oper} {o : Oper} {a : Act} {w w0 : World} {Q : Exit → Act → World → Prop} {L : List (Nat × TypeId × List Int)}
theorem wl_zero (hgd : Region.wanted o (yielded ops a.tmps) = true) (T : TypeId) (ho : o.op = .build T #[]) {n : Nat} (ha : Arr T n) (hu : Tryd.prog.underlying T = some (.array n 3))
    (h : wpList Tryd.prog ops Q rest (a.put o.dst (.agg (icells (zr n)))) w) : wpList Tryd.prog ops Q (o :: rest) a w :=
  wl_step hgd fun K hK => by
    have := hK _ _ h
    unfold Oper.wp execOp
    simp only [ho, Instr.build, Sem.run_bind, ha.zero w, Result.andThen_ok, run_underlying hu w, Value.cells, List.map_toArray, List.map_nil]
    simp only [arn_elem w, Result.andThen_ok, Instr.fill, Sem.run_pure]
    exact this
theorem wl_built (hgd : Region.wanted o (yielded ops a.tmps) = true) (T : TypeId) (parts : Array (Nat × Operand)) (ho : o.op = .build T parts) (xs : List Int)
    (hf : Tryd.prog.built T (parts.map fun (i, x) => (i, a.eval x)).toList = some (icells xs))
    (h : wpList Tryd.prog ops Q rest (a.put o.dst (.agg (icells xs))) w) : wpList Tryd.prog ops Q (o :: rest) a w :=
  wl_step hgd fun K hK => by
    have := hK _ _ h
    refine wp_build T parts ho (by rw [hf]; rfl) ?_
    rw [hf]
    exact this
end
theorem Mem.add {w0 w w' : World} {L : List (Nat × TypeId × List Int)} (h : Mem w0 L w) (hb : Below w.heap.size w w') {r : Nat} {T : TypeId} {xs : List Int} (hr : w.heap.size ≤ r) (hB : Blk w' r T (icells xs)) : Mem w0 ((r, T, xs) :: L) w' := by
  refine ⟨h.1.trans (hb.mono h.1.size), fun e he => ?_, fun e he => ?_, .cons (fun e he => Nat.ne_of_gt (Nat.lt_of_lt_of_le (h.2.1 e he).lt hr)) h.2.2.2⟩
  · rcases List.mem_cons.1 he with rfl | he
    · exact hB
    · exact (h.2.1 e he).below hb (h.2.1 e he).lt
  · rcases List.mem_cons.1 he with rfl | he
    · exact Nat.le_trans h.1.size hr
    · exact h.2.2.1 e he
theorem rd_sub {w : World} {g : Nat} {T : TypeId} {xs : List Int} (h : Blk w g T (icells xs)) (o n : Nat) (hn : (xs.drop o).length = n) : RdI w (some ⟨g, o, none⟩) n (xs.drop o) := by
  refine ⟨hn, fun _ => ⟨_, rfl, fun j x hx => ?_⟩⟩
  rw [Addr.add_mid, h.cell]
  rw [List.getElem?_drop] at hx
  simp [icells, hx]
/-- copy into a block that is known whole -/
theorem run_copy_mem {w : World} {g : Nat} {T : TypeId} {zs xs : List Int} (hg : Blk w g T (icells zs)) (o dLen dCap : Nat) {ad : Addr} {n : Nat} (sCap : Nat) (hr : RdI w (some ad) n xs) (hn : n = Nat.min n dLen) (hfit : o + n ≤ zs.length) (ys : List Int)
    (hys : zs.take o ++ xs ++ zs.drop (o + n) = ys) :
    (Builtin.copy_ #[64, 64] 3 #[.slice (some ⟨g, o, none⟩) dLen dCap, .slice (some ad) n sCap]).run Tryd.prog w = .ok (goInt n) (w.setRow g (icells ys)) := by
  have hl := hr.1
  have := run_copy_row (P := Tryd.prog) w 64 64 3 3 g o dLen dCap ad n sCap (icells zs) T (xs.map fun x => Value.int .i64 x) Tryd.underlying64 (by kernel_rfl) hg (by rw [List.length_map, hl]; exact hn)
    (fun j v hv => by
      rw [List.getElem?_map] at hv
      cases hx : xs[j]? with
      | none => rw [hx] at hv; cases hv
      | some x =>
        rw [hx] at hv
        injection hv with hv
        subst hv
        by_cases h0 : 0 < n
        · obtain ⟨ad', e, hc⟩ := hr.2 h0
          injection e with e
          subst e
          exact hc j x hx
        · have := (List.getElem?_eq_some_iff.1 hx).1; omega)
    (by rw [icells_size, List.length_map, hl]; exact hfit)
    (fun v hv => by
      rw [List.mem_map] at hv
      obtain ⟨x, -, rfl⟩ := hv
      rfl)
  rw [this, List.length_map, hl]
  congr 2
  rw [← hys]
  simp [icells, List.map_take, List.map_drop]
/-- an element of an array that is a value -/
theorem run_index (T : TypeId) {n : Nat} (hT : Tryd.prog.underlying T = some (.array n 3)) (xs : List Int) (hl : xs.length = n) (k : Nat) (hk : k < n) (w : World) :
    (Instr.index T (.agg (icells xs)) (.int .i64 (k : Int))).run Tryd.prog w = .ok (.int .i64 (xs.getD k 0)) w := by
  have hs : (sizeOf 3).run Tryd.prog w = .ok 1 w := by kernel_rfl
  have ha : (isAgg 3).run Tryd.prog w = .ok false w := by kernel_rfl
  have hc : (icells xs)[k]? = some (.int .i64 (xs.getD k 0)) := icells_get (by omega)
  simp only [Instr.index, asIntOf, Sem.run_bind, Sem.run_pure, Result.andThen_ok, run_underlying hT w]
  rw [if_pos ⟨by omega, by omega⟩]
  simp [Sem.run_bind, hs, part, ha, Result.andThen, hc]
/-- two arrays that are values, compared -/
theorem getD_ext {xs ys : List Int} (h : xs.length = ys.length) (hk : ∀ k, k < xs.length → xs.getD k 0 = ys.getD k 0) : xs = ys := by
  refine List.ext_getElem h fun k h1 h2 => ?_
  have := hk k h1
  simpa [List.getD_eq_getElem?_getD, h1, h2] using this
theorem res_one {fn : Func} {p : Tmp} {ty : TypeId} (h : fn.results = #[.cell p ty]) (tmps : Array Value) {w w0 : World} {L : List (Nat × TypeId × List Int)} {g n : Nat} {xs : List Int}
    (hp : tmps.getD p undef = .pointer (some ⟨g, 0, none⟩)) (ha : Arr ty n) (hm : Hid (Mem w0 L w)) (hin : (g, ty, xs) ∈ L) (hl : Hid (xs.length = n)) : (results fn tmps).run Tryd.prog w = .ok (.agg (icells xs)) w := by
  obtain ⟨d, h1, h2⟩ := ha.1
  exact results_cell_row h tmps w g ty (icells xs) (0, 0) d hp (hm.out.get hin) h1 (by cases d <;> first | rfl | cases h2) (by rw [ha.size, icells_size, hl.out])
theorem res_two {fn : Func} {p u : Tmp} {ty : TypeId} (h : fn.results = #[.cell p ty, .tmp u]) (tmps : Array Value) {w w0 : World} {L : List (Nat × TypeId × List Int)} {g n : Nat} {xs : List Int} {v : Value}
    (hp : tmps.getD p undef = .pointer (some ⟨g, 0, none⟩)) (hv : tmps.getD u undef = v) (ha : Arr ty n) (hm : Hid (Mem w0 L w)) (hin : (g, ty, xs) ∈ L) (hl : Hid (xs.length = n)) :
    (results fn tmps).run Tryd.prog w = .ok (.tuple #[.agg (icells xs), v]) w := by
  rw [results_cell_tmp h, hp, hv]
  simp only [asAddr, Sem.run_pure, Result.andThen_ok, run_load_mem ha hm.out hin hl.out]
theorem res_three {fn : Func} {p q u : Tmp} {ty tz : TypeId} (h : fn.results = #[.cell p ty, .cell q tz, .tmp u]) (tmps : Array Value) {w w0 : World} {L : List (Nat × TypeId × List Int)} {g k n m : Nat} {xs ys : List Int} {v : Value}
    (hp : tmps.getD p undef = .pointer (some ⟨g, 0, none⟩)) (hq : tmps.getD q undef = .pointer (some ⟨k, 0, none⟩)) (hv : tmps.getD u undef = v) (ha : Arr ty n) (hb : Arr tz m) (hm : Hid (Mem w0 L w))
    (hin : (g, ty, xs) ∈ L) (hin' : (k, tz, ys) ∈ L) (hl : Hid (xs.length = n)) (hl' : Hid (ys.length = m)) :
    (results fn tmps).run Tryd.prog w = .ok (.tuple #[.agg (icells xs), .agg (icells ys), v]) w := by
  have hp' : tmps[p]?.getD undef = .pointer (some ⟨g, 0, none⟩) := by simpa using hp
  have hq' : tmps[q]?.getD undef = .pointer (some ⟨k, 0, none⟩) := by simpa using hq
  have hv' : tmps[u]?.getD undef = v := by simpa using hv
  simp [results, h, hp', hq', hv', asAddr, Sem.run_bind, Result.andThen, run_load_mem ha hm.out hin hl.out, run_load_mem hb hm.out hin' hl'.out]
end Go.Proofs.YtplfcncibmgllaaDoor.Lp
