/-
  Own texts, laid together: Wg.
-/
import Derived.Test.YtplfcncibmgllaaDoorWf
import Derived.Deep.LoopGhost
import Derived.Deep.Cut
/- Wg -/
namespace Go.Proofs.YtplfcncibmgllaaDoor.Lp
open Go.RowKit Go.Shelf Go.Proofs.YtplfcncibmgllaaDoor.Fx Go.Proofs.YtplfcncibmgllaaDoor.Fq Go.Proofs.YtplfcncibmgllaaDoor.Tb
attribute [local go_sem] Oper.semAt_some
section
variable {ops : Array Oper} {rest : List Oper} {o : Oper} {a : Act} {w w0 : World} {Q : Exit → Act → World → Prop} {L : List (Nat × TypeId × List Int)}
theorem wl_box1 (hgd : Region.wanted o (yielded ops a.tmps) = true) (x : Operand) (ho : o.op = .box 3 x) {v : Int} (hx : a.eval x = .int .i64 v) (hm : Hid (Mem w0 L w))
    (h : ∀ g w', Hid (Mem w0 ((g, 3, [v]) :: L) w') → wpList Tryd.prog ops Q rest (a.put o.dst (.pointer (some ⟨g, 0, none⟩))) w') : wpList Tryd.prog ops Q (o :: rest) a w :=
  wl_step hgd fun K hK => by
    have := hK _ _ (h w.heap.size _ (Lib.hid (hm.out.alloc 3 [v])))
    unfold Oper.wp execOp
    simp only [ho, Instr.box, newVar, newRow, Sem.run_bind, hx, Result.andThen, Value.cells, Sem.run_pure]
    exact this
theorem wl_alloc1 (hgd : Region.wanted o (yielded ops a.tmps) = true) (ho : o.op = .alloc 3) (hm : Hid (Mem w0 L w))
    (h : ∀ g w', Hid (Mem w0 ((g, 3, [0]) :: L) w') → wpList Tryd.prog ops Q rest (a.put o.dst (.pointer (some ⟨g, 0, none⟩))) w') : wpList Tryd.prog ops Q (o :: rest) a w :=
  wl_step hgd fun K hK => by
    have hz : (zeroValue 3).run Tryd.prog w = .ok (.int .i64 0) w := by kernel_rfl
    have := hK _ _ (h w.heap.size _ (Lib.hid (hm.out.alloc 3 [0])))
    unfold Oper.wp execOp
    simp only [ho, Instr.alloc, newVar, newRow, Sem.run_bind, hz, Result.andThen, Value.cells, Sem.run_pure]
    exact this
theorem Mem.one (h : Mem w0 L w) {g : Nat} {v : Int} (hm : (g, 3, [v]) ∈ L) : w.cell? ⟨g, 0, none⟩ = some (.int .i64 v) := h.cell hm (k := 0) (by simp)
theorem Mem.put1 (h : Mem w0 L w) (i : Nat) {g : Nat} {x : Int} (hi : L[i]? = some (g, 3, [x])) (v : Int) : Mem w0 (L.set i (g, 3, [v])) (w.setCell ⟨g, 0, none⟩ (.int .i64 v)) := h.put i hi 0 v
theorem Mem.grows {row : Option Nat} {u' : World} {B : Nat} (h : Mem w0 L w) (hB : w0.heap.size ≤ B) (hg : w.grownBy u' row) (hr : ∀ r, row = some r → B ≤ r ∧ ∃ o : Obj, w.heap[r]? = some o ∧ o.isCells = false) : Mem w0 L u' := by
  have hne : ∀ i, (∃ T cs, Blk w i T cs) → some i ≠ row := fun i ⟨T, cs, hb⟩ e => by
    obtain ⟨-, o, ho, hc⟩ := hr i e.symm
    have hb' : w.heap[i]? = some (.cells cs T (0, 0)) := hb
    rw [hb'] at ho
    injection ho with ho
    subst ho
    cases hc
  have hbl : Below w0.heap.size w0 u' := by
    refine ⟨hg.os.trans h.1.os, hg.tape.trans h.1.tape, hg.output.trans h.1.output, Nat.le_trans h.1.size hg.size, fun i hi => (hg.block i (Nat.lt_of_lt_of_le hi h.1.size) (fun e => ?_)).trans (h.1.block i hi)⟩
    have := (hr i e.symm).1
    omega
  exact ⟨hbl, fun e he => (hg.block e.1 (h.2.1 e he).lt (hne e.1 ⟨_, _, h.2.1 e he⟩)).trans (h.2.1 e he), h.2.2.1, h.2.2.2⟩
end
theorem KeepsOthers.below {W W' : World} (h : Below W.heap.size W W') : KeepsOthers W W' := ⟨h.size, fun k _ hk _ => (h.block k (Array.getElem?_eq_some_iff.1 hk).1).trans hk⟩
section
variable {ops : Array Oper} {rest : List Oper} {o : Oper} {a : Act} {w w0 : World} {Q : Exit → Act → World → Prop} {L : List (Nat × TypeId × List Int)}
theorem KeepsOthers.row {g : Nat} {T : TypeId} {cs ds : Array Value} (h : Blk w g T cs) : KeepsOthers w (w.setRow g ds) :=
  KeepsOthers.of_grownBy (grown_row w g ds) fun j o e ho => by
    injection e with e
    subst e
    have h' : w.heap[g]? = some (.cells cs T (0, 0)) := h
    rw [h'] at ho
    injection ho with ho
    rw [← ho]; rfl
theorem wl_storeK (hgd : Region.wanted o (yielded ops a.tmps) = true) (T : TypeId) (x y : Operand) (ho : o.op = .store T x y) {g n : Nat} (hx : a.eval x = .pointer (some ⟨g, 0, none⟩)) {ys : List Int} (hy : a.eval y = .agg (icells ys)) (ha : Arr T n) {xs : List Int}
    (hm : Hid (Mem w0 L w)) (i : Nat) (hi : L[i]? = some (g, T, xs)) (hl : Hid (xs.length = n)) (hl' : Hid (ys.length = n))
    (h : ∀ w', Hid (Mem w0 (L.set i (g, T, ys)) w') → KeepsOthers w w' → wpList Tryd.prog ops Q rest (a.put o.dst undef) w') : wpList Tryd.prog ops Q (o :: rest) a w :=
  wl_step hgd fun K hK => by
    have := hK _ _ (h _ (Lib.hid (hm.out.row i hi ys)) (KeepsOthers.row (hm.out.get (List.mem_of_getElem? hi))))
    unfold Oper.wp execOp
    simp only [ho, hx, hy, Instr.storeAt, Instr.sureAddr, Sem.run_bind, Sem.run_pure, Result.andThen_ok, run_store_mem ha hm.out (List.mem_of_getElem? hi) hl.out hl'.out]
    exact this
theorem wl_alloc1K (hgd : Region.wanted o (yielded ops a.tmps) = true) (ho : o.op = .alloc 3) (hm : Hid (Mem w0 L w))
    (h : ∀ g w', Hid (Mem w0 ((g, 3, [0]) :: L) w') → KeepsOthers w w' → wpList Tryd.prog ops Q rest (a.put o.dst (.pointer (some ⟨g, 0, none⟩))) w') : wpList Tryd.prog ops Q (o :: rest) a w :=
  wl_step hgd fun K hK => by
    have hz : (zeroValue 3).run Tryd.prog w = .ok (.int .i64 0) w := by kernel_rfl
    have := hK _ _ (h w.heap.size _ (Lib.hid (hm.out.alloc 3 [0])) (KeepsOthers.alloc _ _))
    unfold Oper.wp execOp
    simp only [ho, Instr.alloc, newVar, newRow, Sem.run_bind, hz, Result.andThen, Value.cells, Sem.run_pure]
    exact this
end
def mark (D : Nat) : Deferred := { target := .collected D, args := #[] }
/-- the marks of loops that are over -/
def Marks (B : Nat) (Ds : List Nat) (W : World) : Prop := Ds.Nodup ∧ ∀ D ∈ Ds, B ≤ D ∧ W.heap[D]? = some (.deferred (some []))
theorem Marks.keeps {B : Nat} {Ds : List Nat} {W W' : World} (h : Marks B Ds W) (hk : KeepsOthers W W') : Marks B Ds W' := ⟨h.1, fun D hD => ⟨(h.2 D hD).1, hk.same D _ (h.2 D hD).2 rfl⟩⟩
theorem Marks.lt {B : Nat} {Ds : List Nat} {W : World} (h : Marks B Ds W) {D : Nat} (hD : D ∈ Ds) : D < W.heap.size := (Array.getElem?_eq_some_iff.1 (h.2 D hD).2).1
theorem Marks.cons {B : Nat} {Ds : List Nat} {W : World} (h : Marks B Ds W) {D : Nat} (hlt : ∀ E ∈ Ds, E < D) (hB : B ≤ D) (hD : W.heap[D]? = some (.deferred (some []))) : Marks B (D :: Ds) W :=
  ⟨List.nodup_cons.2 ⟨fun hm => Nat.lt_irrefl _ (hlt D hm), h.1⟩, fun E hE => by
    rcases List.mem_cons.1 hE with rfl | hE
    · exact ⟨hB, hD⟩
    · exact h.2 E hE⟩
theorem Marks.grows {A B : Nat} {Ds : List Nat} {W W' : World} {row : Option Nat} (h : Marks A Ds W) (hlt : ∀ D ∈ Ds, D < B) (hg : W.grownBy W' row) (hr : ∀ r, row = some r → B ≤ r ∧ ∃ o : Obj, W.heap[r]? = some o ∧ o.isCells = false) : Marks A Ds W' :=
  ⟨h.1, fun D hD => ⟨(h.2 D hD).1, (hg.block D (h.lt hD) (fun e => by have := (hr D e.symm).1; have := hlt D hD; omega)).trans (h.2 D hD).2⟩⟩
/-- the world behind the marks' shutting -/
structure Shut (Ds : List Nat) (W W' : World) : Prop where
  os : W'.os = W.os
  tape : W'.tape = W.tape
  output : W'.output = W.output
  size : W'.heap.size = W.heap.size
  same : ∀ i, i ∉ Ds → W'.heap[i]? = W.heap[i]?
theorem Shut.mem {w0 W W' : World} {L : List (Nat × TypeId × List Int)} {Ds : List Nat} (h : Mem w0 L W) (hM : Marks w0.heap.size Ds W) (hs : Shut Ds W W') : Mem w0 L W' := by
  refine ⟨⟨hs.os.trans h.1.os, hs.tape.trans h.1.tape, hs.output.trans h.1.output, by rw [hs.size]; exact h.1.size, fun i hi => (hs.same i (fun hm => by have := (hM.2 i hm).1; omega)).trans (h.1.block i hi)⟩, fun e he => (hs.same e.1 (fun hm => ?_)).trans (h.2.1 e he), h.2.2⟩
  have h1 := (hM.2 _ hm).2
  have h2 : W.heap[e.1]? = some (.cells (icells e.2.2) e.2.1 (0, 0)) := h.2.1 e he
  rw [h2] at h1
  injection h1 with h1
  cases h1
theorem leaves_marks {F : Fence} {n : Nat} {P : Program} {fn : Func} {tmps : Array Value} {R : Ending → World → Prop} : ∀ (Ds : List Nat) (W : World), Ds.Nodup → (∀ D ∈ Ds, W.heap[D]? = some (.deferred (some []))) →
    (∀ W', Shut Ds W W' → ∃ v, (results fn tmps).run P W' = .ok v W' ∧ R (.returned v) W') → LeavesInM F n P fn tmps R (Ds.map mark) .returning W
  | [], W, _, _, h => h W ⟨rfl, rfl, rfl, rfl, fun _ _ => rfl⟩
  | D :: Ds, W, hn, hd, h => by
    have hn2 := List.nodup_cons.1 hn
    refine ⟨by simp, .inl ⟨D, W.putObj D (.deferred none), rfl, run_takeDeferred (hd D (.head _)), leaves_marks Ds _ hn2.2 (fun E hE => ?_) fun W' hs => h W' ?_⟩⟩
    · exact (World.putObj_heap_other (fun e => hn2.1 (by rw [← e]; exact hE))).trans (hd E (.tail _ hE))
    · have hg := grownBy_putObj' W D (.deferred none)
      refine ⟨hs.os.trans hg.os, hs.tape.trans hg.tape, hs.output.trans hg.output, by rw [hs.size]; simp, fun i hi => ?_⟩
      have h1 : i ∉ Ds := fun hm => hi (.tail _ hm)
      have h2 : i ≠ D := fun e => hi (by rw [e]; exact .head _)
      exact (hs.same i h1).trans (World.putObj_heap_other h2)
theorem std_snoc {pre : List (Fin 6)} {x : Fin 6} {k : Nat} (h : pre ++ [x] = std k) : ∃ j, k = j + 1 ∧ pre = std j ∧ x.val = 5 - j := by
  cases k with
  | zero => exact absurd (congrArg List.length h) (by rw [List.length_append, std_length]; simp)
  | succ j =>
    rw [std_succ] at h
    obtain ⟨h1, h2⟩ := List.append_inj' h rfl
    refine ⟨j, rfl, h1, ?_⟩
    injection h2 with h2
    rw [h2]
/-- what holds of the memory between two rounds -/
def FitM (w : World) (B : Int) (g1 g2 g3 gw n : Nat) (cur : List Int) (W : World) : Prop := Mem w [(gw, 3, [(n : Int)]), (g3, 31, zr 6), (g2, 3, [B]), (g1, 31, cur)] W
def FitI (w : World) (B : Int) (R : List Int) (g1 g2 g3 gw n : Nat) (Ds : List Nat) (W : World) : Prop :=
  ∃ cur, OkA cur ∧ narL 42 cur B = R ∧ (∀ b, b < 6 → cur.getD b 0 ≤ (n : Int)) ∧ n ≤ 7 ∧ FitM w B g1 g2 g3 gw n cur W ∧ Marks w.heap.size Ds W
def FitJ (w : World) (B : Int) (R : List Int) (g1 g2 g3 gw n : Nat) (Ds : List Nat) (pre : List (Fin 6)) (W : World) : Prop :=
  ∃ cur, OkA cur ∧ FitM w B g1 g2 g3 gw n cur W ∧ Marks w.heap.size Ds W ∧
    ∀ k, k ≤ 6 → pre = std k → narL 42 cur B = R ∧ ∀ b, b < 6 → cur.getD b 0 ≤ (n : Int) ∧ (6 ≤ b + k → cur.getD b 0 < (n : Int))
def FitX (w : World) (B : Int) (R : List Int) (g1 g2 g3 gw n : Nat) (Ds : List Nat) (c : Code) (pre : List (Fin 6)) (W : World) : Prop :=
  c = .exit 0 ∧ ∃ cur, OkA cur ∧ FitM w B g1 g2 g3 gw n cur W ∧ Marks w.heap.size Ds W ∧ ∀ k, k ≤ 6 → pre = std k → cur = R
section
variable {w : World} {B : Int} {R : List Int} {g1 g2 g3 gw n A : Nat} {Ds : List Nat}
theorem fitJ_own (hA : w.heap.size ≤ A) (hD : ∀ D ∈ Ds, D < A) : OwnFrom A (FitJ w B R g1 g2 g3 gw n Ds) := fun s W W' row h hg hr => by
  obtain ⟨cur, h1, h2, h3, h4⟩ := h
  exact ⟨cur, h1, Mem.grows h2 hA hg hr, h3.grows hD hg hr, h4⟩
theorem fitX_own (hA : w.heap.size ≤ A) (hD : ∀ D ∈ Ds, D < A) (c : Code) : OwnFrom A (FitX w B R g1 g2 g3 gw n Ds c) := fun s W W' row h hg hr => by
  obtain ⟨hc, cur, h1, h2, h3, h4⟩ := h
  exact ⟨hc, cur, h1, Mem.grows h2 hA hg hr, h3.grows hD hg hr, h4⟩
end
/-- a round that takes one away -/
theorem fit_take {B : Int} {R cur : List Int} {n j : Nat} (hB : 0 ≤ B) (hok : OkA cur) (hj : j < 6) (hinv : narL 42 cur B = R ∧ ∀ b, b < 6 → cur.getD b 0 ≤ (n : Int) ∧ (6 ≤ b + j → cur.getD b 0 < (n : Int)))
    (hc : ¬ costL cur ≤ B) (hv : cur.getD (5 - j) 0 = (n : Int)) : narL 42 (cur.set (5 - j) ((n : Int) - 1)) B = R ∧ ∀ b, b < 6 → (cur.set (5 - j) ((n : Int) - 1)).getD b 0 ≤ (n : Int) ∧ (6 ≤ b + (j + 1) → (cur.set (5 - j) ((n : Int) - 1)).getD b 0 < (n : Int)) := by
  have hl : lastM cur 6 = 5 - j := lastM_is (by omega) (fun b hb => by rw [hv]; exact (hinv.2 b hb).1) fun b hb hlt => by rw [hv]; exact (hinv.2 b hb).2 (by omega)
  have hs : stpL cur = cur.set (5 - j) ((n : Int) - 1) := by unfold stpL; rw [hl, hv]
  refine ⟨by rw [← hs, ← (nar_step hB hok hc).1]; exact hinv.1, fun b hb => ?_⟩
  rw [getD_set' _ _ _ _ (by rw [hok.1]; omega)]
  by_cases e : 5 - j = b
  · rw [if_pos e]; omega
  · rw [if_neg e]
    exact ⟨(hinv.2 b hb).1, fun h => (hinv.2 b hb).2 (by omega)⟩
theorem fit_pass {B : Int} {R cur : List Int} {n j : Nat} (hj : j < 6) (hinv : narL 42 cur B = R ∧ ∀ b, b < 6 → cur.getD b 0 ≤ (n : Int) ∧ (6 ≤ b + j → cur.getD b 0 < (n : Int)))
    (hv : ¬ cur.getD (5 - j) 0 = (n : Int)) : narL 42 cur B = R ∧ ∀ b, b < 6 → cur.getD b 0 ≤ (n : Int) ∧ (6 ≤ b + (j + 1) → cur.getD b 0 < (n : Int)) :=
  ⟨hinv.1, fun b hb => ⟨(hinv.2 b hb).1, fun h => by
    by_cases e : b = 5 - j
    · have := (hinv.2 b hb).1
      rw [e] at this ⊢
      omega
    · exact (hinv.2 b hb).2 (by omega)⟩⟩
theorem ok_set {cur : List Int} (h : OkA cur) {b : Nat} {v : Int} (hb : b < 6) (h1 : 0 ≤ v) (h2 : v ≤ 7) : OkA (cur.set b v) :=
  ⟨by rw [List.length_set, h.1], fun k hk => by
    rw [getD_set' _ _ _ _ (by rw [h.1]; exact hb)]
    have := h.2 k hk
    split <;> omega⟩
set_option maxRecDepth 100000 in
set_option maxHeartbeats 8000000 in
theorem fit_any (a : List Int) (B : Int) (w : World) (ha : OkA a) (hB : 0 ≤ B) (he : Edg w) :
    Calls Tryd.prog 28 #[.agg (icells a), .int .i64 B] w (ValQ w (.agg (icells (narL 42 a B)))) := by
  have HA := Lib.hid ha
  have LA := Lib.hid ha.1
  have HE := Lib.hid he
  have HM := Lib.hid (Mem.start w)
  obtain ⟨R, hR0⟩ : ∃ R, narL 42 a B = R := ⟨_, rfl⟩
  rw [hR0]
  have HR := Lib.hid hR0
  have LR := Lib.hid (show R.length = 6 by rw [← hR0]; exact (nar_ok hB 42 a ha (sumA_le ha)).1.1)
  have HB := Lib.hid hB
  clear ha he hR0 hB
  refine (callsIn_wide (n := 3)).1 (callsIn_of_wp_marks Tryd.func28 rfl trivial ?_ rfl)
  refine wpIn_wide.2 ?_
  simp only [Tryd.ntmps28, List.size_toArray, List.length_cons, List.length_nil, Nat.reduceAdd, Nat.reduceSub, Array.replicate_succ, Array.replicate_zero, List.push_toArray, List.append_toArray, List.nil_append, List.cons_append]
  go_wp2_with (first | (first | (first | (have hq : Hid (Mem _ [] _) := HM; clear hq; (first | refine wl_box rfl _ _ rfl rfl HM ?_ | refine wl_alloc rfl _ rfl (by first | exact arrSpec | exact arrLev | exact arrAll) HM ?_); clear HM; intro g1 u1 HM) | (have hq : Hid (Mem _ [_] _) := HM; clear hq; (first | refine wl_box rfl _ _ rfl rfl HM ?_ | refine wl_alloc rfl _ rfl (by first | exact arrSpec | exact arrLev | exact arrAll) HM ?_); clear HM; intro g2 u2 HM) | (have hq : Hid (Mem _ [_, _] _) := HM; clear hq; (first | refine wl_box rfl _ _ rfl rfl HM ?_ | refine wl_alloc rfl _ rfl (by first | exact arrSpec | exact arrLev | exact arrAll) HM ?_); clear HM; intro g3 u3 HM) | (have hq : Hid (Mem _ [_, _, _] _) := HM; clear hq; (first | refine wl_box rfl _ _ rfl rfl HM ?_ | refine wl_alloc rfl _ rfl (by first | exact arrSpec | exact arrLev | exact arrAll) HM ?_); clear HM; intro g4 u4 HM) | (have hq : Hid (Mem _ [_, _, _, _] _) := HM; clear hq; (first | refine wl_box rfl _ _ rfl rfl HM ?_ | refine wl_alloc rfl _ rfl (by first | exact arrSpec | exact arrLev | exact arrAll) HM ?_); clear HM; intro g5 u5 HM) | (have hq : Hid (Mem _ [_, _, _, _, _] _) := HM; clear hq; (first | refine wl_box rfl _ _ rfl rfl HM ?_ | refine wl_alloc rfl _ rfl (by first | exact arrSpec | exact arrLev | exact arrAll) HM ?_); clear HM; intro g6 u6 HM) | (have hq : Hid (Mem _ [_, _, _, _, _, _] _) := HM; clear hq; (first | refine wl_box rfl _ _ rfl rfl HM ?_ | refine wl_alloc rfl _ rfl (by first | exact arrSpec | exact arrLev | exact arrAll) HM ?_); clear HM; intro g7 u7 HM) | (have hq : Hid (Mem _ [_, _, _, _, _, _, _] _) := HM; clear hq; (first | refine wl_box rfl _ _ rfl rfl HM ?_ | refine wl_alloc rfl _ rfl (by first | exact arrSpec | exact arrLev | exact arrAll) HM ?_); clear HM; intro g8 u8 HM) | (have hq : Hid (Mem _ [_, _, _, _, _, _, _, _] _) := HM; clear hq; (first | refine wl_box rfl _ _ rfl rfl HM ?_ | refine wl_alloc rfl _ rfl (by first | exact arrSpec | exact arrLev | exact arrAll) HM ?_); clear HM; intro g9 u9 HM) | (have hq : Hid (Mem _ [_, _, _, _, _, _, _, _, _] _) := HM; clear hq; (first | refine wl_box rfl _ _ rfl rfl HM ?_ | refine wl_alloc rfl _ rfl (by first | exact arrSpec | exact arrLev | exact arrAll) HM ?_); clear HM; intro g10 u10 HM) | (have hq : Hid (Mem _ [_, _, _, _, _, _, _, _, _, _] _) := HM; clear hq; (first | refine wl_box rfl _ _ rfl rfl HM ?_ | refine wl_alloc rfl _ rfl (by first | exact arrSpec | exact arrLev | exact arrAll) HM ?_); clear HM; intro g11 u11 HM) | (have hq : Hid (Mem _ [_, _, _, _, _, _, _, _, _, _, _] _) := HM; clear hq; (first | refine wl_box rfl _ _ rfl rfl HM ?_ | refine wl_alloc rfl _ rfl (by first | exact arrSpec | exact arrLev | exact arrAll) HM ?_); clear HM; intro g12 u12 HM)) | (refine wl_load rfl _ _ rfl rfl (by first | exact arrSpec | exact arrLev | exact arrAll) HM (by first | exact .head _ | exact .tail _ (.head _) | exact .tail _ (.tail _ (.head _)) | exact .tail _ (.tail _ (.tail _ (.head _))) | exact .tail _ (.tail _ (.tail _ (.tail _ (.head _)))) | exact .tail _ (.tail _ (.tail _ (.tail _ (.tail _ (.head _))))) | exact .tail _ (.tail _ (.tail _ (.tail _ (.tail _ (.tail _ (.head _)))))) | exact .tail _ (.tail _ (.tail _ (.tail _ (.tail _ (.tail _ (.tail _ (.head _))))))) | exact .tail _ (.tail _ (.tail _ (.tail _ (.tail _ (.tail _ (.tail _ (.tail _ (.head _)))))))) | exact .tail _ (.tail _ (.tail _ (.tail _ (.tail _ (.tail _ (.tail _ (.tail _ (.tail _ (.head _))))))))) | exact .tail _ (.tail _ (.tail _ (.tail _ (.tail _ (.tail _ (.tail _ (.tail _ (.tail _ (.tail _ (.head _)))))))))) | exact .tail _ (.tail _ (.tail _ (.tail _ (.tail _ (.tail _ (.tail _ (.tail _ (.tail _ (.tail _ (.tail _ (.head _)))))))))))) (by first | (with_reducible assumption) | (with_reducible exact Lib.hid (zr_length _)) | (with_reducible exact Lib.hid (tab_length _ _))) ?_) | (first | (refine wl_store rfl _ _ _ rfl rfl rfl (by first | exact arrSpec | exact arrLev | exact arrAll) HM 0 rfl (by first | (with_reducible assumption) | (with_reducible exact Lib.hid (zr_length _)) | (with_reducible exact Lib.hid (tab_length _ _))) (by first | (with_reducible assumption) | (with_reducible exact Lib.hid (zr_length _)) | (with_reducible exact Lib.hid (tab_length _ _))) ?_; clear HM; intro us HM; simp only [List.set_cons_zero] at HM) | (refine wl_store rfl _ _ _ rfl rfl rfl (by first | exact arrSpec | exact arrLev | exact arrAll) HM 1 rfl (by first | (with_reducible assumption) | (with_reducible exact Lib.hid (zr_length _)) | (with_reducible exact Lib.hid (tab_length _ _))) (by first | (with_reducible assumption) | (with_reducible exact Lib.hid (zr_length _)) | (with_reducible exact Lib.hid (tab_length _ _))) ?_; clear HM; intro us HM; simp only [List.set_cons_zero, List.set_cons_succ] at HM) | (refine wl_store rfl _ _ _ rfl rfl rfl (by first | exact arrSpec | exact arrLev | exact arrAll) HM 2 rfl (by first | (with_reducible assumption) | (with_reducible exact Lib.hid (zr_length _)) | (with_reducible exact Lib.hid (tab_length _ _))) (by first | (with_reducible assumption) | (with_reducible exact Lib.hid (zr_length _)) | (with_reducible exact Lib.hid (tab_length _ _))) ?_; clear HM; intro us HM; simp only [List.set_cons_zero, List.set_cons_succ] at HM) | (refine wl_store rfl _ _ _ rfl rfl rfl (by first | exact arrSpec | exact arrLev | exact arrAll) HM 3 rfl (by first | (with_reducible assumption) | (with_reducible exact Lib.hid (zr_length _)) | (with_reducible exact Lib.hid (tab_length _ _))) (by first | (with_reducible assumption) | (with_reducible exact Lib.hid (zr_length _)) | (with_reducible exact Lib.hid (tab_length _ _))) ?_; clear HM; intro us HM; simp only [List.set_cons_zero, List.set_cons_succ] at HM) | (refine wl_store rfl _ _ _ rfl rfl rfl (by first | exact arrSpec | exact arrLev | exact arrAll) HM 4 rfl (by first | (with_reducible assumption) | (with_reducible exact Lib.hid (zr_length _)) | (with_reducible exact Lib.hid (tab_length _ _))) (by first | (with_reducible assumption) | (with_reducible exact Lib.hid (zr_length _)) | (with_reducible exact Lib.hid (tab_length _ _))) ?_; clear HM; intro us HM; simp only [List.set_cons_zero, List.set_cons_succ] at HM) | (refine wl_store rfl _ _ _ rfl rfl rfl (by first | exact arrSpec | exact arrLev | exact arrAll) HM 5 rfl (by first | (with_reducible assumption) | (with_reducible exact Lib.hid (zr_length _)) | (with_reducible exact Lib.hid (tab_length _ _))) (by first | (with_reducible assumption) | (with_reducible exact Lib.hid (zr_length _)) | (with_reducible exact Lib.hid (tab_length _ _))) ?_; clear HM; intro us HM; simp only [List.set_cons_zero, List.set_cons_succ] at HM) | (refine wl_store rfl _ _ _ rfl rfl rfl (by first | exact arrSpec | exact arrLev | exact arrAll) HM 6 rfl (by first | (with_reducible assumption) | (with_reducible exact Lib.hid (zr_length _)) | (with_reducible exact Lib.hid (tab_length _ _))) (by first | (with_reducible assumption) | (with_reducible exact Lib.hid (zr_length _)) | (with_reducible exact Lib.hid (tab_length _ _))) ?_; clear HM; intro us HM; simp only [List.set_cons_zero, List.set_cons_succ] at HM) | (refine wl_store rfl _ _ _ rfl rfl rfl (by first | exact arrSpec | exact arrLev | exact arrAll) HM 7 rfl (by first | (with_reducible assumption) | (with_reducible exact Lib.hid (zr_length _)) | (with_reducible exact Lib.hid (tab_length _ _))) (by first | (with_reducible assumption) | (with_reducible exact Lib.hid (zr_length _)) | (with_reducible exact Lib.hid (tab_length _ _))) ?_; clear HM; intro us HM; simp only [List.set_cons_zero, List.set_cons_succ] at HM)) | (refine wl_zero rfl _ rfl (by first | exact arrSpec | exact arrLev | exact arrAll) (by kernel_rfl) ?_)) | (refine wl_box1 rfl _ rfl rfl HM ?_; clear HM; intro g2 u2 HM))
  go_step3
  go_wp2
  go_step3
  go_wp2_with (first | (refine wl_alloc1 rfl rfl HM ?_; clear HM; intro g4 u4 HM; have c4 := HM.out.one (.head _); have f4 := HM.out.free (.head _) 0))
  have HI := Lib.hid (show FitI w B R g1 g2 g3 g4 7 [] (u4.setCell ⟨g4, 0, none⟩ (.int .i64 7)) from ⟨a, HA.out, HR.out, fun b hb => (HA.out.2 b hb).2, by omega, HM.out.put1 0 rfl 7, ⟨List.nodup_nil, fun D hD => (by cases hD)⟩⟩)
  clear HM c4 f4 HA LA HR
  generalize World.setCell _ _ _ = W0 at HI ⊢
  refine wp_loop_ghost (fun n act W => ∃ (gw : Nat) (Ds : List Nat) (u6 u7 u8 u9 u10 u11 u12 u13 u14 u15 u16 u17 u18 u19 u20 u21 u22 u23 u24 u25 u26 u27 : Value),
    act = { tmps := #[.agg (icells a), .int .i64 B, .pointer (some ⟨g1, 0, none⟩), .pointer (some ⟨g2, 0, none⟩), .pointer (some ⟨g3, 0, none⟩), .pointer (some ⟨gw, 0, none⟩), u6, u7, u8, u9, u10, u11, u12, u13, u14, u15, u16, u17, u18, u19, u20, u21, u22, u23, u24, u25, u26, u27], defers := Ds.map mark } ∧ Hid (FitI w B R g1 g2 g3 gw n Ds W)) 7 ⟨g4, [], _, _, _, _, _, _, _, _, _, _, _, _, _, _, _, _, _, _, _, _, _, _, rfl, HI⟩ ?_
  clear HI
  rintro n act W ⟨gw, Ds, u6, u7, u8, u9, u10, u11, u12, u13, u14, u15, u16, u17, u18, u19, u20, u21, u22, u23, u24, u25, u26, u27, rfl, HI⟩
  obtain ⟨cur, hok, hnar, hle, hn7, hM, hMk⟩ := HI.out
  clear HI
  have HM := Lib.hid hM
  have HK := Lib.hid hMk
  have HO := Lib.hid hok
  have c5 : W.cell? ⟨gw, 0, none⟩ = some (.int .i64 (n : Int)) := Mem.one hM (.head _)
  by_cases hn : n = 0
  · subst hn
    have hcur : cur = R := by
      rw [← hnar, nar_done]
      rw [costL_eq]
      have h0 := hle 0 (by omega)
      have h1 := hle 1 (by omega)
      have h2 := hle 2 (by omega)
      have h3 := hle 3 (by omega)
      have h4 := hle 4 (by omega)
      have h5 := hle 5 (by omega)
      have := HB.out
      omega
    have HQ := Lib.hid hcur
    clear hcur hnar hle hM hMk hok
    rw [HQ.out] at HM
    unfold FitM at HM
    clear HQ HO
    go_wp2_with (first | (refine wl_load rfl _ _ rfl rfl (by first | exact arrSpec | exact arrLev | exact arrAll) HM (by first | exact .head _ | exact .tail _ (.head _) | exact .tail _ (.tail _ (.head _)) | exact .tail _ (.tail _ (.tail _ (.head _))) | exact .tail _ (.tail _ (.tail _ (.tail _ (.head _)))) | exact .tail _ (.tail _ (.tail _ (.tail _ (.tail _ (.head _))))) | exact .tail _ (.tail _ (.tail _ (.tail _ (.tail _ (.tail _ (.head _)))))) | exact .tail _ (.tail _ (.tail _ (.tail _ (.tail _ (.tail _ (.tail _ (.head _))))))) | exact .tail _ (.tail _ (.tail _ (.tail _ (.tail _ (.tail _ (.tail _ (.tail _ (.head _)))))))) | exact .tail _ (.tail _ (.tail _ (.tail _ (.tail _ (.tail _ (.tail _ (.tail _ (.tail _ (.head _))))))))) | exact .tail _ (.tail _ (.tail _ (.tail _ (.tail _ (.tail _ (.tail _ (.tail _ (.tail _ (.tail _ (.head _)))))))))) | exact .tail _ (.tail _ (.tail _ (.tail _ (.tail _ (.tail _ (.tail _ (.tail _ (.tail _ (.tail _ (.tail _ (.head _)))))))))))) (by first | (with_reducible assumption) | (with_reducible exact Lib.hid (zr_length _)) | (with_reducible exact Lib.hid (tab_length _ _))) ?_) | (refine wl_storeK rfl _ _ _ rfl rfl rfl arrAll HM 1 rfl (by first | (with_reducible assumption) | (with_reducible exact Lib.hid (zr_length _)) | (with_reducible exact Lib.hid (tab_length _ _))) LR ?_; clear HM; intro us HM hko; have HK2 := Lib.hid (HK.out.keeps hko); clear HK hko; simp only [List.set_cons_zero, List.set_cons_succ] at HM))
    refine leaves_marks Ds _ HK2.out.1 (fun D hD => (HK2.out.2 D hD).2) fun W' hs => ?_
    have hm := Shut.mem HM.out HK2.out hs
    exact ⟨_, res_one rfl _ rfl arrAll (Lib.hid hm) (by first | exact .head _ | exact .tail _ (.head _) | exact .tail _ (.tail _ (.head _)) | exact .tail _ (.tail _ (.tail _ (.head _))) | exact .tail _ (.tail _ (.tail _ (.tail _ (.head _)))) | exact .tail _ (.tail _ (.tail _ (.tail _ (.tail _ (.head _))))) | exact .tail _ (.tail _ (.tail _ (.tail _ (.tail _ (.tail _ (.head _)))))) | exact .tail _ (.tail _ (.tail _ (.tail _ (.tail _ (.tail _ (.tail _ (.head _))))))) | exact .tail _ (.tail _ (.tail _ (.tail _ (.tail _ (.tail _ (.tail _ (.tail _ (.head _)))))))) | exact .tail _ (.tail _ (.tail _ (.tail _ (.tail _ (.tail _ (.tail _ (.tail _ (.tail _ (.head _))))))))) | exact .tail _ (.tail _ (.tail _ (.tail _ (.tail _ (.tail _ (.tail _ (.tail _ (.tail _ (.tail _ (.head _)))))))))) | exact .tail _ (.tail _ (.tail _ (.tail _ (.tail _ (.tail _ (.tail _ (.tail _ (.tail _ (.tail _ (.tail _ (.head _)))))))))))) LR, rfl, hm.1⟩
  · have hn1 : 0 < (n : Int) := by omega
    have HN := Lib.hid hnar
    have HLE := Lib.hid hle
    clear hnar hle hM hMk hok
    have hn0 : 0 < n := by omega
    go_wp2_with fail
    clear c5 hn1
    have hD : ∀ D ∈ Ds, D < W.heap.size := fun D hD => HK.out.lt hD
    have HDL := Lib.hid hD
    refine (wpIn_wide (n := 3)).1 ?_
    refine wpIn_rangeFunc_ownF (F := Fence.wide) (n := 3) rfl (by omega) (gf := 36) (lb := #[]) rfl trivial (enters_of Tryd.func36 (by kernel_rfl) rfl) (behind_stops Fence.wide 2 trivial rfl (by omega) W) walksK_t walksK_b (Below.refl _ _) (fun _ => rfl)
      (FitJ w B R g1 g2 g3 gw n Ds) (FitX w B R g1 g2 g3 gw n Ds) (fitJ_own HM.out.1.size hD) (fitX_own HM.out.1.size hD)
      ⟨cur, HO.out, HM.out, HK.out, fun k hk e => by
        obtain rfl : k = 0 := by have := congrArg List.length e; rw [std_length] at this; simpa using this.symm
        exact ⟨HN.out, fun b hb => ⟨HLE.out b hb, fun h => by omega⟩⟩⟩
      (fun x => { tmps := #[.agg (icells a), .int .i64 B, .pointer (some ⟨g1, 0, none⟩), .pointer (some ⟨g2, 0, none⟩), .pointer (some ⟨g3, 0, none⟩), .pointer (some ⟨gw, 0, none⟩), (.int .i64 ((x.val : Nat) : Int)), .int .i64 (n : Int), .bool true, u9, u10, (.int .i64 ((x.val : Nat) : Int)), u12, u13, u14, u15, u16, u17, u18, u19, u20, u21, u22, u23, u24, u25, u26, u27], defers := [] }) ?assign ?body ?done ?stop
    case assign =>
      intro l x W' K hK
      gi_wp2
      exact hK
    case body =>
      clear HK HN HLE HO HM hD
      rintro l pre x W1 ⟨cur1, hok1, hM1, hK1, hinv⟩ -
      have HM := Lib.hid (show Mem w [(gw, 3, [(n : Int)]), (g3, 31, zr 6), (g2, 3, [B]), (g1, 31, cur1)] W1 from hM1)
      have HK := Lib.hid hK1
      have HO := Lib.hid hok1
      have LC := Lib.hid hok1.1
      have HV := Lib.hid hinv
      obtain ⟨b, hb⟩ := x
      have hb6 : (b : Int) < 6 := by omega
      clear hok1 hM1 hK1 hinv
      obtain ⟨C, hC⟩ : ∃ C, costL cur1 = C := ⟨_, rfl⟩
      have HC := Lib.hid hC
      have HCst := Lib.hid (fun u (hu : Edg u) => cost_any cur1 u HO.out hu)
      rw [hC] at HCst
      have HH2 := Lib.hid (fun (u : World) (hu : Mem w [(gw, 3, [(n : Int)]), (g2, 3, [B]), (g1, 31, cur1)] u) => hu.one (.tail _ (.head _)))
      have H1 := Lib.hid (fun (u : World) (hu : Mem w [(gw, 3, [(n : Int)]), (g1, 31, cur1)] u) => hu.cell (.tail _ (.head _)) (k := b) (by rw [LC.out]; omega))
      have H2 := Lib.hid (fun (u : World) (hu : Mem w [(gw, 3, [(n : Int)]), (g1, 31, cur1)] u) => hu.one (.head _))
      obtain ⟨v, hv⟩ : ∃ v, cur1.getD b 0 = v := ⟨_, rfl⟩
      rw [hv] at H1
      have HVV := Lib.hid hv
      clear hC hv
      gi_wp2
      refine round_held (S := Mem w [(gw, 3, [(n : Int)]), (g2, 3, [B]), (g1, 31, cur1)]) (by kernel_rfl) (by rfl) (fun ⟨_, _, h⟩ => h) (HM.out.drew.sub (by repeat' first | exact List.nil_sublist _ | exact .slnil | refine List.Sublist.cons_cons _ ?_ | refine List.Sublist.cons _ ?_)) (fun hHeld => ?_)
      have HMd := Lib.hid HM.out.drew
      have HKo := Lib.hid (KeepsOthers.drew W1)
      clear HM
      have HM := HMd
      clear HMd
      generalize World.drew _ = wd at HM HKo hHeld ⊢
      (refine wa_take (i := 0) rfl (by kernel_rfl) (by kernel_rfl) (by kernel_rfl) (fun _ _ _ h => h) (yi_load rfl _ _ rfl rfl (by first | exact arrSpec | exact arrLev | exact arrAll) (fun u hu => hu) (by first | exact .head _ | exact .tail _ (.head _) | exact .tail _ (.tail _ (.head _)) | exact .tail _ (.tail _ (.tail _ (.head _))) | exact .tail _ (.tail _ (.tail _ (.tail _ (.head _)))) | exact .tail _ (.tail _ (.tail _ (.tail _ (.tail _ (.head _))))) | exact .tail _ (.tail _ (.tail _ (.tail _ (.tail _ (.tail _ (.head _)))))) | exact .tail _ (.tail _ (.tail _ (.tail _ (.tail _ (.tail _ (.tail _ (.head _))))))) | exact .tail _ (.tail _ (.tail _ (.tail _ (.tail _ (.tail _ (.tail _ (.tail _ (.head _)))))))) | exact .tail _ (.tail _ (.tail _ (.tail _ (.tail _ (.tail _ (.tail _ (.tail _ (.tail _ (.head _))))))))) | exact .tail _ (.tail _ (.tail _ (.tail _ (.tail _ (.tail _ (.tail _ (.tail _ (.tail _ (.tail _ (.head _)))))))))) | exact .tail _ (.tail _ (.tail _ (.tail _ (.tail _ (.tail _ (.tail _ (.tail _ (.tail _ (.tail _ (.tail _ (.head _)))))))))))) (by first | (with_reducible assumption) | (with_reducible exact Lib.hid (zr_length _)) | (with_reducible exact Lib.hid (tab_length _ _)))) hHeld rfl ?_; (try simp only [Act.put, List.setIfInBounds_toArray, List.set_cons_zero, List.set_cons_succ]))
      (refine wa_take (i := 2) rfl (by kernel_rfl) (by kernel_rfl) (by kernel_rfl) (fun _ _ _ h => h) (yi_cell rfl _ rfl rfl (HH2).out) hHeld rfl ?_; (try simp only [Act.put, List.setIfInBounds_toArray, List.set_cons_zero, List.set_cons_succ]))
      refine wpAnyH_ready (rs := [1]) (by kernel_rfl) (by simp) ?_; refine AllReadyH.cons rfl (fun K hK => ?_) (AllReadyH.nil)
      rw [if_pos (by rfl)]; go_simp
      refine (HCst.out _ (HE.out.mem HM.out)).mono ?_
      rintro e wb ⟨rfl, h1⟩
      have HM2 := Lib.hid (HM.out.below h1)
      have HKo2 := Lib.hid (HKo.out.trans (KeepsOthers.below h1))
      clear h1 HM hHeld HKo HCst
      have HM := HM2
      have HKo := HKo2
      clear HM2 HKo2
      go_wp2_with fail; refine hK.out _ _ (HM.out.sub (by repeat' first | exact List.nil_sublist _ | exact .slnil | refine List.Sublist.cons_cons _ ?_ | refine List.Sublist.cons _ ?_)) (fun hHeld => ?_); clear hK K; (try simp only [Act.put, List.setIfInBounds_toArray, List.set_cons_zero, List.set_cons_succ])
      by_cases hc : C ≤ B
      · have hd : decide (C ≤ B) = true := decide_eq_true hc
        (refine wa_take (i := 3) (v := .bool true) rfl (by kernel_rfl) (by kernel_rfl) (by kernel_rfl) (fun _ _ _ h => h) (yi_free rfl (fun u => by go_simp)) hHeld rfl ?_; (try simp only [Act.put, List.setIfInBounds_toArray, List.set_cons_zero, List.set_cons_succ]))
        refine wpAnyH_done (by kernel_rfl) ?_ _
        clear hd
        gi_wp2
        exact ⟨HKo.out, rfl, cur1, HO.out, HM.out, HK.out.keeps HKo.out, fun k hk e => by
          obtain ⟨j, rfl, hj, -⟩ := std_snoc e
          have := (HV.out j (by omega) hj).1
          rw [nar_done (by rw [HC.out]; exact hc)] at this
          exact this⟩
      · have hd : decide (C ≤ B) = false := decide_eq_false hc
        (refine wa_take (i := 3) (v := .bool false) rfl (by kernel_rfl) (by kernel_rfl) (by kernel_rfl) (fun _ _ _ h => h) (yi_free rfl (fun u => by go_simp)) hHeld rfl ?_; (try simp only [Act.put, List.setIfInBounds_toArray, List.set_cons_zero, List.set_cons_succ]))
        refine wpAnyH_done (by kernel_rfl) ?_ _
        clear hd
        gi_wp2
        refine round_held (S := Mem w [(gw, 3, [(n : Int)]), (g1, 31, cur1)]) (by kernel_rfl) (by rfl) (fun ⟨_, _, h⟩ => h) (HM.out.drew.sub (by repeat' first | exact List.nil_sublist _ | exact .slnil | refine List.Sublist.cons_cons _ ?_ | refine List.Sublist.cons _ ?_)) (fun hHeld => ?_)
        have HMd := Lib.hid HM.out.drew
        have HKo2 := Lib.hid (HKo.out.trans (KeepsOthers.drew wb))
        clear HM HKo
        have HM := HMd
        have HKo := HKo2
        clear HMd HKo2
        generalize World.drew _ = wd2 at HM HKo hHeld ⊢
        (refine wa_take (i := 0) rfl (by kernel_rfl) (by kernel_rfl) (by kernel_rfl) (fun _ _ _ h => h) (yi_free rfl (fun u => rfl)) hHeld rfl ?_; (try simp only [Act.put, List.setIfInBounds_toArray, List.set_cons_zero, List.set_cons_succ]))
        (refine wa_take (i := 1) (v := .pointer (some ⟨g1, b, none⟩)) rfl (by kernel_rfl) (by kernel_rfl) (by kernel_rfl) (fun _ _ _ h => h) (yi_free rfl (fun u => by go_simp)) hHeld rfl ?_; (try simp only [Act.put, List.setIfInBounds_toArray, List.set_cons_zero, List.set_cons_succ]))
        (refine wa_take (i := 2) rfl (by kernel_rfl) (by kernel_rfl) (by kernel_rfl) (fun _ _ _ h => h) (yi_cell rfl _ rfl rfl (H1).out) hHeld rfl ?_; (try simp only [Act.put, List.setIfInBounds_toArray, List.set_cons_zero, List.set_cons_succ]))
        (refine wa_take (i := 3) rfl (by kernel_rfl) (by kernel_rfl) (by kernel_rfl) (fun _ _ _ h => h) (yi_cell rfl _ rfl rfl (H2).out) hHeld rfl ?_; (try simp only [Act.put, List.setIfInBounds_toArray, List.set_cons_zero, List.set_cons_succ]))
        by_cases hvn : v = (n : Int)
        · have hd : (v == (n : Int)) = true := by simpa using hvn
          (refine wa_take (i := 4) (v := .bool true) rfl (by kernel_rfl) (by kernel_rfl) (by kernel_rfl) (fun _ _ _ h => h) (yi_free rfl (fun u => by go_simp)) hHeld rfl ?_; (try simp only [Act.put, List.setIfInBounds_toArray, List.set_cons_zero, List.set_cons_succ]))
          refine wpAnyH_done (by kernel_rfl) ?_ _
          have c7 := HM.out.cell (.tail _ (.tail _ (.tail _ (.head _)))) (k := b) (by rw [LC.out]; omega)
          have f7 := HM.out.free (.tail _ (.tail _ (.tail _ (.head _)))) b
          rw [HVV.out, hvn] at c7
          clear hd H1 H2 HH2 hHeld
          have HVN := Lib.hid hvn
          clear hvn
          gi_wp2
          have HM2 := HM.out.put 3 rfl b ((n : Int) - 1)
          simp only [List.set_cons_zero, List.set_cons_succ] at HM2
          have hks := HKo.out.trans (KeepsOthers.setCell wd2 ⟨g1, b, none⟩ (.int .i64 ((n : Int) - 1)))
          refine ⟨hks, hks.walks, cur1.set b ((n : Int) - 1), ok_set HO.out hb (by omega) (by omega), HM2, HK.out.keeps hks, fun k hk e => ?_⟩
          obtain ⟨j, rfl, hj, hx⟩ := std_snoc e
          obtain rfl : b = 5 - j := hx
          exact fit_take HB.out HO.out (by omega) (HV.out j (by omega) hj) (by rw [HC.out]; omega) (by rw [HVV.out, HVN.out])
        · have hd : (v == (n : Int)) = false := by simpa using hvn
          (refine wa_take (i := 4) (v := .bool false) rfl (by kernel_rfl) (by kernel_rfl) (by kernel_rfl) (fun _ _ _ h => h) (yi_free rfl (fun u => by go_simp)) hHeld rfl ?_; (try simp only [Act.put, List.setIfInBounds_toArray, List.set_cons_zero, List.set_cons_succ]))
          refine wpAnyH_done (by kernel_rfl) ?_ _
          clear hd H1 H2 HH2 hHeld
          gi_wp2
          refine ⟨HKo.out, HKo.out.walks, cur1, HO.out, HM.out, HK.out.keeps HKo.out, fun k hk e => ?_⟩
          obtain ⟨j, rfl, hj, hx⟩ := std_snoc e
          obtain rfl : b = 5 - j := hx
          exact fit_pass (by omega) (HV.out j (by omega) hj) (by rw [HVV.out]; exact hvn)
    case done =>
      have HWS := Lib.hid HM.out.1.size
      clear HK HN HLE HO HM hD
      rintro D xs W1 hDW rfl ⟨cur1, hok1, hM1, hK1, hinv⟩ hDef
      obtain ⟨hnar1, hle1⟩ := hinv 6 (by omega) rfl
      have HN := Lib.hid hnar1
      have HLE := Lib.hid hle1
      have HO := Lib.hid hok1
      have HM := Lib.hid (show Mem w [(gw, 3, [(n : Int)]), (g3, 31, zr 6), (g2, 3, [B]), (g1, 31, cur1)] W1 from hM1)
      have HK := Lib.hid (hK1.cons (fun E hE => Nat.lt_of_lt_of_le (HDL.out E hE) hDW) (Nat.le_trans HWS.out hDW) hDef)
      have c5 : W1.cell? ⟨gw, 0, none⟩ = some (.int .i64 (n : Int)) := Mem.one HM.out (.head _)
      have hn1 : 0 < (n : Int) := by omega
      have hn8 : (n : Int) ≤ 7 := by omega
      clear hok1 hM1 hK1 hinv hnar1 hle1 hDef hDW
      go_wp2_with (first | (refine wl_alloc1K rfl rfl HM ?_; clear HM; intro g5 u5 HM hko; have HK2 := Lib.hid (HK.out.keeps hko); clear HK hko; have c6 := HM.out.one (.head _); have f6 := HM.out.free (.head _) 0))
      have HM2 := (HM.out.put1 0 rfl (n : Int)).put1 0 rfl ((n : Int) - 1)
      simp only [List.set_cons_zero] at HM2
      have hks := (KeepsOthers.setCell u5 ⟨g5, 0, none⟩ (.int .i64 (n : Int))).trans (KeepsOthers.setCell _ ⟨g5, 0, none⟩ (.int .i64 ((n : Int) - 1)))
      have e : ((n - 1 : Nat) : Int) = (n : Int) - 1 := by omega
      refine ⟨n - 1, by omega, g5, D :: Ds, _, _, _, _, _, _, _, _, _, _, _, _, _, _, _, _, _, _, _, _, _, _, rfl, Lib.hid ⟨cur1, HO.out, HN.out, fun b hb => by have := (HLE.out b hb).2 (by omega); omega, by omega, ?_, HK2.out.keeps hks⟩⟩
      unfold FitM
      rw [e]
      exact HM2.sub (by repeat' first | exact List.nil_sublist _ | exact .slnil | refine List.Sublist.cons_cons _ ?_ | refine List.Sublist.cons _ ?_)
    case stop =>
      have HWS := Lib.hid HM.out.1.size
      clear HK HN HLE HO HM hD
      rintro D c pre W1 hDW ⟨k, hk, rfl⟩ ⟨rfl, cur1, hok1, hM1, hK1, hinv⟩ hDef
      have hcur := hinv k hk rfl
      rw [hcur] at hM1
      have HM := Lib.hid (show Mem w [(gw, 3, [(n : Int)]), (g3, 31, zr 6), (g2, 3, [B]), (g1, 31, R)] W1 from hM1)
      have HK := Lib.hid (hK1.cons (fun E hE => Nat.lt_of_lt_of_le (HDL.out E hE) hDW) (Nat.le_trans HWS.out hDW) hDef)
      clear hok1 hM1 hK1 hinv hDef hDW hcur
      refine wpIn_wide.2 ?_
      go_wp2_with (first | (refine wl_load rfl _ _ rfl rfl (by first | exact arrSpec | exact arrLev | exact arrAll) HM (by first | exact .head _ | exact .tail _ (.head _) | exact .tail _ (.tail _ (.head _)) | exact .tail _ (.tail _ (.tail _ (.head _))) | exact .tail _ (.tail _ (.tail _ (.tail _ (.head _)))) | exact .tail _ (.tail _ (.tail _ (.tail _ (.tail _ (.head _))))) | exact .tail _ (.tail _ (.tail _ (.tail _ (.tail _ (.tail _ (.head _)))))) | exact .tail _ (.tail _ (.tail _ (.tail _ (.tail _ (.tail _ (.tail _ (.head _))))))) | exact .tail _ (.tail _ (.tail _ (.tail _ (.tail _ (.tail _ (.tail _ (.tail _ (.head _)))))))) | exact .tail _ (.tail _ (.tail _ (.tail _ (.tail _ (.tail _ (.tail _ (.tail _ (.tail _ (.head _))))))))) | exact .tail _ (.tail _ (.tail _ (.tail _ (.tail _ (.tail _ (.tail _ (.tail _ (.tail _ (.tail _ (.head _)))))))))) | exact .tail _ (.tail _ (.tail _ (.tail _ (.tail _ (.tail _ (.tail _ (.tail _ (.tail _ (.tail _ (.tail _ (.head _)))))))))))) (by first | (with_reducible assumption) | (with_reducible exact Lib.hid (zr_length _)) | (with_reducible exact Lib.hid (tab_length _ _))) ?_) | (refine wl_storeK rfl _ _ _ rfl rfl rfl arrAll HM 1 rfl (by first | (with_reducible assumption) | (with_reducible exact Lib.hid (zr_length _)) | (with_reducible exact Lib.hid (tab_length _ _))) LR ?_; clear HM; intro us HM hko; have HK2 := Lib.hid (HK.out.keeps hko); clear HK hko; simp only [List.set_cons_zero, List.set_cons_succ] at HM))
      refine leaves_marks (D :: Ds) _ HK2.out.1 (fun D hD => (HK2.out.2 D hD).2) fun W' hs => ?_
      have hm := Shut.mem HM.out HK2.out hs
      exact ⟨_, res_one rfl _ rfl arrAll (Lib.hid hm) (by first | exact .head _ | exact .tail _ (.head _) | exact .tail _ (.tail _ (.head _)) | exact .tail _ (.tail _ (.tail _ (.head _))) | exact .tail _ (.tail _ (.tail _ (.tail _ (.head _)))) | exact .tail _ (.tail _ (.tail _ (.tail _ (.tail _ (.head _))))) | exact .tail _ (.tail _ (.tail _ (.tail _ (.tail _ (.tail _ (.head _)))))) | exact .tail _ (.tail _ (.tail _ (.tail _ (.tail _ (.tail _ (.tail _ (.head _))))))) | exact .tail _ (.tail _ (.tail _ (.tail _ (.tail _ (.tail _ (.tail _ (.tail _ (.head _)))))))) | exact .tail _ (.tail _ (.tail _ (.tail _ (.tail _ (.tail _ (.tail _ (.tail _ (.tail _ (.head _))))))))) | exact .tail _ (.tail _ (.tail _ (.tail _ (.tail _ (.tail _ (.tail _ (.tail _ (.tail _ (.tail _ (.head _)))))))))) | exact .tail _ (.tail _ (.tail _ (.tail _ (.tail _ (.tail _ (.tail _ (.tail _ (.tail _ (.tail _ (.tail _ (.head _)))))))))))) LR, rfl, hm.1⟩
end Go.Proofs.YtplfcncibmgllaaDoor.Lp
