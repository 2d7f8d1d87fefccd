/-
  Own texts, laid together: Wf, Wg, Wh, Wi, Wp, Wq.
-/
import Derived.Test.YtcnckamocbaceaaDoorMW
import Derived.RangeFuncNested
import Derived.RangeFuncBound
import Derived.RangeFuncCalls
import Derived.RangeFuncLeaves
import Derived.Shelf.Abstract
import Derived.Shelf.RegionOpen
import Derived.OwnWalkIn
import Derived.TacticsInMore
import Derived.LoopNIn
import Derived.LoopIn
import Derived.Deep.LoopGhost
import Derived.Deep.Cut
/- Wf -/
namespace Go.Proofs.YtcnckamocbaceaaDoor.Lp
open Go.RowKit Go.Shelf Go.Proofs.YtcnckamocbaceaaDoor.Fx Go.Proofs.YtcnckamocbaceaaDoor.Fq Go.Proofs.YtcnckamocbaceaaDoor.Tb
attribute [local go_sem] Oper.semAt_some
section
variable {P : Program} {l n : Nat} {a : Act} {w : World} {Q : Exit → Act → World → Prop} {ops : Array Oper}
theorem oper_in {o : Oper} {K : Act → World → Prop} (hnd : ∀ c, o.op ≠ .defer c) (h : o.wp P a w K Q) : o.wpIn (Fence.wide.inRound l) n P a w K Q := by
  refine ⟨fun _ _ => trivial, ?_⟩
  unfold Oper.wp at h
  rw [show (Fence.wide.inRound l).round = some l from rfl, Oper.semAt_some l _ _ hnd]
  generalize (execOp a.eval o).run P w = r at h ⊢
  cases r with
  | ok x w' =>
    cases x <;> first
      | exact h
      | exact h.elim
      | exact ⟨fun hd => (by cases hd), (callsIn_wide.2 h).inRound l⟩
      | exact ⟨fun hd => (by cases hd), fun c cs _ => let ⟨v, w'', r, s⟩ := h c cs; ⟨v, w'', r, stepsIn_wide.2 s⟩⟩
  | halt x w' => cases x <;> exact h
def undeferred (ops : Array Oper) : Bool := ops.toList.all fun o => match o.op with | .defer _ => false | _ => true
theorem undeferred_at (h : undeferred ops = true) {i : Nat} {o : Oper} (hi : ops[i]? = some o) (c) : o.op ≠ .defer c := fun e => by
  have hm : o ∈ ops.toList := by
    rw [← Array.getElem?_toList] at hi
    exact List.mem_of_getElem? hi
  have := List.all_eq_true.1 h o hm
  rw [e] at this
  cases this
theorem op_in (h : undeferred ops = true) (hno : ¬ LetsOut Q) {i : Nat} {K : Act → World → Prop} (hh : wpOp P ops Q i K a w) : wpOpIn (Fence.wide.inRound l) n P ops Q i K a w := by
  unfold wpOp at hh
  unfold wpOpIn
  cases ho : ops[i]? with
  | none => rw [ho] at hh; exact hh
  | some o =>
    rw [ho] at hh
    simp only at hh ⊢
    by_cases hw : Region.wanted o (yielded ops a.tmps) = true
    · rw [if_pos hw] at hh ⊢
      exact oper_in (undeferred_at h ho) (hh.resolve_right fun k => hno k.2)
    · rw [if_neg hw] at hh ⊢
      exact ⟨fun _ _ => trivial, hh⟩
theorem any_in {md : Region.Mode} (h : undeferred ops = true) (hno : ¬ LetsOut Q) : ∀ (fuel : Nat) (listed : Array Bool) (a : Act) (w : World), wpAny P md ops Q fuel listed a w → wpAnyIn (Fence.wide.inRound l) n P md ops Q fuel listed a w
  | 0, _, _, _, hh => hh
  | fuel + 1, _, _, _, hh => ⟨hh.1, fun i hi => wpOpIn_mono (fun a' w' h' => any_in h hno fuel _ a' w' h') (op_in h hno (hh.2 i hi))⟩
/-- a region that draws, in a round: as anywhere -/
theorem round_held {S : World → Prop} {id : Nat} (hm : P.follows .mixedOrders = true) (h : undeferred ops = true) (hno : ¬ LetsOut Q) (hS : S w.drew)
    (hh : S w.drew → wpAnyH P .any ops Q S ops.size (Array.replicate ops.size false) a w.drew) : (Code.region id ops true).wpIn (Fence.wide.inRound l) n P Q a w :=
  wpIn_region_any hm (any_in h hno _ _ _ _ (wpAny_of_held _ _ _ _ (hh hS)))
end
/-- what fromBehind has handed over behind k rounds -/
def std (k : Nat) : List (Fin 6) := (List.range k).map fun i => (⟨5 - i, by omega⟩ : Fin 6)
theorem std_succ (k : Nat) : std (k + 1) = std k ++ [⟨5 - k, by omega⟩] := by
  unfold std; rw [List.range_succ, List.map_append]; rfl
theorem std_length (k : Nat) : (std k).length = k := by unfold std; rw [List.length_map, List.length_range]
set_option maxHeartbeats 2000000 in
theorem behind_stops (F : Fence) (n : Nat) (hF : F.fn 60) (hro : F.round = none) (hn : 1 ≤ n) (w : World) :
    SeqStopsK F n Tryd.prog 60 #[] (fun x : Fin 6 => #[.int .i64 ((x.val : Nat) : Int)]) KeepsWalks (fun xs => xs = std 6) (fun pre => ∃ k, k ≤ 6 ∧ pre = std k) 6 w := fun l J Jx W _ _ _ hY h0 => by
  refine callsIn_of_wp Tryd.func60 rfl hF ?_ hro
  simp only [Tryd.ntmps60, List.size_toArray, List.length_cons, List.length_nil, Nat.reduceAdd, Nat.reduceSub, Array.replicate_succ, Array.replicate_zero, List.push_toArray, List.append_toArray, List.nil_append, List.cons_append]
  gi_wp2
  gi_loopw [2] (fun p wr => ∃ (k : Nat) (z : Int), k ≤ 6 ∧ p = .int .i64 z ∧ Hid (z = 5 - (k : Int)) ∧ J (std k) wr) (fun p _ => (intOf p + 1).toNat)
  case atStart => exact ⟨0, 5, by omega, rfl, Lib.hid (by omega), h0⟩
  case round =>
    obtain ⟨k, z, hk, rfl, HZ, hJ⟩ := hrel
    have hz1 : -1 ≤ z := by have := HZ.out; omega
    have hz2 : z ≤ 5 := by have := HZ.out; omega
    by_cases hlt : k < 6
    · have hz3 : 0 ≤ z := by have := HZ.out; omega
      obtain ⟨fn, tmps, assign, body, hy, hR⟩ := hY (std k) ⟨5 - k, by omega⟩ wr hJ (by rw [std_length]; exact hlt)
      have e : (((5 - k : Nat)) : Int) = z := by have := HZ.out; omega
      rw [← std_succ] at hR
      simp only [e] at hy
      clear e
      gi_wp2
      refine hR.mono ?_
      rintro e W3 (⟨rfl, hJ3, -⟩ | ⟨rfl, hJx3⟩)
      · gi_wp2
        go_roundw
        case rel => exact ⟨k + 1, z - 1, by omega, rfl, Lib.hid (by have := HZ.out; omega), hJ3⟩
        case measure => simp [intOf]; omega
      · gi_wp2
        refine bodyPost_ret (results_none rfl _ _ _) rfl ?_
        exact ⟨⟨_, rfl⟩, .inr ⟨std (k + 1), ⟨k + 1, by omega, rfl⟩, hJx3⟩⟩
    · obtain rfl : k = 6 := by omega
      have hz3 : z < 0 := by have := HZ.out; omega
      gi_wp2
      go_end0
      exact ⟨⟨_, rfl⟩, .inl ⟨std 6, rfl, hJ⟩⟩
end Go.Proofs.YtcnckamocbaceaaDoor.Lp
/- Wg -/
namespace Go.Proofs.YtcnckamocbaceaaDoor.Lp
open Go.RowKit Go.Shelf Go.Proofs.YtcnckamocbaceaaDoor.Fx Go.Proofs.YtcnckamocbaceaaDoor.Fq Go.Proofs.YtcnckamocbaceaaDoor.Tb
attribute [local go_sem] Oper.semAt_some
section
variable {ops : Array Oper} {rest : List Oper} {o : Oper} {a : Act} {w w0 : World} {Q : Exit → Act → World → Prop} {L : List (Nat × TypeId × List Int)}
theorem wl_box1 (hgd : Region.wanted o (yielded ops a.tmps) = true) (x : Operand) (ho : o.op = .box 3 x) {v : Int} (hx : a.eval x = .int .i64 v) (hm : Hid (Mem w0 L w))
    (h : ∀ g w', Hid (Mem w0 ((g, 3, [v]) :: L) w') → wpList Tryd.prog ops Q rest (a.put o.dst (.pointer (some ⟨g, 0, none⟩))) w') : wpList Tryd.prog ops Q (o :: rest) a w :=
  wl_step hgd fun K hK => by
    have := hK _ _ (h w.heap.size _ (Lib.hid (hm.out.alloc 3 [v])))
    unfold Oper.wp execOp
    simp only [ho, Instr.box, newVar, newRow, Sem.run_bind, hx, Result.andThen, Value.cells, Sem.run_pure]
    exact this
theorem wl_alloc1 (hgd : Region.wanted o (yielded ops a.tmps) = true) (ho : o.op = .alloc 3) (hm : Hid (Mem w0 L w))
    (h : ∀ g w', Hid (Mem w0 ((g, 3, [0]) :: L) w') → wpList Tryd.prog ops Q rest (a.put o.dst (.pointer (some ⟨g, 0, none⟩))) w') : wpList Tryd.prog ops Q (o :: rest) a w :=
  wl_step hgd fun K hK => by
    have hz : (zeroValue 3).run Tryd.prog w = .ok (.int .i64 0) w := by kernel_rfl
    have := hK _ _ (h w.heap.size _ (Lib.hid (hm.out.alloc 3 [0])))
    unfold Oper.wp execOp
    simp only [ho, Instr.alloc, newVar, newRow, Sem.run_bind, hz, Result.andThen, Value.cells, Sem.run_pure]
    exact this
theorem Mem.one (h : Mem w0 L w) {g : Nat} {v : Int} (hm : (g, 3, [v]) ∈ L) : w.cell? ⟨g, 0, none⟩ = some (.int .i64 v) := h.cell hm (k := 0) (by simp)
theorem Mem.put1 (h : Mem w0 L w) (i : Nat) {g : Nat} {x : Int} (hi : L[i]? = some (g, 3, [x])) (v : Int) : Mem w0 (L.set i (g, 3, [v])) (w.setCell ⟨g, 0, none⟩ (.int .i64 v)) := h.put i hi 0 v
theorem Mem.grows {row : Option Nat} {u' : World} {B : Nat} (h : Mem w0 L w) (hB : w0.heap.size ≤ B) (hg : w.grownBy u' row) (hr : ∀ r, row = some r → B ≤ r ∧ ∃ o : Obj, w.heap[r]? = some o ∧ o.isCells = false) : Mem w0 L u' := by
  have hne : ∀ i, (∃ T cs, Blk w i T cs) → some i ≠ row := fun i ⟨T, cs, hb⟩ e => by
    obtain ⟨-, o, ho, hc⟩ := hr i e.symm
    have hb' : w.heap[i]? = some (.cells cs T (0, 0)) := hb
    rw [hb'] at ho
    injection ho with ho
    subst ho
    cases hc
  have hbl : Below w0.heap.size w0 u' := by
    refine ⟨hg.os.trans h.1.os, hg.tape.trans h.1.tape, hg.output.trans h.1.output, Nat.le_trans h.1.size hg.size, fun i hi => (hg.block i (Nat.lt_of_lt_of_le hi h.1.size) (fun e => ?_)).trans (h.1.block i hi)⟩
    have := (hr i e.symm).1
    omega
  exact ⟨hbl, fun e he => (hg.block e.1 (h.2.1 e he).lt (hne e.1 ⟨_, _, h.2.1 e he⟩)).trans (h.2.1 e he), h.2.2.1, h.2.2.2⟩
end
theorem KeepsOthers.below {W W' : World} (h : Below W.heap.size W W') : KeepsOthers W W' := ⟨h.size, fun k _ hk _ => (h.block k (Array.getElem?_eq_some_iff.1 hk).1).trans hk⟩
section
variable {ops : Array Oper} {rest : List Oper} {o : Oper} {a : Act} {w w0 : World} {Q : Exit → Act → World → Prop} {L : List (Nat × TypeId × List Int)}
theorem KeepsOthers.row {g : Nat} {T : TypeId} {cs ds : Array Value} (h : Blk w g T cs) : KeepsOthers w (w.setRow g ds) :=
  KeepsOthers.of_grownBy (grown_row w g ds) fun j o e ho => by
    injection e with e
    subst e
    have h' : w.heap[g]? = some (.cells cs T (0, 0)) := h
    rw [h'] at ho
    injection ho with ho
    rw [← ho]; rfl
theorem wl_storeK (hgd : Region.wanted o (yielded ops a.tmps) = true) (T : TypeId) (x y : Operand) (ho : o.op = .store T x y) {g n : Nat} (hx : a.eval x = .pointer (some ⟨g, 0, none⟩)) {ys : List Int} (hy : a.eval y = .agg (icells ys)) (ha : Arr T n) {xs : List Int}
    (hm : Hid (Mem w0 L w)) (i : Nat) (hi : L[i]? = some (g, T, xs)) (hl : Hid (xs.length = n)) (hl' : Hid (ys.length = n))
    (h : ∀ w', Hid (Mem w0 (L.set i (g, T, ys)) w') → KeepsOthers w w' → wpList Tryd.prog ops Q rest (a.put o.dst undef) w') : wpList Tryd.prog ops Q (o :: rest) a w :=
  wl_step hgd fun K hK => by
    have := hK _ _ (h _ (Lib.hid (hm.out.row i hi ys)) (KeepsOthers.row (hm.out.get (List.mem_of_getElem? hi))))
    unfold Oper.wp execOp
    simp only [ho, hx, hy, Instr.storeAt, Instr.sureAddr, Sem.run_bind, Sem.run_pure, Result.andThen_ok, run_store_mem ha hm.out (List.mem_of_getElem? hi) hl.out hl'.out]
    exact this
theorem wl_alloc1K (hgd : Region.wanted o (yielded ops a.tmps) = true) (ho : o.op = .alloc 3) (hm : Hid (Mem w0 L w))
    (h : ∀ g w', Hid (Mem w0 ((g, 3, [0]) :: L) w') → KeepsOthers w w' → wpList Tryd.prog ops Q rest (a.put o.dst (.pointer (some ⟨g, 0, none⟩))) w') : wpList Tryd.prog ops Q (o :: rest) a w :=
  wl_step hgd fun K hK => by
    have hz : (zeroValue 3).run Tryd.prog w = .ok (.int .i64 0) w := by kernel_rfl
    have := hK _ _ (h w.heap.size _ (Lib.hid (hm.out.alloc 3 [0])) (KeepsOthers.alloc _ _))
    unfold Oper.wp execOp
    simp only [ho, Instr.alloc, newVar, newRow, Sem.run_bind, hz, Result.andThen, Value.cells, Sem.run_pure]
    exact this
end
def mark (D : Nat) : Deferred := { target := .collected D, args := #[] }
/-- the marks of loops that are over -/
def Marks (B : Nat) (Ds : List Nat) (W : World) : Prop := Ds.Nodup ∧ ∀ D ∈ Ds, B ≤ D ∧ W.heap[D]? = some (.deferred (some []))
theorem Marks.keeps {B : Nat} {Ds : List Nat} {W W' : World} (h : Marks B Ds W) (hk : KeepsOthers W W') : Marks B Ds W' := ⟨h.1, fun D hD => ⟨(h.2 D hD).1, hk.same D _ (h.2 D hD).2 rfl⟩⟩
theorem Marks.lt {B : Nat} {Ds : List Nat} {W : World} (h : Marks B Ds W) {D : Nat} (hD : D ∈ Ds) : D < W.heap.size := (Array.getElem?_eq_some_iff.1 (h.2 D hD).2).1
theorem Marks.cons {B : Nat} {Ds : List Nat} {W : World} (h : Marks B Ds W) {D : Nat} (hlt : ∀ E ∈ Ds, E < D) (hB : B ≤ D) (hD : W.heap[D]? = some (.deferred (some []))) : Marks B (D :: Ds) W :=
  ⟨List.nodup_cons.2 ⟨fun hm => Nat.lt_irrefl _ (hlt D hm), h.1⟩, fun E hE => by
    rcases List.mem_cons.1 hE with rfl | hE
    · exact ⟨hB, hD⟩
    · exact h.2 E hE⟩
theorem Marks.grows {A B : Nat} {Ds : List Nat} {W W' : World} {row : Option Nat} (h : Marks A Ds W) (hlt : ∀ D ∈ Ds, D < B) (hg : W.grownBy W' row) (hr : ∀ r, row = some r → B ≤ r ∧ ∃ o : Obj, W.heap[r]? = some o ∧ o.isCells = false) : Marks A Ds W' :=
  ⟨h.1, fun D hD => ⟨(h.2 D hD).1, (hg.block D (h.lt hD) (fun e => by have := (hr D e.symm).1; have := hlt D hD; omega)).trans (h.2 D hD).2⟩⟩
/-- the world behind the marks' shutting -/
structure Shut (Ds : List Nat) (W W' : World) : Prop where
  os : W'.os = W.os
  tape : W'.tape = W.tape
  output : W'.output = W.output
  size : W'.heap.size = W.heap.size
  same : ∀ i, i ∉ Ds → W'.heap[i]? = W.heap[i]?
theorem Shut.mem {w0 W W' : World} {L : List (Nat × TypeId × List Int)} {Ds : List Nat} (h : Mem w0 L W) (hM : Marks w0.heap.size Ds W) (hs : Shut Ds W W') : Mem w0 L W' := by
  refine ⟨⟨hs.os.trans h.1.os, hs.tape.trans h.1.tape, hs.output.trans h.1.output, by rw [hs.size]; exact h.1.size, fun i hi => (hs.same i (fun hm => by have := (hM.2 i hm).1; omega)).trans (h.1.block i hi)⟩, fun e he => (hs.same e.1 (fun hm => ?_)).trans (h.2.1 e he), h.2.2⟩
  have h1 := (hM.2 _ hm).2
  have h2 : W.heap[e.1]? = some (.cells (icells e.2.2) e.2.1 (0, 0)) := h.2.1 e he
  rw [h2] at h1
  injection h1 with h1
  cases h1
theorem leaves_marks {F : Fence} {n : Nat} {P : Program} {fn : Func} {tmps : Array Value} {R : Ending → World → Prop} : ∀ (Ds : List Nat) (W : World), Ds.Nodup → (∀ D ∈ Ds, W.heap[D]? = some (.deferred (some []))) →
    (∀ W', Shut Ds W W' → ∃ v, (results fn tmps).run P W' = .ok v W' ∧ R (.returned v) W') → LeavesInM F n P fn tmps R (Ds.map mark) .returning W
  | [], W, _, _, h => h W ⟨rfl, rfl, rfl, rfl, fun _ _ => rfl⟩
  | D :: Ds, W, hn, hd, h => by
    have hn2 := List.nodup_cons.1 hn
    refine ⟨by simp, .inl ⟨D, W.putObj D (.deferred none), rfl, run_takeDeferred (hd D (.head _)), leaves_marks Ds _ hn2.2 (fun E hE => ?_) fun W' hs => h W' ?_⟩⟩
    · exact (World.putObj_heap_other (fun e => hn2.1 (by rw [← e]; exact hE))).trans (hd E (.tail _ hE))
    · have hg := grownBy_putObj' W D (.deferred none)
      refine ⟨hs.os.trans hg.os, hs.tape.trans hg.tape, hs.output.trans hg.output, by rw [hs.size]; simp, fun i hi => ?_⟩
      have h1 : i ∉ Ds := fun hm => hi (.tail _ hm)
      have h2 : i ≠ D := fun e => hi (by rw [e]; exact .head _)
      exact (hs.same i h1).trans (World.putObj_heap_other h2)
theorem std_snoc {pre : List (Fin 6)} {x : Fin 6} {k : Nat} (h : pre ++ [x] = std k) : ∃ j, k = j + 1 ∧ pre = std j ∧ x.val = 5 - j := by
  cases k with
  | zero => exact absurd (congrArg List.length h) (by rw [List.length_append, std_length]; simp)
  | succ j =>
    rw [std_succ] at h
    obtain ⟨h1, h2⟩ := List.append_inj' h rfl
    refine ⟨j, rfl, h1, ?_⟩
    injection h2 with h2
    rw [h2]
/-- what holds of the memory between two rounds -/
def FitM (w : World) (B : Int) (g1 g2 g3 gw n : Nat) (cur : List Int) (W : World) : Prop := Mem w [(gw, 3, [(n : Int)]), (g3, 34, zr 6), (g2, 3, [B]), (g1, 34, cur)] W
def FitI (w : World) (B : Int) (R : List Int) (g1 g2 g3 gw n : Nat) (Ds : List Nat) (W : World) : Prop :=
  ∃ cur, OkA cur ∧ narL 42 cur B = R ∧ (∀ b, b < 6 → cur.getD b 0 ≤ (n : Int)) ∧ n ≤ 7 ∧ FitM w B g1 g2 g3 gw n cur W ∧ Marks w.heap.size Ds W
def FitJ (w : World) (B : Int) (R : List Int) (g1 g2 g3 gw n : Nat) (Ds : List Nat) (pre : List (Fin 6)) (W : World) : Prop :=
  ∃ cur, OkA cur ∧ FitM w B g1 g2 g3 gw n cur W ∧ Marks w.heap.size Ds W ∧
    ∀ k, k ≤ 6 → pre = std k → narL 42 cur B = R ∧ ∀ b, b < 6 → cur.getD b 0 ≤ (n : Int) ∧ (6 ≤ b + k → cur.getD b 0 < (n : Int))
def FitX (w : World) (B : Int) (R : List Int) (g1 g2 g3 gw n : Nat) (Ds : List Nat) (c : Code) (pre : List (Fin 6)) (W : World) : Prop :=
  c = .exit 0 ∧ ∃ cur, OkA cur ∧ FitM w B g1 g2 g3 gw n cur W ∧ Marks w.heap.size Ds W ∧ ∀ k, k ≤ 6 → pre = std k → cur = R
section
variable {w : World} {B : Int} {R : List Int} {g1 g2 g3 gw n A : Nat} {Ds : List Nat}
theorem fitJ_own (hA : w.heap.size ≤ A) (hD : ∀ D ∈ Ds, D < A) : OwnFrom A (FitJ w B R g1 g2 g3 gw n Ds) := fun s W W' row h hg hr => by
  obtain ⟨cur, h1, h2, h3, h4⟩ := h
  exact ⟨cur, h1, Mem.grows h2 hA hg hr, h3.grows hD hg hr, h4⟩
theorem fitX_own (hA : w.heap.size ≤ A) (hD : ∀ D ∈ Ds, D < A) (c : Code) : OwnFrom A (FitX w B R g1 g2 g3 gw n Ds c) := fun s W W' row h hg hr => by
  obtain ⟨hc, cur, h1, h2, h3, h4⟩ := h
  exact ⟨hc, cur, h1, Mem.grows h2 hA hg hr, h3.grows hD hg hr, h4⟩
end
/-- a round that takes one away -/
theorem fit_take {B : Int} {R cur : List Int} {n j : Nat} (hB : 0 ≤ B) (hok : OkA cur) (hj : j < 6) (hinv : narL 42 cur B = R ∧ ∀ b, b < 6 → cur.getD b 0 ≤ (n : Int) ∧ (6 ≤ b + j → cur.getD b 0 < (n : Int)))
    (hc : ¬ costL cur ≤ B) (hv : cur.getD (5 - j) 0 = (n : Int)) : narL 42 (cur.set (5 - j) ((n : Int) - 1)) B = R ∧ ∀ b, b < 6 → (cur.set (5 - j) ((n : Int) - 1)).getD b 0 ≤ (n : Int) ∧ (6 ≤ b + (j + 1) → (cur.set (5 - j) ((n : Int) - 1)).getD b 0 < (n : Int)) := by
  have hl : lastM cur 6 = 5 - j := lastM_is (by omega) (fun b hb => by rw [hv]; exact (hinv.2 b hb).1) fun b hb hlt => by rw [hv]; exact (hinv.2 b hb).2 (by omega)
  have hs : stpL cur = cur.set (5 - j) ((n : Int) - 1) := by unfold stpL; rw [hl, hv]
  refine ⟨by rw [← hs, ← (nar_step hB hok hc).1]; exact hinv.1, fun b hb => ?_⟩
  rw [getD_set' _ _ _ _ (by rw [hok.1]; omega)]
  by_cases e : 5 - j = b
  · rw [if_pos e]; omega
  · rw [if_neg e]
    exact ⟨(hinv.2 b hb).1, fun h => (hinv.2 b hb).2 (by omega)⟩
theorem fit_pass {B : Int} {R cur : List Int} {n j : Nat} (hj : j < 6) (hinv : narL 42 cur B = R ∧ ∀ b, b < 6 → cur.getD b 0 ≤ (n : Int) ∧ (6 ≤ b + j → cur.getD b 0 < (n : Int)))
    (hv : ¬ cur.getD (5 - j) 0 = (n : Int)) : narL 42 cur B = R ∧ ∀ b, b < 6 → cur.getD b 0 ≤ (n : Int) ∧ (6 ≤ b + (j + 1) → cur.getD b 0 < (n : Int)) :=
  ⟨hinv.1, fun b hb => ⟨(hinv.2 b hb).1, fun h => by
    by_cases e : b = 5 - j
    · have := (hinv.2 b hb).1
      rw [e] at this ⊢
      omega
    · exact (hinv.2 b hb).2 (by omega)⟩⟩
theorem ok_set {cur : List Int} (h : OkA cur) {b : Nat} {v : Int} (hb : b < 6) (h1 : 0 ≤ v) (h2 : v ≤ 7) : OkA (cur.set b v) :=
  ⟨by rw [List.length_set, h.1], fun k hk => by
    rw [getD_set' _ _ _ _ (by rw [h.1]; exact hb)]
    have := h.2 k hk
    split <;> omega⟩
set_option maxRecDepth 100000 in
set_option maxHeartbeats 8000000 in
theorem fit_any (a : List Int) (B : Int) (w : World) (ha : OkA a) (hB : 0 ≤ B) (he : Edg w) :
    Calls Tryd.prog 52 #[.agg (icells a), .int .i64 B] w (ValQ w (.agg (icells (narL 42 a B)))) := by
  have HA := Lib.hid ha
  have LA := Lib.hid ha.1
  have HE := Lib.hid he
  have HM := Lib.hid (Mem.start w)
  obtain ⟨R, hR0⟩ : ∃ R, narL 42 a B = R := ⟨_, rfl⟩
  rw [hR0]
  have HR := Lib.hid hR0
  have LR := Lib.hid (show R.length = 6 by rw [← hR0]; exact (nar_ok hB 42 a ha (sumA_le ha)).1.1)
  have HB := Lib.hid hB
  clear ha he hR0 hB
  refine (callsIn_wide (n := 3)).1 (callsIn_of_wp_marks Tryd.func52 rfl trivial ?_ rfl)
  refine wpIn_wide.2 ?_
  simp only [Tryd.ntmps52, List.size_toArray, List.length_cons, List.length_nil, Nat.reduceAdd, Nat.reduceSub, Array.replicate_succ, Array.replicate_zero, List.push_toArray, List.append_toArray, List.nil_append, List.cons_append]
  go_wp2_with (first | (first | ((first | refine wl_box rfl _ _ rfl rfl HM ?_ | refine wl_alloc rfl _ rfl (by exact arrOf) HM ?_); first | (have q : dL HM = 0 := rfl; clear q HM; intro g1 u1 HM) | (have q : dL HM = 1 := rfl; clear q HM; intro g2 u2 HM) | (have q : dL HM = 2 := rfl; clear q HM; intro g3 u3 HM) | (have q : dL HM = 3 := rfl; clear q HM; intro g4 u4 HM) | (have q : dL HM = 4 := rfl; clear q HM; intro g5 u5 HM) | (have q : dL HM = 5 := rfl; clear q HM; intro g6 u6 HM) | (have q : dL HM = 6 := rfl; clear q HM; intro g7 u7 HM) | (have q : dL HM = 7 := rfl; clear q HM; intro g8 u8 HM) | (have q : dL HM = 8 := rfl; clear q HM; intro g9 u9 HM) | (have q : dL HM = 9 := rfl; clear q HM; intro g10 u10 HM) | (have q : dL HM = 10 := rfl; clear q HM; intro g11 u11 HM) | (have q : dL HM = 11 := rfl; clear q HM; intro g12 u12 HM) | (have q : dL HM = 12 := rfl; clear q HM; intro g13 u13 HM) | (have q : dL HM = 13 := rfl; clear q HM; intro g14 u14 HM)) | (refine wl_load rfl _ _ rfl rfl (by exact arrOf) HM (by exact memOf) (by exact lenOf) ?_) | (refine wl_storeM rfl _ _ _ rfl rfl rfl (by exact arrOf) HM (by exact idxOf) (by exact lenOf) (by exact lenOf) ?_; clear HM; intro us HM; dsimp only [List.set] at HM) | (refine wl_zero rfl _ rfl (by exact arrOf) (by kernel_rfl) ?_)) | (refine wl_box1 rfl _ rfl rfl HM ?_; clear HM; intro g2 u2 HM))
  go_step3
  go_wp2
  go_step3
  go_wp2_with (first | (refine wl_alloc1 rfl rfl HM ?_; clear HM; intro g4 u4 HM; have c4 := HM.out.one (.head _); have f4 := HM.out.free (.head _) 0))
  have HI := Lib.hid (show FitI w B R g1 g2 g3 g4 7 [] (u4.setCell ⟨g4, 0, none⟩ (.int .i64 7)) from ⟨a, HA.out, HR.out, fun b hb => (HA.out.2 b hb).2, by omega, HM.out.put1 0 rfl 7, ⟨List.nodup_nil, fun D hD => (by cases hD)⟩⟩)
  clear HM c4 f4 HA LA HR
  generalize World.setCell _ _ _ = W0 at HI ⊢
  refine wp_loop_ghost (fun n act W => ∃ (gw : Nat) (Ds : List Nat) (u6 u7 u8 u9 u10 u11 u12 u13 u14 u15 u16 u17 u18 u19 u20 u21 u22 u23 u24 u25 u26 u27 : Value),
    act = { tmps := #[.agg (icells a), .int .i64 B, .pointer (some ⟨g1, 0, none⟩), .pointer (some ⟨g2, 0, none⟩), .pointer (some ⟨g3, 0, none⟩), .pointer (some ⟨gw, 0, none⟩), u6, u7, u8, u9, u10, u11, u12, u13, u14, u15, u16, u17, u18, u19, u20, u21, u22, u23, u24, u25, u26, u27], defers := Ds.map mark } ∧ Hid (FitI w B R g1 g2 g3 gw n Ds W)) 7 ⟨g4, [], _, _, _, _, _, _, _, _, _, _, _, _, _, _, _, _, _, _, _, _, _, _, rfl, HI⟩ ?_
  clear HI
  rintro n act W ⟨gw, Ds, u6, u7, u8, u9, u10, u11, u12, u13, u14, u15, u16, u17, u18, u19, u20, u21, u22, u23, u24, u25, u26, u27, rfl, HI⟩
  obtain ⟨cur, hok, hnar, hle, hn7, hM, hMk⟩ := HI.out
  clear HI
  have HM := Lib.hid hM
  have HK := Lib.hid hMk
  have HO := Lib.hid hok
  have c5 : W.cell? ⟨gw, 0, none⟩ = some (.int .i64 (n : Int)) := Mem.one hM (.head _)
  by_cases hn : n = 0
  · subst hn
    have hcur : cur = R := by
      rw [← hnar, nar_done]
      rw [costL_eq]
      have h0 := hle 0 (by omega)
      have h1 := hle 1 (by omega)
      have h2 := hle 2 (by omega)
      have h3 := hle 3 (by omega)
      have h4 := hle 4 (by omega)
      have h5 := hle 5 (by omega)
      have := HB.out
      omega
    have HQ := Lib.hid hcur
    clear hcur hnar hle hM hMk hok
    rw [HQ.out] at HM
    unfold FitM at HM
    clear HQ HO
    go_wp2_with (first | (refine wl_load rfl _ _ rfl rfl (by exact arrOf) HM (by exact memOf) (by exact lenOf) ?_) | (refine wl_storeK rfl _ _ _ rfl rfl rfl arrAll HM 1 rfl (by exact lenOf) LR ?_; clear HM; intro us HM hko; have HK2 := Lib.hid (HK.out.keeps hko); clear HK hko; simp only [List.set_cons_zero, List.set_cons_succ] at HM))
    refine leaves_marks Ds _ HK2.out.1 (fun D hD => (HK2.out.2 D hD).2) fun W' hs => ?_
    have hm := Shut.mem HM.out HK2.out hs
    exact ⟨_, res_one rfl _ rfl arrAll (Lib.hid hm) (by exact memOf) LR, rfl, hm.1⟩
  · have hn1 : 0 < (n : Int) := by omega
    have HN := Lib.hid hnar
    have HLE := Lib.hid hle
    clear hnar hle hM hMk hok
    have hn0 : 0 < n := by omega
    go_wp2_with fail
    clear c5 hn1
    have hD : ∀ D ∈ Ds, D < W.heap.size := fun D hD => HK.out.lt hD
    have HDL := Lib.hid hD
    refine (wpIn_wide (n := 3)).1 ?_
    refine wpIn_rangeFunc_ownF (F := Fence.wide) (n := 3) rfl (by omega) (gf := 60) (lb := #[]) rfl trivial (enters_of Tryd.func60 (by kernel_rfl) rfl) (behind_stops Fence.wide 2 trivial rfl (by omega) W) walksK_t walksK_b (Below.refl _ _) (fun _ => rfl)
      (FitJ w B R g1 g2 g3 gw n Ds) (FitX w B R g1 g2 g3 gw n Ds) (fitJ_own HM.out.1.size hD) (fitX_own HM.out.1.size hD)
      ⟨cur, HO.out, HM.out, HK.out, fun k hk e => by
        obtain rfl : k = 0 := by have := congrArg List.length e; rw [std_length] at this; simpa using this.symm
        exact ⟨HN.out, fun b hb => ⟨HLE.out b hb, fun h => by omega⟩⟩⟩
      (fun x => { tmps := #[.agg (icells a), .int .i64 B, .pointer (some ⟨g1, 0, none⟩), .pointer (some ⟨g2, 0, none⟩), .pointer (some ⟨g3, 0, none⟩), .pointer (some ⟨gw, 0, none⟩), (.int .i64 ((x.val : Nat) : Int)), .int .i64 (n : Int), .bool true, u9, u10, (.int .i64 ((x.val : Nat) : Int)), u12, u13, u14, u15, u16, u17, u18, u19, u20, u21, u22, u23, u24, u25, u26, u27], defers := [] }) ?assign ?body ?done ?stop
    case assign =>
      intro l x W' K hK
      gi_wp2
      exact hK
    case body =>
      clear HK HN HLE HO HM hD
      rintro l pre x W1 ⟨cur1, hok1, hM1, hK1, hinv⟩ -
      have HM := Lib.hid (show Mem w [(gw, 3, [(n : Int)]), (g3, 34, zr 6), (g2, 3, [B]), (g1, 34, cur1)] W1 from hM1)
      have HK := Lib.hid hK1
      have HO := Lib.hid hok1
      have LC := Lib.hid hok1.1
      have HV := Lib.hid hinv
      obtain ⟨b, hb⟩ := x
      have hb6 : (b : Int) < 6 := by omega
      clear hok1 hM1 hK1 hinv
      obtain ⟨C, hC⟩ : ∃ C, costL cur1 = C := ⟨_, rfl⟩
      have HC := Lib.hid hC
      have HCst := Lib.hid (fun u (hu : Edg u) => cost_any cur1 u HO.out hu)
      rw [hC] at HCst
      have HH2 := Lib.hid (fun (u : World) (hu : Mem w [(gw, 3, [(n : Int)]), (g2, 3, [B]), (g1, 34, cur1)] u) => hu.one (.tail _ (.head _)))
      have H1 := Lib.hid (fun (u : World) (hu : Mem w [(gw, 3, [(n : Int)]), (g1, 34, cur1)] u) => hu.cell (.tail _ (.head _)) (k := b) (by rw [LC.out]; omega))
      have H2 := Lib.hid (fun (u : World) (hu : Mem w [(gw, 3, [(n : Int)]), (g1, 34, cur1)] u) => hu.one (.head _))
      obtain ⟨v, hv⟩ : ∃ v, cur1.getD b 0 = v := ⟨_, rfl⟩
      rw [hv] at H1
      have HVV := Lib.hid hv
      clear hC hv
      gi_wp2
      refine round_held (S := Mem w [(gw, 3, [(n : Int)]), (g2, 3, [B]), (g1, 34, cur1)]) (by kernel_rfl) (by rfl) (fun ⟨_, _, h⟩ => h) (HM.out.drew.sub (by exact subOf)) (fun hHeld => ?_)
      have HMd := Lib.hid HM.out.drew
      have HKo := Lib.hid (KeepsOthers.drew W1)
      clear HM
      have HM := HMd
      clear HMd
      generalize World.drew _ = wd at HM HKo hHeld ⊢
      (refine wa_take (i := 0) rfl (by kernel_rfl) (by kernel_rfl) (by kernel_rfl) (fun _ _ _ h => h) (yi_load rfl _ _ rfl rfl (by exact arrOf) (fun u hu => hu) (by exact memOf) (by exact lenOf)) hHeld rfl ?_; (try simp only [Act.put, List.setIfInBounds_toArray, List.set_cons_zero, List.set_cons_succ]))
      (refine wa_take (i := 2) rfl (by kernel_rfl) (by kernel_rfl) (by kernel_rfl) (fun _ _ _ h => h) (yi_cell rfl _ rfl rfl (HH2).out) hHeld rfl ?_; (try simp only [Act.put, List.setIfInBounds_toArray, List.set_cons_zero, List.set_cons_succ]))
      refine wpAnyH_ready (rs := [1]) (by kernel_rfl) (by simp) ?_; refine AllReadyH.cons rfl (fun K hK => ?_) (AllReadyH.nil)
      rw [if_pos (by rfl)]; go_simp
      refine (HCst.out _ (HE.out.mem HM.out)).mono ?_
      rintro e wb ⟨rfl, h1⟩
      have HM2 := Lib.hid (HM.out.below h1)
      have HKo2 := Lib.hid (HKo.out.trans (KeepsOthers.below h1))
      clear h1 HM hHeld HKo HCst
      have HM := HM2
      have HKo := HKo2
      clear HM2 HKo2
      go_wp2_with fail; refine hK.out _ _ (HM.out.sub (by exact subOf)) (fun hHeld => ?_); clear hK K; (try simp only [Act.put, List.setIfInBounds_toArray, List.set_cons_zero, List.set_cons_succ])
      by_cases hc : C ≤ B
      · have hd : decide (C ≤ B) = true := decide_eq_true hc
        (refine wa_take (i := 3) (v := .bool true) rfl (by kernel_rfl) (by kernel_rfl) (by kernel_rfl) (fun _ _ _ h => h) (yi_free rfl (fun u => by go_simp)) hHeld rfl ?_; (try simp only [Act.put, List.setIfInBounds_toArray, List.set_cons_zero, List.set_cons_succ]))
        refine wpAnyH_done (by kernel_rfl) ?_ _
        clear hd
        gi_wp2
        exact ⟨HKo.out, rfl, cur1, HO.out, HM.out, HK.out.keeps HKo.out, fun k hk e => by
          obtain ⟨j, rfl, hj, -⟩ := std_snoc e
          have := (HV.out j (by omega) hj).1
          rw [nar_done (by rw [HC.out]; exact hc)] at this
          exact this⟩
      · have hd : decide (C ≤ B) = false := decide_eq_false hc
        (refine wa_take (i := 3) (v := .bool false) rfl (by kernel_rfl) (by kernel_rfl) (by kernel_rfl) (fun _ _ _ h => h) (yi_free rfl (fun u => by go_simp)) hHeld rfl ?_; (try simp only [Act.put, List.setIfInBounds_toArray, List.set_cons_zero, List.set_cons_succ]))
        refine wpAnyH_done (by kernel_rfl) ?_ _
        clear hd
        gi_wp2
        refine round_held (S := Mem w [(gw, 3, [(n : Int)]), (g1, 34, cur1)]) (by kernel_rfl) (by rfl) (fun ⟨_, _, h⟩ => h) (HM.out.drew.sub (by exact subOf)) (fun hHeld => ?_)
        have HMd := Lib.hid HM.out.drew
        have HKo2 := Lib.hid (HKo.out.trans (KeepsOthers.drew wb))
        clear HM HKo
        have HM := HMd
        have HKo := HKo2
        clear HMd HKo2
        generalize World.drew _ = wd2 at HM HKo hHeld ⊢
        (refine wa_take (i := 0) rfl (by kernel_rfl) (by kernel_rfl) (by kernel_rfl) (fun _ _ _ h => h) (yi_free rfl (fun u => rfl)) hHeld rfl ?_; (try simp only [Act.put, List.setIfInBounds_toArray, List.set_cons_zero, List.set_cons_succ]))
        (refine wa_take (i := 1) (v := .pointer (some ⟨g1, b, none⟩)) rfl (by kernel_rfl) (by kernel_rfl) (by kernel_rfl) (fun _ _ _ h => h) (yi_free rfl (fun u => by go_simp)) hHeld rfl ?_; (try simp only [Act.put, List.setIfInBounds_toArray, List.set_cons_zero, List.set_cons_succ]))
        (refine wa_take (i := 2) rfl (by kernel_rfl) (by kernel_rfl) (by kernel_rfl) (fun _ _ _ h => h) (yi_cell rfl _ rfl rfl (H1).out) hHeld rfl ?_; (try simp only [Act.put, List.setIfInBounds_toArray, List.set_cons_zero, List.set_cons_succ]))
        (refine wa_take (i := 3) rfl (by kernel_rfl) (by kernel_rfl) (by kernel_rfl) (fun _ _ _ h => h) (yi_cell rfl _ rfl rfl (H2).out) hHeld rfl ?_; (try simp only [Act.put, List.setIfInBounds_toArray, List.set_cons_zero, List.set_cons_succ]))
        by_cases hvn : v = (n : Int)
        · have hd : (v == (n : Int)) = true := by simpa using hvn
          (refine wa_take (i := 4) (v := .bool true) rfl (by kernel_rfl) (by kernel_rfl) (by kernel_rfl) (fun _ _ _ h => h) (yi_free rfl (fun u => by go_simp)) hHeld rfl ?_; (try simp only [Act.put, List.setIfInBounds_toArray, List.set_cons_zero, List.set_cons_succ]))
          refine wpAnyH_done (by kernel_rfl) ?_ _
          have c7 := HM.out.cell (.tail _ (.tail _ (.tail _ (.head _)))) (k := b) (by rw [LC.out]; omega)
          have f7 := HM.out.free (.tail _ (.tail _ (.tail _ (.head _)))) b
          rw [HVV.out, hvn] at c7
          clear hd H1 H2 HH2 hHeld
          have HVN := Lib.hid hvn
          clear hvn
          gi_wp2
          have HM2 := HM.out.put 3 rfl b ((n : Int) - 1)
          simp only [List.set_cons_zero, List.set_cons_succ] at HM2
          have hks := HKo.out.trans (KeepsOthers.setCell wd2 ⟨g1, b, none⟩ (.int .i64 ((n : Int) - 1)))
          refine ⟨hks, hks.walks, cur1.set b ((n : Int) - 1), ok_set HO.out hb (by omega) (by omega), HM2, HK.out.keeps hks, fun k hk e => ?_⟩
          obtain ⟨j, rfl, hj, hx⟩ := std_snoc e
          obtain rfl : b = 5 - j := hx
          exact fit_take HB.out HO.out (by omega) (HV.out j (by omega) hj) (by rw [HC.out]; omega) (by rw [HVV.out, HVN.out])
        · have hd : (v == (n : Int)) = false := by simpa using hvn
          (refine wa_take (i := 4) (v := .bool false) rfl (by kernel_rfl) (by kernel_rfl) (by kernel_rfl) (fun _ _ _ h => h) (yi_free rfl (fun u => by go_simp)) hHeld rfl ?_; (try simp only [Act.put, List.setIfInBounds_toArray, List.set_cons_zero, List.set_cons_succ]))
          refine wpAnyH_done (by kernel_rfl) ?_ _
          clear hd H1 H2 HH2 hHeld
          gi_wp2
          refine ⟨HKo.out, HKo.out.walks, cur1, HO.out, HM.out, HK.out.keeps HKo.out, fun k hk e => ?_⟩
          obtain ⟨j, rfl, hj, hx⟩ := std_snoc e
          obtain rfl : b = 5 - j := hx
          exact fit_pass (by omega) (HV.out j (by omega) hj) (by rw [HVV.out]; exact hvn)
    case done =>
      have HWS := Lib.hid HM.out.1.size
      clear HK HN HLE HO HM hD
      rintro D xs W1 hDW rfl ⟨cur1, hok1, hM1, hK1, hinv⟩ hDef
      obtain ⟨hnar1, hle1⟩ := hinv 6 (by omega) rfl
      have HN := Lib.hid hnar1
      have HLE := Lib.hid hle1
      have HO := Lib.hid hok1
      have HM := Lib.hid (show Mem w [(gw, 3, [(n : Int)]), (g3, 34, zr 6), (g2, 3, [B]), (g1, 34, cur1)] W1 from hM1)
      have HK := Lib.hid (hK1.cons (fun E hE => Nat.lt_of_lt_of_le (HDL.out E hE) hDW) (Nat.le_trans HWS.out hDW) hDef)
      have c5 : W1.cell? ⟨gw, 0, none⟩ = some (.int .i64 (n : Int)) := Mem.one HM.out (.head _)
      have hn1 : 0 < (n : Int) := by omega
      have hn8 : (n : Int) ≤ 7 := by omega
      clear hok1 hM1 hK1 hinv hnar1 hle1 hDef hDW
      go_wp2_with (first | (refine wl_alloc1K rfl rfl HM ?_; clear HM; intro g5 u5 HM hko; have HK2 := Lib.hid (HK.out.keeps hko); clear HK hko; have c6 := HM.out.one (.head _); have f6 := HM.out.free (.head _) 0))
      have HM2 := (HM.out.put1 0 rfl (n : Int)).put1 0 rfl ((n : Int) - 1)
      simp only [List.set_cons_zero] at HM2
      have hks := (KeepsOthers.setCell u5 ⟨g5, 0, none⟩ (.int .i64 (n : Int))).trans (KeepsOthers.setCell _ ⟨g5, 0, none⟩ (.int .i64 ((n : Int) - 1)))
      have e : ((n - 1 : Nat) : Int) = (n : Int) - 1 := by omega
      refine ⟨n - 1, by omega, g5, D :: Ds, _, _, _, _, _, _, _, _, _, _, _, _, _, _, _, _, _, _, _, _, _, _, rfl, Lib.hid ⟨cur1, HO.out, HN.out, fun b hb => by have := (HLE.out b hb).2 (by omega); omega, by omega, ?_, HK2.out.keeps hks⟩⟩
      unfold FitM
      rw [e]
      exact HM2.sub (by exact subOf)
    case stop =>
      have HWS := Lib.hid HM.out.1.size
      clear HK HN HLE HO HM hD
      rintro D c pre W1 hDW ⟨k, hk, rfl⟩ ⟨rfl, cur1, hok1, hM1, hK1, hinv⟩ hDef
      have hcur := hinv k hk rfl
      rw [hcur] at hM1
      have HM := Lib.hid (show Mem w [(gw, 3, [(n : Int)]), (g3, 34, zr 6), (g2, 3, [B]), (g1, 34, R)] W1 from hM1)
      have HK := Lib.hid (hK1.cons (fun E hE => Nat.lt_of_lt_of_le (HDL.out E hE) hDW) (Nat.le_trans HWS.out hDW) hDef)
      clear hok1 hM1 hK1 hinv hDef hDW hcur
      refine wpIn_wide.2 ?_
      go_wp2_with (first | (refine wl_load rfl _ _ rfl rfl (by exact arrOf) HM (by exact memOf) (by exact lenOf) ?_) | (refine wl_storeK rfl _ _ _ rfl rfl rfl arrAll HM 1 rfl (by exact lenOf) LR ?_; clear HM; intro us HM hko; have HK2 := Lib.hid (HK.out.keeps hko); clear HK hko; simp only [List.set_cons_zero, List.set_cons_succ] at HM))
      refine leaves_marks (D :: Ds) _ HK2.out.1 (fun D hD => (HK2.out.2 D hD).2) fun W' hs => ?_
      have hm := Shut.mem HM.out HK2.out hs
      exact ⟨_, res_one rfl _ rfl arrAll (Lib.hid hm) (by exact memOf) LR, rfl, hm.1⟩
end Go.Proofs.YtcnckamocbaceaaDoor.Lp
/- Wh -/
namespace Go.Proofs.YtcnckamocbaceaaDoor.Lp
open Go.RowKit Go.Proofs.YtcnckamocbaceaaDoor.Fx Go.Proofs.YtcnckamocbaceaaDoor.Fq Go.Proofs.YtcnckamocbaceaaDoor.Tb
/-- what Share answers -/
def shareV (l : List Int) (B : Int) : Value := if chkL l = true ∧ 0 ≤ B then .tuple #[.agg (icells (shareL l B)), .int .i64 0] else .tuple #[.agg (icells (zr 6)), .int .i64 1]
set_option maxRecDepth 100000 in
set_option maxHeartbeats 4000000 in
theorem share_bad1 (l : List Int) (B : Int) (w : World) (ll : l.length = 6) (hc : chkL l = false) :
    Calls Tryd.prog 30 #[.agg (icells l), .int .i64 B] w (ValQ w (.tuple #[.agg (icells (zr 6)), .int .i64 1])) := by
  have LL := Lib.hid ll
  have LZ := Lib.hid (zr_length 6)
  have HM := Lib.hid (Mem.start w)
  have HC := Lib.hid (fun u => mask_bad l u ll hc)
  clear ll hc
  go_enter Tryd.func30, Tryd.ntmps30
  go_wp2_with (first | ((first | refine wl_box rfl _ _ rfl rfl HM ?_ | refine wl_alloc rfl _ rfl (by exact arrOf) HM ?_); first | (have q : dL HM = 0 := rfl; clear q HM; intro g1 u1 HM) | (have q : dL HM = 1 := rfl; clear q HM; intro g2 u2 HM) | (have q : dL HM = 2 := rfl; clear q HM; intro g3 u3 HM) | (have q : dL HM = 3 := rfl; clear q HM; intro g4 u4 HM) | (have q : dL HM = 4 := rfl; clear q HM; intro g5 u5 HM) | (have q : dL HM = 5 := rfl; clear q HM; intro g6 u6 HM) | (have q : dL HM = 6 := rfl; clear q HM; intro g7 u7 HM) | (have q : dL HM = 7 := rfl; clear q HM; intro g8 u8 HM) | (have q : dL HM = 8 := rfl; clear q HM; intro g9 u9 HM) | (have q : dL HM = 9 := rfl; clear q HM; intro g10 u10 HM) | (have q : dL HM = 10 := rfl; clear q HM; intro g11 u11 HM) | (have q : dL HM = 11 := rfl; clear q HM; intro g12 u12 HM) | (have q : dL HM = 12 := rfl; clear q HM; intro g13 u13 HM) | (have q : dL HM = 13 := rfl; clear q HM; intro g14 u14 HM)) | (refine wl_load rfl _ _ rfl rfl (by exact arrOf) HM (by exact memOf) (by exact lenOf) ?_) | (refine wl_storeM rfl _ _ _ rfl rfl rfl (by exact arrOf) HM (by exact idxOf) (by exact lenOf) (by exact lenOf) ?_; clear HM; intro us HM; dsimp only [List.set] at HM) | (refine wl_zero rfl _ rfl (by exact arrOf) (by kernel_rfl) ?_))
  refine (HC.out _).mono ?_
  rintro e w2 ⟨rfl, h1⟩
  have HM2 := Lib.hid (HM.out.below h1)
  clear h1 HM HC
  have HM := HM2
  clear HM2
  go_wp2_with (first | ((first | refine wl_box rfl _ _ rfl rfl HM ?_ | refine wl_alloc rfl _ rfl (by exact arrOf) HM ?_); first | (have q : dL HM = 0 := rfl; clear q HM; intro g1 u1 HM) | (have q : dL HM = 1 := rfl; clear q HM; intro g2 u2 HM) | (have q : dL HM = 2 := rfl; clear q HM; intro g3 u3 HM) | (have q : dL HM = 3 := rfl; clear q HM; intro g4 u4 HM) | (have q : dL HM = 4 := rfl; clear q HM; intro g5 u5 HM) | (have q : dL HM = 5 := rfl; clear q HM; intro g6 u6 HM) | (have q : dL HM = 6 := rfl; clear q HM; intro g7 u7 HM) | (have q : dL HM = 7 := rfl; clear q HM; intro g8 u8 HM) | (have q : dL HM = 8 := rfl; clear q HM; intro g9 u9 HM) | (have q : dL HM = 9 := rfl; clear q HM; intro g10 u10 HM) | (have q : dL HM = 10 := rfl; clear q HM; intro g11 u11 HM) | (have q : dL HM = 11 := rfl; clear q HM; intro g12 u12 HM) | (have q : dL HM = 12 := rfl; clear q HM; intro g13 u13 HM) | (have q : dL HM = 13 := rfl; clear q HM; intro g14 u14 HM)) | (refine wl_load rfl _ _ rfl rfl (by exact arrOf) HM (by exact memOf) (by exact lenOf) ?_) | (refine wl_storeM rfl _ _ _ rfl rfl rfl (by exact arrOf) HM (by exact idxOf) (by exact lenOf) (by exact lenOf) ?_; clear HM; intro us HM; dsimp only [List.set] at HM) | (refine wl_zero rfl _ rfl (by exact arrOf) (by kernel_rfl) ?_))
  refine bodyPost_ret (v := .tuple #[.agg (icells (zr 6)), .int .i64 1]) (res_two rfl _ rfl rfl arrAll HM (by exact memOf) LZ) rfl ⟨rfl, HM.out.1⟩
set_option maxRecDepth 100000 in
set_option maxHeartbeats 4000000 in
theorem share_bad2 (l : List Int) (B : Int) (w : World) (ll : l.length = 6) (hc : chkL l = true) (hB : B < 0) :
    Calls Tryd.prog 30 #[.agg (icells l), .int .i64 B] w (ValQ w (.tuple #[.agg (icells (zr 6)), .int .i64 1])) := by
  have LL := Lib.hid ll
  have LZ := Lib.hid (zr_length 6)
  have LM := Lib.hid (maskL_length l)
  have HM := Lib.hid (Mem.start w)
  have HC := Lib.hid (fun u => mask_good l u ll hc)
  generalize maskL l = m at HC LM
  clear ll hc
  go_enter Tryd.func30, Tryd.ntmps30
  go_wp2_with (first | ((first | refine wl_box rfl _ _ rfl rfl HM ?_ | refine wl_alloc rfl _ rfl (by exact arrOf) HM ?_); first | (have q : dL HM = 0 := rfl; clear q HM; intro g1 u1 HM) | (have q : dL HM = 1 := rfl; clear q HM; intro g2 u2 HM) | (have q : dL HM = 2 := rfl; clear q HM; intro g3 u3 HM) | (have q : dL HM = 3 := rfl; clear q HM; intro g4 u4 HM) | (have q : dL HM = 4 := rfl; clear q HM; intro g5 u5 HM) | (have q : dL HM = 5 := rfl; clear q HM; intro g6 u6 HM) | (have q : dL HM = 6 := rfl; clear q HM; intro g7 u7 HM) | (have q : dL HM = 7 := rfl; clear q HM; intro g8 u8 HM) | (have q : dL HM = 8 := rfl; clear q HM; intro g9 u9 HM) | (have q : dL HM = 9 := rfl; clear q HM; intro g10 u10 HM) | (have q : dL HM = 10 := rfl; clear q HM; intro g11 u11 HM) | (have q : dL HM = 11 := rfl; clear q HM; intro g12 u12 HM) | (have q : dL HM = 12 := rfl; clear q HM; intro g13 u13 HM) | (have q : dL HM = 13 := rfl; clear q HM; intro g14 u14 HM)) | (refine wl_load rfl _ _ rfl rfl (by exact arrOf) HM (by exact memOf) (by exact lenOf) ?_) | (refine wl_storeM rfl _ _ _ rfl rfl rfl (by exact arrOf) HM (by exact idxOf) (by exact lenOf) (by exact lenOf) ?_; clear HM; intro us HM; dsimp only [List.set] at HM) | (refine wl_zero rfl _ rfl (by exact arrOf) (by kernel_rfl) ?_))
  refine (HC.out _).mono ?_
  rintro e w2 ⟨rfl, h1⟩
  have HM2 := Lib.hid (HM.out.below h1)
  clear h1 HM HC
  have HM := HM2
  clear HM2
  go_wp2_with (first | ((first | refine wl_box rfl _ _ rfl rfl HM ?_ | refine wl_alloc rfl _ rfl (by exact arrOf) HM ?_); first | (have q : dL HM = 0 := rfl; clear q HM; intro g1 u1 HM) | (have q : dL HM = 1 := rfl; clear q HM; intro g2 u2 HM) | (have q : dL HM = 2 := rfl; clear q HM; intro g3 u3 HM) | (have q : dL HM = 3 := rfl; clear q HM; intro g4 u4 HM) | (have q : dL HM = 4 := rfl; clear q HM; intro g5 u5 HM) | (have q : dL HM = 5 := rfl; clear q HM; intro g6 u6 HM) | (have q : dL HM = 6 := rfl; clear q HM; intro g7 u7 HM) | (have q : dL HM = 7 := rfl; clear q HM; intro g8 u8 HM) | (have q : dL HM = 8 := rfl; clear q HM; intro g9 u9 HM) | (have q : dL HM = 9 := rfl; clear q HM; intro g10 u10 HM) | (have q : dL HM = 10 := rfl; clear q HM; intro g11 u11 HM) | (have q : dL HM = 11 := rfl; clear q HM; intro g12 u12 HM) | (have q : dL HM = 12 := rfl; clear q HM; intro g13 u13 HM) | (have q : dL HM = 13 := rfl; clear q HM; intro g14 u14 HM)) | (refine wl_load rfl _ _ rfl rfl (by exact arrOf) HM (by exact memOf) (by exact lenOf) ?_) | (refine wl_storeM rfl _ _ _ rfl rfl rfl (by exact arrOf) HM (by exact idxOf) (by exact lenOf) (by exact lenOf) ?_; clear HM; intro us HM; dsimp only [List.set] at HM) | (refine wl_zero rfl _ rfl (by exact arrOf) (by kernel_rfl) ?_))
  refine bodyPost_ret (v := .tuple #[.agg (icells (zr 6)), .int .i64 1]) (res_two rfl _ rfl rfl arrAll HM (by exact memOf) LZ) rfl ⟨rfl, HM.out.1⟩
set_option maxRecDepth 100000 in
set_option maxHeartbeats 8000000 in
theorem share_good (l : List Int) (B : Int) (w : World) (ll : l.length = 6) (hc : chkL l = true) (hB : 0 ≤ B) (he : Edg w) :
    Calls Tryd.prog 30 #[.agg (icells l), .int .i64 B] w (ValQ w (.tuple #[.agg (icells (shareL l B)), .int .i64 0])) := by
  have LL := Lib.hid ll
  have HE := Lib.hid he
  have LZ := Lib.hid (zr_length 6)
  have LM := Lib.hid (maskL_length l)
  have LS := Lib.hid (share_ok l hB).1.1
  have HM := Lib.hid (Mem.start w)
  have HC := Lib.hid (fun u => mask_good l u ll hc)
  have HF := Lib.hid (fun u (hu : Edg u) => fit_any (wishL l (maskL l)) B u (wish_ok _ _) hB hu)
  rw [show narL 42 (wishL l (maskL l)) B = shareL l B from rfl] at HF
  have HL := Lib.hid (fun k => inR_bd hc (by omega) (by omega) k)
  have HB := Lib.hid (fun (k : Nat) (hk : k < 6) => mask_bd hc hk)
  obtain ⟨m, hm⟩ : ∃ m, maskL l = m := ⟨_, rfl⟩
  rw [hm] at HC LM HB HF
  clear ll hc he hm
  go_enter Tryd.func30, Tryd.ntmps30
  go_wp2_with (first | ((first | refine wl_box rfl _ _ rfl rfl HM ?_ | refine wl_alloc rfl _ rfl (by exact arrOf) HM ?_); first | (have q : dL HM = 0 := rfl; clear q HM; intro g1 u1 HM) | (have q : dL HM = 1 := rfl; clear q HM; intro g2 u2 HM) | (have q : dL HM = 2 := rfl; clear q HM; intro g3 u3 HM) | (have q : dL HM = 3 := rfl; clear q HM; intro g4 u4 HM) | (have q : dL HM = 4 := rfl; clear q HM; intro g5 u5 HM) | (have q : dL HM = 5 := rfl; clear q HM; intro g6 u6 HM) | (have q : dL HM = 6 := rfl; clear q HM; intro g7 u7 HM) | (have q : dL HM = 7 := rfl; clear q HM; intro g8 u8 HM) | (have q : dL HM = 8 := rfl; clear q HM; intro g9 u9 HM) | (have q : dL HM = 9 := rfl; clear q HM; intro g10 u10 HM) | (have q : dL HM = 10 := rfl; clear q HM; intro g11 u11 HM) | (have q : dL HM = 11 := rfl; clear q HM; intro g12 u12 HM) | (have q : dL HM = 12 := rfl; clear q HM; intro g13 u13 HM) | (have q : dL HM = 13 := rfl; clear q HM; intro g14 u14 HM)) | (refine wl_load rfl _ _ rfl rfl (by exact arrOf) HM (by exact memOf) (by exact lenOf) ?_) | (refine wl_storeM rfl _ _ _ rfl rfl rfl (by exact arrOf) HM (by exact idxOf) (by exact lenOf) (by exact lenOf) ?_; clear HM; intro us HM; dsimp only [List.set] at HM) | (refine wl_zero rfl _ rfl (by exact arrOf) (by kernel_rfl) ?_))
  refine (HC.out _).mono ?_
  rintro e w2 ⟨rfl, h1⟩
  have HM2 := Lib.hid (HM.out.below h1)
  clear h1 HM HC
  have HM := HM2
  clear HM2
  go_wp2_with (first | ((first | refine wl_box rfl _ _ rfl rfl HM ?_ | refine wl_alloc rfl _ rfl (by exact arrOf) HM ?_); first | (have q : dL HM = 0 := rfl; clear q HM; intro g1 u1 HM) | (have q : dL HM = 1 := rfl; clear q HM; intro g2 u2 HM) | (have q : dL HM = 2 := rfl; clear q HM; intro g3 u3 HM) | (have q : dL HM = 3 := rfl; clear q HM; intro g4 u4 HM) | (have q : dL HM = 4 := rfl; clear q HM; intro g5 u5 HM) | (have q : dL HM = 5 := rfl; clear q HM; intro g6 u6 HM) | (have q : dL HM = 6 := rfl; clear q HM; intro g7 u7 HM) | (have q : dL HM = 7 := rfl; clear q HM; intro g8 u8 HM) | (have q : dL HM = 8 := rfl; clear q HM; intro g9 u9 HM) | (have q : dL HM = 9 := rfl; clear q HM; intro g10 u10 HM) | (have q : dL HM = 10 := rfl; clear q HM; intro g11 u11 HM) | (have q : dL HM = 11 := rfl; clear q HM; intro g12 u12 HM) | (have q : dL HM = 12 := rfl; clear q HM; intro g13 u13 HM) | (have q : dL HM = 13 := rfl; clear q HM; intro g14 u14 HM)) | (refine wl_load rfl _ _ rfl rfl (by exact arrOf) HM (by exact memOf) (by exact lenOf) ?_) | (refine wl_storeM rfl _ _ _ rfl rfl rfl (by exact arrOf) HM (by exact idxOf) (by exact lenOf) (by exact lenOf) ?_; clear HM; intro us HM; dsimp only [List.set] at HM) | (refine wl_zero rfl _ rfl (by exact arrOf) (by kernel_rfl) ?_))
  go_loopw [22] (fun vi wr => ∃ k : Nat, k ≤ 6 ∧ vi = .int .i64 (k : Int) ∧ Hid (Mem w [(g4, 34, tab 6 (part2 k (fun b => wishI (l.getD b 0) (m.getD b 0)) (fun _ => 0))), (g3, 32, m), (g2, 34, zr 6), (g1, 32, l)] wr)) (fun vi _ => 6 - (intOf vi).toNat)
  case atStart => exact ⟨0, by omega, rfl, Lib.hid (by rw [part2_none, tab_zero]; exact HM.out)⟩
  case round =>
    clear HM
    obtain ⟨k, hk, rfl, HM⟩ := hrel
    by_cases hlt : k < 6
    · have k6 : (k : Int) < 6 := by omega
      have S1 := Lib.hid (part2_set (n := 6) (k := k) (fun b => wishI (l.getD b 0) (m.getD b 0)) (fun _ => 0))
      have H1 := Lib.hid (fun (u : World) (hu : Mem w [(g3, 32, m), (g1, 32, l)] u) => hu.cell (.tail _ (.head _)) (k := k) (by rw [LL.out]; exact hlt))
      have H2 := Lib.hid (fun (u : World) (hu : Mem w [(g3, 32, m), (g1, 32, l)] u) => hu.cell (.head _) (k := k) (by rw [LM.out]; exact hlt))
      have HW := Lib.hid (fun u => wished_any (l.getD k 0) (m.getD k 0) u (HL.out k).1 (HL.out k).2 (HB.out k hlt).1 (HB.out k hlt).2)
      generalize l.getD k 0 = x at H1 HW S1
      generalize m.getD k 0 = y at H2 HW S1
      generalize wishI x y = z at HW S1
      go_wp2_with fail
      refine wp_region_held_drew (S := Mem w [(g3, 32, m), (g1, 32, l)]) (by kernel_rfl) (HM.out.drew.sub (by exact subOf)) (fun hHeld => ?_)
      have HMd := Lib.hid HM.out.drew
      clear HM
      have HM := HMd
      clear HMd
      generalize World.drew _ = wd at HM hHeld ⊢
      (refine wa_take (i := 0) rfl (by kernel_rfl) (by kernel_rfl) (by kernel_rfl) (fun _ _ _ h => h) (yi_free rfl (fun u => rfl)) hHeld rfl ?_; (try simp only [Act.put, List.setIfInBounds_toArray, List.set_cons_zero, List.set_cons_succ]))
      (refine wa_take (i := 1) rfl (by kernel_rfl) (by kernel_rfl) (by kernel_rfl) (fun _ _ _ h => h) (yi_free rfl (fun u => rfl)) hHeld rfl ?_; (try simp only [Act.put, List.setIfInBounds_toArray, List.set_cons_zero, List.set_cons_succ]))
      (refine wa_take (i := 2) (v := .pointer (some ⟨g1, k, none⟩)) rfl (by kernel_rfl) (by kernel_rfl) (by kernel_rfl) (fun _ _ _ h => h) (yi_free rfl (fun u => by go_simp)) hHeld rfl ?_; (try simp only [Act.put, List.setIfInBounds_toArray, List.set_cons_zero, List.set_cons_succ]))
      (refine wa_take (i := 3) rfl (by kernel_rfl) (by kernel_rfl) (by kernel_rfl) (fun _ _ _ h => h) (yi_cell rfl _ rfl rfl (H1).out) hHeld rfl ?_; (try simp only [Act.put, List.setIfInBounds_toArray, List.set_cons_zero, List.set_cons_succ]))
      (refine wa_take (i := 4) rfl (by kernel_rfl) (by kernel_rfl) (by kernel_rfl) (fun _ _ _ h => h) (yi_free rfl (fun u => rfl)) hHeld rfl ?_; (try simp only [Act.put, List.setIfInBounds_toArray, List.set_cons_zero, List.set_cons_succ]))
      (refine wa_take (i := 5) (v := .pointer (some ⟨g3, k, none⟩)) rfl (by kernel_rfl) (by kernel_rfl) (by kernel_rfl) (fun _ _ _ h => h) (yi_free rfl (fun u => by go_simp)) hHeld rfl ?_; (try simp only [Act.put, List.setIfInBounds_toArray, List.set_cons_zero, List.set_cons_succ]))
      (refine wa_take (i := 6) rfl (by kernel_rfl) (by kernel_rfl) (by kernel_rfl) (fun _ _ _ h => h) (yi_cell rfl _ rfl rfl (H2).out) hHeld rfl ?_; (try simp only [Act.put, List.setIfInBounds_toArray, List.set_cons_zero, List.set_cons_succ]))
      refine wpAnyH_ready (rs := [7]) (by kernel_rfl) (by simp) ?_; refine AllReadyH.cons rfl (fun K hK => ?_) (AllReadyH.nil)
      rw [if_pos (by rfl)]; go_simp
      refine (HW.out _).mono ?_
      rintro e wb ⟨rfl, rfl⟩
      clear hHeld
      go_wp2_with fail; refine hK.out _ _ (HM.out.sub (by exact subOf)) (fun hHeld => ?_); clear hK K; (try simp only [Act.put, List.setIfInBounds_toArray, List.set_cons_zero, List.set_cons_succ])
      (refine wa_take (i := 8) (v := .pointer (some ⟨g4, k, none⟩)) rfl (by kernel_rfl) (by kernel_rfl) (by kernel_rfl) (fun _ _ _ h => h) (yi_free rfl (fun u => by go_simp)) hHeld rfl ?_; (try simp only [Act.put, List.setIfInBounds_toArray, List.set_cons_zero, List.set_cons_succ]))
      have c1 := HM.out.cell (.head _) (k := k) (by rw [tab_length]; exact hlt)
      have f1 := HM.out.free (.head _) k
      generalize List.getD (tab 6 _) k 0 = o at c1
      refine wpAnyH_ready (rs := [9]) (by kernel_rfl) (by simp) ?_; refine AllReadyH.cons rfl (fun K hK => ?_) (AllReadyH.nil)
      rw [if_pos (by rfl)]; go_simp
      have HM3 := Lib.hid (HM.out.put 0 rfl k z)
      simp only [List.set_cons_zero] at HM3
      rw [S1.out] at HM3
      clear HM c1 f1 hHeld
      have HM := HM3
      clear HM3
      go_wp2_with fail; refine hK.out _ _ (HM.out.sub (by exact subOf)) (fun hHeld => ?_); clear hK K; (try simp only [Act.put, List.setIfInBounds_toArray, List.set_cons_zero, List.set_cons_succ])
      refine wpAnyH_done (by kernel_rfl) ?_ _
      clear H1 H2
      go_wp2
      go_roundw
      case rel => exact ⟨k + 1, by omega, by go_num, HM⟩
      case measure => simp [intOf]; omega
    · obtain rfl : k = 6 := by omega
      rw [part2_all] at HM
      change Hid (Mem w [(g4, 34, wishL l m), (g3, 32, m), (g2, 34, zr 6), (g1, 32, l)] wr) at HM
      have LW := Lib.hid (show (wishL l m).length = 6 from tab_length _ _)
      go_wp2_with (first | ((first | refine wl_box rfl _ _ rfl rfl HM ?_ | refine wl_alloc rfl _ rfl (by exact arrOf) HM ?_); first | (have q : dL HM = 0 := rfl; clear q HM; intro g1 u1 HM) | (have q : dL HM = 1 := rfl; clear q HM; intro g2 u2 HM) | (have q : dL HM = 2 := rfl; clear q HM; intro g3 u3 HM) | (have q : dL HM = 3 := rfl; clear q HM; intro g4 u4 HM) | (have q : dL HM = 4 := rfl; clear q HM; intro g5 u5 HM) | (have q : dL HM = 5 := rfl; clear q HM; intro g6 u6 HM) | (have q : dL HM = 6 := rfl; clear q HM; intro g7 u7 HM) | (have q : dL HM = 7 := rfl; clear q HM; intro g8 u8 HM) | (have q : dL HM = 8 := rfl; clear q HM; intro g9 u9 HM) | (have q : dL HM = 9 := rfl; clear q HM; intro g10 u10 HM) | (have q : dL HM = 10 := rfl; clear q HM; intro g11 u11 HM) | (have q : dL HM = 11 := rfl; clear q HM; intro g12 u12 HM) | (have q : dL HM = 12 := rfl; clear q HM; intro g13 u13 HM) | (have q : dL HM = 13 := rfl; clear q HM; intro g14 u14 HM)) | (refine wl_load rfl _ _ rfl rfl (by exact arrOf) HM (by exact memOf) (by exact lenOf) ?_) | (refine wl_storeM rfl _ _ _ rfl rfl rfl (by exact arrOf) HM (by exact idxOf) (by exact lenOf) (by exact lenOf) ?_; clear HM; intro us HM; dsimp only [List.set] at HM) | (refine wl_zero rfl _ rfl (by exact arrOf) (by kernel_rfl) ?_))
      refine (HF.out _ (HE.out.mem HM.out)).mono ?_
      rintro e w2 ⟨rfl, h1⟩
      have HM2 := Lib.hid (HM.out.below h1)
      clear h1 HM HF
      have HM := HM2
      clear HM2
      go_wp2_with (first | ((first | refine wl_box rfl _ _ rfl rfl HM ?_ | refine wl_alloc rfl _ rfl (by exact arrOf) HM ?_); first | (have q : dL HM = 0 := rfl; clear q HM; intro g1 u1 HM) | (have q : dL HM = 1 := rfl; clear q HM; intro g2 u2 HM) | (have q : dL HM = 2 := rfl; clear q HM; intro g3 u3 HM) | (have q : dL HM = 3 := rfl; clear q HM; intro g4 u4 HM) | (have q : dL HM = 4 := rfl; clear q HM; intro g5 u5 HM) | (have q : dL HM = 5 := rfl; clear q HM; intro g6 u6 HM) | (have q : dL HM = 6 := rfl; clear q HM; intro g7 u7 HM) | (have q : dL HM = 7 := rfl; clear q HM; intro g8 u8 HM) | (have q : dL HM = 8 := rfl; clear q HM; intro g9 u9 HM) | (have q : dL HM = 9 := rfl; clear q HM; intro g10 u10 HM) | (have q : dL HM = 10 := rfl; clear q HM; intro g11 u11 HM) | (have q : dL HM = 11 := rfl; clear q HM; intro g12 u12 HM) | (have q : dL HM = 12 := rfl; clear q HM; intro g13 u13 HM) | (have q : dL HM = 13 := rfl; clear q HM; intro g14 u14 HM)) | (refine wl_load rfl _ _ rfl rfl (by exact arrOf) HM (by exact memOf) (by exact lenOf) ?_) | (refine wl_storeM rfl _ _ _ rfl rfl rfl (by exact arrOf) HM (by exact idxOf) (by exact lenOf) (by exact lenOf) ?_; clear HM; intro us HM; dsimp only [List.set] at HM) | (refine wl_zero rfl _ rfl (by exact arrOf) (by kernel_rfl) ?_))
      refine bodyPost_ret (v := .tuple #[.agg (icells (shareL l B)), .int .i64 0]) (res_two rfl _ rfl rfl arrAll HM (by exact memOf) LS) rfl ⟨rfl, HM.out.1⟩
theorem bshare_any (l : List Int) (B : Int) (w : World) (ll : l.length = 6) (he : Edg w) : Calls Tryd.prog 30 #[.agg (icells l), .int .i64 B] w (ValQ w (shareV l B)) := by
  unfold shareV
  by_cases h : chkL l = true
  · by_cases hB : 0 ≤ B
    · rw [if_pos ⟨h, hB⟩]; exact share_good l B w ll h hB he
    · rw [if_neg (fun k => hB k.2)]; exact share_bad2 l B w ll h (by omega)
  · rw [if_neg (fun k => h k.1)]; exact share_bad1 l B w ll (by simpa using h)
end Go.Proofs.YtcnckamocbaceaaDoor.Lp
/- Wi -/
namespace Go.Proofs.YtcnckamocbaceaaDoor.Lp
open Go.RowKit Go.Proofs.YtcnckamocbaceaaDoor.Fx Go.Proofs.YtcnckamocbaceaaDoor.Fq Go.Proofs.YtcnckamocbaceaaDoor.Tb
def x2 : List Int := 0 :: 1048576 :: List.replicate 14 0
def m2 : List Int := [0, 161, 0, 0, 0, 0]
def a2 : List Int := [0, 7, 0, 0, 0, 0]
theorem meas_zero : measL (zr 16) = zr 6 := by decide +kernel
theorem meas_x2 : measL x2 = m2 := by decide +kernel
theorem okX_x2 : okX x2 = true := by decide +kernel
theorem chk_m2 : chkL m2 = true := by decide +kernel
theorem share_m2 : shareL m2 100 = a2 := by decide +kernel
theorem x2_length : x2.length = 16 := by decide
end Go.Proofs.YtcnckamocbaceaaDoor.Lp
/- Wp -/
namespace Go.Proofs.YtcnckamocbaceaaDoor.Lp
open Go.RowKit Go.Proofs.YtcnckamocbaceaaDoor.Fx Go.Proofs.YtcnckamocbaceaaDoor.Fq Go.Proofs.YtcnckamocbaceaaDoor.Tb
set_option maxRecDepth 100000 in
set_option maxHeartbeats 4000000 in
theorem rmask_bad (l : List Int) (w : World) (ll : l.length = 6) (hc : chkL l = false) :
    Calls Tryd.prog 61 #[.agg (icells l)] w (ValQ w (.tuple #[.agg (icells (zr 6)), .int .i64 1])) := by
  have LL := Lib.hid ll
  have LZ := Lib.hid (zr_length 6)
  have HM := Lib.hid (Mem.start w)
  have HC := Lib.hid (fun u => rbcheck_any l false 1 u ll hc rfl)
  clear ll hc
  go_enter Tryd.func61, Tryd.ntmps61
  go_wp2_with (first | ((first | refine wl_box rfl _ _ rfl rfl HM ?_ | refine wl_alloc rfl _ rfl (by exact arrOf) HM ?_); first | (have q : dL HM = 0 := rfl; clear q HM; intro g1 u1 HM) | (have q : dL HM = 1 := rfl; clear q HM; intro g2 u2 HM) | (have q : dL HM = 2 := rfl; clear q HM; intro g3 u3 HM) | (have q : dL HM = 3 := rfl; clear q HM; intro g4 u4 HM) | (have q : dL HM = 4 := rfl; clear q HM; intro g5 u5 HM) | (have q : dL HM = 5 := rfl; clear q HM; intro g6 u6 HM) | (have q : dL HM = 6 := rfl; clear q HM; intro g7 u7 HM) | (have q : dL HM = 7 := rfl; clear q HM; intro g8 u8 HM) | (have q : dL HM = 8 := rfl; clear q HM; intro g9 u9 HM) | (have q : dL HM = 9 := rfl; clear q HM; intro g10 u10 HM) | (have q : dL HM = 10 := rfl; clear q HM; intro g11 u11 HM) | (have q : dL HM = 11 := rfl; clear q HM; intro g12 u12 HM) | (have q : dL HM = 12 := rfl; clear q HM; intro g13 u13 HM) | (have q : dL HM = 13 := rfl; clear q HM; intro g14 u14 HM)) | (refine wl_load rfl _ _ rfl rfl (by exact arrOf) HM (by exact memOf) (by exact lenOf) ?_) | (refine wl_storeM rfl _ _ _ rfl rfl rfl (by exact arrOf) HM (by exact idxOf) (by exact lenOf) (by exact lenOf) ?_; clear HM; intro us HM; dsimp only [List.set] at HM) | (refine wl_zero rfl _ rfl (by exact arrOf) (by kernel_rfl) ?_))
  refine (HC.out _).mono ?_
  rintro e w2 ⟨rfl, h1⟩
  have HM2 := Lib.hid (HM.out.below h1)
  clear h1 HM HC
  have HM := HM2
  clear HM2
  go_wp2_with (first | ((first | refine wl_box rfl _ _ rfl rfl HM ?_ | refine wl_alloc rfl _ rfl (by exact arrOf) HM ?_); first | (have q : dL HM = 0 := rfl; clear q HM; intro g1 u1 HM) | (have q : dL HM = 1 := rfl; clear q HM; intro g2 u2 HM) | (have q : dL HM = 2 := rfl; clear q HM; intro g3 u3 HM) | (have q : dL HM = 3 := rfl; clear q HM; intro g4 u4 HM) | (have q : dL HM = 4 := rfl; clear q HM; intro g5 u5 HM) | (have q : dL HM = 5 := rfl; clear q HM; intro g6 u6 HM) | (have q : dL HM = 6 := rfl; clear q HM; intro g7 u7 HM) | (have q : dL HM = 7 := rfl; clear q HM; intro g8 u8 HM) | (have q : dL HM = 8 := rfl; clear q HM; intro g9 u9 HM) | (have q : dL HM = 9 := rfl; clear q HM; intro g10 u10 HM) | (have q : dL HM = 10 := rfl; clear q HM; intro g11 u11 HM) | (have q : dL HM = 11 := rfl; clear q HM; intro g12 u12 HM) | (have q : dL HM = 12 := rfl; clear q HM; intro g13 u13 HM) | (have q : dL HM = 13 := rfl; clear q HM; intro g14 u14 HM)) | (refine wl_load rfl _ _ rfl rfl (by exact arrOf) HM (by exact memOf) (by exact lenOf) ?_) | (refine wl_storeM rfl _ _ _ rfl rfl rfl (by exact arrOf) HM (by exact idxOf) (by exact lenOf) (by exact lenOf) ?_; clear HM; intro us HM; dsimp only [List.set] at HM) | (refine wl_zero rfl _ rfl (by exact arrOf) (by kernel_rfl) ?_))
  refine bodyPost_ret (v := .tuple #[.agg (icells (zr 6)), .int .i64 1]) (res_two rfl _ rfl rfl arrLev HM (by exact memOf) LZ) rfl ⟨rfl, HM.out.1⟩
set_option maxRecDepth 100000 in
set_option maxHeartbeats 8000000 in
theorem rmask_good (l : List Int) (w : World) (ll : l.length = 6) (hc : chkL l = true) :
    Calls Tryd.prog 61 #[.agg (icells l)] w (ValQ w (.tuple #[.agg (icells (maskL l)), .int .i64 0])) := by
  have LL := Lib.hid ll
  have LZ := Lib.hid (zr_length 6)
  have HCC := Lib.hid hc
  have HM := Lib.hid (Mem.start w)
  have HC := Lib.hid (fun u => rbcheck_any l true 0 u ll hc rfl)
  clear ll hc
  go_enter Tryd.func61, Tryd.ntmps61
  go_wp2_with (first | ((first | refine wl_box rfl _ _ rfl rfl HM ?_ | refine wl_alloc rfl _ rfl (by exact arrOf) HM ?_); first | (have q : dL HM = 0 := rfl; clear q HM; intro g1 u1 HM) | (have q : dL HM = 1 := rfl; clear q HM; intro g2 u2 HM) | (have q : dL HM = 2 := rfl; clear q HM; intro g3 u3 HM) | (have q : dL HM = 3 := rfl; clear q HM; intro g4 u4 HM) | (have q : dL HM = 4 := rfl; clear q HM; intro g5 u5 HM) | (have q : dL HM = 5 := rfl; clear q HM; intro g6 u6 HM) | (have q : dL HM = 6 := rfl; clear q HM; intro g7 u7 HM) | (have q : dL HM = 7 := rfl; clear q HM; intro g8 u8 HM) | (have q : dL HM = 8 := rfl; clear q HM; intro g9 u9 HM) | (have q : dL HM = 9 := rfl; clear q HM; intro g10 u10 HM) | (have q : dL HM = 10 := rfl; clear q HM; intro g11 u11 HM) | (have q : dL HM = 11 := rfl; clear q HM; intro g12 u12 HM) | (have q : dL HM = 12 := rfl; clear q HM; intro g13 u13 HM) | (have q : dL HM = 13 := rfl; clear q HM; intro g14 u14 HM)) | (refine wl_load rfl _ _ rfl rfl (by exact arrOf) HM (by exact memOf) (by exact lenOf) ?_) | (refine wl_storeM rfl _ _ _ rfl rfl rfl (by exact arrOf) HM (by exact idxOf) (by exact lenOf) (by exact lenOf) ?_; clear HM; intro us HM; dsimp only [List.set] at HM) | (refine wl_zero rfl _ rfl (by exact arrOf) (by kernel_rfl) ?_))
  refine (HC.out _).mono ?_
  rintro e w2 ⟨rfl, h1⟩
  have HM2 := Lib.hid (HM.out.below h1)
  clear h1 HM HC
  have HM := HM2
  clear HM2
  go_wp2_with (first | ((first | refine wl_box rfl _ _ rfl rfl HM ?_ | refine wl_alloc rfl _ rfl (by exact arrOf) HM ?_); first | (have q : dL HM = 0 := rfl; clear q HM; intro g1 u1 HM) | (have q : dL HM = 1 := rfl; clear q HM; intro g2 u2 HM) | (have q : dL HM = 2 := rfl; clear q HM; intro g3 u3 HM) | (have q : dL HM = 3 := rfl; clear q HM; intro g4 u4 HM) | (have q : dL HM = 4 := rfl; clear q HM; intro g5 u5 HM) | (have q : dL HM = 5 := rfl; clear q HM; intro g6 u6 HM) | (have q : dL HM = 6 := rfl; clear q HM; intro g7 u7 HM) | (have q : dL HM = 7 := rfl; clear q HM; intro g8 u8 HM) | (have q : dL HM = 8 := rfl; clear q HM; intro g9 u9 HM) | (have q : dL HM = 9 := rfl; clear q HM; intro g10 u10 HM) | (have q : dL HM = 10 := rfl; clear q HM; intro g11 u11 HM) | (have q : dL HM = 11 := rfl; clear q HM; intro g12 u12 HM) | (have q : dL HM = 12 := rfl; clear q HM; intro g13 u13 HM) | (have q : dL HM = 13 := rfl; clear q HM; intro g14 u14 HM)) | (refine wl_load rfl _ _ rfl rfl (by exact arrOf) HM (by exact memOf) (by exact lenOf) ?_) | (refine wl_storeM rfl _ _ _ rfl rfl rfl (by exact arrOf) HM (by exact idxOf) (by exact lenOf) (by exact lenOf) ?_; clear HM; intro us HM; dsimp only [List.set] at HM) | (refine wl_zero rfl _ rfl (by exact arrOf) (by kernel_rfl) ?_))
  go_loopw [13] (fun vi wr => ∃ b : Nat, b ≤ 6 ∧ vi = .int .i64 (b : Int) ∧ Hid (Mem w [(g3, 32, tab 6 (part2 b (fun b => mkN l b 6) (fun _ => 0))), (g2, 32, zr 6), (g1, 32, l)] wr)) (fun vi _ => 6 - (intOf vi).toNat)
  case atStart => exact ⟨0, by omega, rfl, Lib.hid (by rw [part2_none, tab_zero]; exact HM.out)⟩
  case round =>
    clear HM
    obtain ⟨b, hb, rfl, HM⟩ := hrel
    by_cases hlb : b < 6
    · have b6 : (b : Int) < 6 := by omega
      have S1 := Lib.hid (part2_set (n := 6) (k := b) (fun b => mkN l b 6) (fun _ => 0))
      have S0 := Lib.hid (show (tab 6 (part2 b (fun b => mkN l b 6) (fun _ => 0))).set b (mkN l b 0) = tab 6 (part2 b (fun b => mkN l b 6) (fun _ => 0)) from tab_set (by unfold part2; rw [if_neg (by omega)]; rfl) fun _ _ _ => rfl)
      have LX := Lib.hid (tab_length 6 (part2 b (fun b => mkN l b 6) (fun _ => 0)))
      generalize tab 6 (part2 b (fun b => mkN l b 6) (fun _ => 0)) = X at HM S1 S0 LX
      go_wp2_with (first | ((first | refine wl_box rfl _ _ rfl rfl HM ?_ | refine wl_alloc rfl _ rfl (by exact arrOf) HM ?_); first | (have q : dL HM = 0 := rfl; clear q HM; intro g1 u1 HM) | (have q : dL HM = 1 := rfl; clear q HM; intro g2 u2 HM) | (have q : dL HM = 2 := rfl; clear q HM; intro g3 u3 HM) | (have q : dL HM = 3 := rfl; clear q HM; intro g4 u4 HM) | (have q : dL HM = 4 := rfl; clear q HM; intro g5 u5 HM) | (have q : dL HM = 5 := rfl; clear q HM; intro g6 u6 HM) | (have q : dL HM = 6 := rfl; clear q HM; intro g7 u7 HM) | (have q : dL HM = 7 := rfl; clear q HM; intro g8 u8 HM) | (have q : dL HM = 8 := rfl; clear q HM; intro g9 u9 HM) | (have q : dL HM = 9 := rfl; clear q HM; intro g10 u10 HM) | (have q : dL HM = 10 := rfl; clear q HM; intro g11 u11 HM) | (have q : dL HM = 11 := rfl; clear q HM; intro g12 u12 HM) | (have q : dL HM = 12 := rfl; clear q HM; intro g13 u13 HM) | (have q : dL HM = 13 := rfl; clear q HM; intro g14 u14 HM)) | (refine wl_load rfl _ _ rfl rfl (by exact arrOf) HM (by exact memOf) (by exact lenOf) ?_) | (refine wl_storeM rfl _ _ _ rfl rfl rfl (by exact arrOf) HM (by exact idxOf) (by exact lenOf) (by exact lenOf) ?_; clear HM; intro us HM; dsimp only [List.set] at HM) | (refine wl_zero rfl _ rfl (by exact arrOf) (by kernel_rfl) ?_))
      go_loopw [17] (fun vi wr => ∃ k : Nat, k ≤ 6 ∧ vi = .int .i64 (k : Int) ∧ Hid (Mem w [(g3, 32, X.set b (mkN l b k)), (g2, 32, zr 6), (g1, 32, l)] wr)) (fun vi _ => 6 - (intOf vi).toNat)
      case atStart => exact ⟨0, by omega, rfl, Lib.hid (by rw [S0.out]; exact HM.out)⟩
      case round =>
        clear HM S0
        obtain ⟨k, hk, rfl, HM⟩ := hrel
        by_cases hlt : k < 6
        · have k6 : (k : Int) < 6 := by omega
          have hix := run_index 32 (n := 6) (by kernel_rfl) l LL.out k hlt
          have hv := inR_bd HCC.out (by omega) (by omega) k
          have hm := mkN_bd HCC.out b k
          obtain ⟨D, hD⟩ : ∃ D : Int, max ((b : Int) - (k : Int)) ((k : Int) - (b : Int)) = D := ⟨_, rfl⟩
          by_cases hkb : k = b
          · subst hkb
            have HS := Lib.hid (mkN_self l k)
            have hD0 : D = 0 := by omega
            subst hD0
            generalize mkN l k k = M at hm HS HM
            generalize l.getD k 0 = v at hix hv
            clear hv hm
            go_wp2
            clear hD
            go_roundw
            case rel => exact ⟨k + 1, by omega, by go_num, Lib.hid (by rw [HS.out]; exact HM.out)⟩
            case measure => simp [intOf]; omega
          · have HS := Lib.hid (show mkN l b (k + 1) = max (mkN l b k) (l.getD k 0 - 12 * D - 8) by rw [mkN_other l hkb, ← hD, Int.max_comm ((b : Int) - (k : Int))])
            have d1 : 0 < D := by omega
            have d2 : D ≤ 5 := by omega
            have c3 := HM.out.cell (.head _) (k := b) (by rw [List.length_set, LX.out]; omega)
            have f3 := HM.out.free (.head _) b
            rw [getD_set' _ _ _ _ (by rw [LX.out]; omega), if_pos rfl] at c3
            generalize mkN l b k = M at hm HS HM c3
            generalize l.getD k 0 = v at hix hv HS
            obtain ⟨hv1, hv2⟩ := hv
            obtain ⟨hm1, hm2⟩ := hm
            clear hkb
            go_wp2
            have HM3 := Lib.hid (HM.out.put 0 rfl b (max M (v - 12 * D - 8)))
            simp only [List.set_cons_zero, List.set_set] at HM3
            clear HM c3 f3 hD
            go_roundw
            case rel => exact ⟨k + 1, by omega, by go_num, Lib.hid (by rw [HS.out]; exact HM3.out)⟩
            case measure => simp [intOf]; omega
        · obtain rfl : k = 6 := by omega
          rw [S1.out] at HM
          go_wp2
          go_roundw
          case rel => exact ⟨b + 1, by omega, by go_num, HM⟩
          case measure => simp [intOf]; omega
    · obtain rfl : b = 6 := by omega
      rw [part2_all] at HM
      have LO := Lib.hid (maskL_length l)
      change Hid (Mem w [(g3, 32, maskL l), (g2, 32, zr 6), (g1, 32, l)] wr) at HM
      go_wp2_with (first | ((first | refine wl_box rfl _ _ rfl rfl HM ?_ | refine wl_alloc rfl _ rfl (by exact arrOf) HM ?_); first | (have q : dL HM = 0 := rfl; clear q HM; intro g1 u1 HM) | (have q : dL HM = 1 := rfl; clear q HM; intro g2 u2 HM) | (have q : dL HM = 2 := rfl; clear q HM; intro g3 u3 HM) | (have q : dL HM = 3 := rfl; clear q HM; intro g4 u4 HM) | (have q : dL HM = 4 := rfl; clear q HM; intro g5 u5 HM) | (have q : dL HM = 5 := rfl; clear q HM; intro g6 u6 HM) | (have q : dL HM = 6 := rfl; clear q HM; intro g7 u7 HM) | (have q : dL HM = 7 := rfl; clear q HM; intro g8 u8 HM) | (have q : dL HM = 8 := rfl; clear q HM; intro g9 u9 HM) | (have q : dL HM = 9 := rfl; clear q HM; intro g10 u10 HM) | (have q : dL HM = 10 := rfl; clear q HM; intro g11 u11 HM) | (have q : dL HM = 11 := rfl; clear q HM; intro g12 u12 HM) | (have q : dL HM = 12 := rfl; clear q HM; intro g13 u13 HM) | (have q : dL HM = 13 := rfl; clear q HM; intro g14 u14 HM)) | (refine wl_load rfl _ _ rfl rfl (by exact arrOf) HM (by exact memOf) (by exact lenOf) ?_) | (refine wl_storeM rfl _ _ _ rfl rfl rfl (by exact arrOf) HM (by exact idxOf) (by exact lenOf) (by exact lenOf) ?_; clear HM; intro us HM; dsimp only [List.set] at HM) | (refine wl_zero rfl _ rfl (by exact arrOf) (by kernel_rfl) ?_))
      refine bodyPost_ret (v := .tuple #[.agg (icells (maskL l)), .int .i64 0]) (res_two rfl _ rfl rfl arrLev HM (by exact memOf) LO) rfl ⟨rfl, HM.out.1⟩
theorem rmask_any (l : List Int) (w : World) (ll : l.length = 6) : Calls Tryd.prog 61 #[.agg (icells l)] w (ValQ w (maskV l)) := by
  unfold maskV
  cases h : chkL l with
  | true => rw [if_pos rfl]; exact rmask_good l w ll h
  | false => rw [if_neg Bool.false_ne_true]; exact rmask_bad l w ll h
end Go.Proofs.YtcnckamocbaceaaDoor.Lp
/- Wq -/
namespace Go.Proofs.YtcnckamocbaceaaDoor.Lp
open Go.RowKit Go.Proofs.YtcnckamocbaceaaDoor.Fx Go.Proofs.YtcnckamocbaceaaDoor.Fq Go.Proofs.YtcnckamocbaceaaDoor.Tb
set_option maxRecDepth 100000 in
set_option maxHeartbeats 4000000 in
theorem rshare_bad1 (l : List Int) (B : Int) (w : World) (ll : l.length = 6) (hc : chkL l = false) :
    Calls Tryd.prog 54 #[.agg (icells l), .int .i64 B] w (ValQ w (.tuple #[.agg (icells (zr 6)), .int .i64 1])) := by
  have LL := Lib.hid ll
  have LZ := Lib.hid (zr_length 6)
  have HM := Lib.hid (Mem.start w)
  have HC := Lib.hid (fun u => rmask_bad l u ll hc)
  clear ll hc
  go_enter Tryd.func54, Tryd.ntmps54
  go_wp2_with (first | ((first | refine wl_box rfl _ _ rfl rfl HM ?_ | refine wl_alloc rfl _ rfl (by exact arrOf) HM ?_); first | (have q : dL HM = 0 := rfl; clear q HM; intro g1 u1 HM) | (have q : dL HM = 1 := rfl; clear q HM; intro g2 u2 HM) | (have q : dL HM = 2 := rfl; clear q HM; intro g3 u3 HM) | (have q : dL HM = 3 := rfl; clear q HM; intro g4 u4 HM) | (have q : dL HM = 4 := rfl; clear q HM; intro g5 u5 HM) | (have q : dL HM = 5 := rfl; clear q HM; intro g6 u6 HM) | (have q : dL HM = 6 := rfl; clear q HM; intro g7 u7 HM) | (have q : dL HM = 7 := rfl; clear q HM; intro g8 u8 HM) | (have q : dL HM = 8 := rfl; clear q HM; intro g9 u9 HM) | (have q : dL HM = 9 := rfl; clear q HM; intro g10 u10 HM) | (have q : dL HM = 10 := rfl; clear q HM; intro g11 u11 HM) | (have q : dL HM = 11 := rfl; clear q HM; intro g12 u12 HM) | (have q : dL HM = 12 := rfl; clear q HM; intro g13 u13 HM) | (have q : dL HM = 13 := rfl; clear q HM; intro g14 u14 HM)) | (refine wl_load rfl _ _ rfl rfl (by exact arrOf) HM (by exact memOf) (by exact lenOf) ?_) | (refine wl_storeM rfl _ _ _ rfl rfl rfl (by exact arrOf) HM (by exact idxOf) (by exact lenOf) (by exact lenOf) ?_; clear HM; intro us HM; dsimp only [List.set] at HM) | (refine wl_zero rfl _ rfl (by exact arrOf) (by kernel_rfl) ?_))
  refine (HC.out _).mono ?_
  rintro e w2 ⟨rfl, h1⟩
  have HM2 := Lib.hid (HM.out.below h1)
  clear h1 HM HC
  have HM := HM2
  clear HM2
  go_wp2_with (first | ((first | refine wl_box rfl _ _ rfl rfl HM ?_ | refine wl_alloc rfl _ rfl (by exact arrOf) HM ?_); first | (have q : dL HM = 0 := rfl; clear q HM; intro g1 u1 HM) | (have q : dL HM = 1 := rfl; clear q HM; intro g2 u2 HM) | (have q : dL HM = 2 := rfl; clear q HM; intro g3 u3 HM) | (have q : dL HM = 3 := rfl; clear q HM; intro g4 u4 HM) | (have q : dL HM = 4 := rfl; clear q HM; intro g5 u5 HM) | (have q : dL HM = 5 := rfl; clear q HM; intro g6 u6 HM) | (have q : dL HM = 6 := rfl; clear q HM; intro g7 u7 HM) | (have q : dL HM = 7 := rfl; clear q HM; intro g8 u8 HM) | (have q : dL HM = 8 := rfl; clear q HM; intro g9 u9 HM) | (have q : dL HM = 9 := rfl; clear q HM; intro g10 u10 HM) | (have q : dL HM = 10 := rfl; clear q HM; intro g11 u11 HM) | (have q : dL HM = 11 := rfl; clear q HM; intro g12 u12 HM) | (have q : dL HM = 12 := rfl; clear q HM; intro g13 u13 HM) | (have q : dL HM = 13 := rfl; clear q HM; intro g14 u14 HM)) | (refine wl_load rfl _ _ rfl rfl (by exact arrOf) HM (by exact memOf) (by exact lenOf) ?_) | (refine wl_storeM rfl _ _ _ rfl rfl rfl (by exact arrOf) HM (by exact idxOf) (by exact lenOf) (by exact lenOf) ?_; clear HM; intro us HM; dsimp only [List.set] at HM) | (refine wl_zero rfl _ rfl (by exact arrOf) (by kernel_rfl) ?_))
  refine bodyPost_ret (v := .tuple #[.agg (icells (zr 6)), .int .i64 1]) (res_two rfl _ rfl rfl arrAll HM (by exact memOf) LZ) rfl ⟨rfl, HM.out.1⟩
set_option maxRecDepth 100000 in
set_option maxHeartbeats 4000000 in
theorem rshare_bad2 (l : List Int) (B : Int) (w : World) (ll : l.length = 6) (hc : chkL l = true) (hB : B < 0) :
    Calls Tryd.prog 54 #[.agg (icells l), .int .i64 B] w (ValQ w (.tuple #[.agg (icells (zr 6)), .int .i64 1])) := by
  have LL := Lib.hid ll
  have LZ := Lib.hid (zr_length 6)
  have LM := Lib.hid (maskL_length l)
  have HM := Lib.hid (Mem.start w)
  have HC := Lib.hid (fun u => rmask_good l u ll hc)
  generalize maskL l = m at HC LM
  clear ll hc
  go_enter Tryd.func54, Tryd.ntmps54
  go_wp2_with (first | ((first | refine wl_box rfl _ _ rfl rfl HM ?_ | refine wl_alloc rfl _ rfl (by exact arrOf) HM ?_); first | (have q : dL HM = 0 := rfl; clear q HM; intro g1 u1 HM) | (have q : dL HM = 1 := rfl; clear q HM; intro g2 u2 HM) | (have q : dL HM = 2 := rfl; clear q HM; intro g3 u3 HM) | (have q : dL HM = 3 := rfl; clear q HM; intro g4 u4 HM) | (have q : dL HM = 4 := rfl; clear q HM; intro g5 u5 HM) | (have q : dL HM = 5 := rfl; clear q HM; intro g6 u6 HM) | (have q : dL HM = 6 := rfl; clear q HM; intro g7 u7 HM) | (have q : dL HM = 7 := rfl; clear q HM; intro g8 u8 HM) | (have q : dL HM = 8 := rfl; clear q HM; intro g9 u9 HM) | (have q : dL HM = 9 := rfl; clear q HM; intro g10 u10 HM) | (have q : dL HM = 10 := rfl; clear q HM; intro g11 u11 HM) | (have q : dL HM = 11 := rfl; clear q HM; intro g12 u12 HM) | (have q : dL HM = 12 := rfl; clear q HM; intro g13 u13 HM) | (have q : dL HM = 13 := rfl; clear q HM; intro g14 u14 HM)) | (refine wl_load rfl _ _ rfl rfl (by exact arrOf) HM (by exact memOf) (by exact lenOf) ?_) | (refine wl_storeM rfl _ _ _ rfl rfl rfl (by exact arrOf) HM (by exact idxOf) (by exact lenOf) (by exact lenOf) ?_; clear HM; intro us HM; dsimp only [List.set] at HM) | (refine wl_zero rfl _ rfl (by exact arrOf) (by kernel_rfl) ?_))
  refine (HC.out _).mono ?_
  rintro e w2 ⟨rfl, h1⟩
  have HM2 := Lib.hid (HM.out.below h1)
  clear h1 HM HC
  have HM := HM2
  clear HM2
  go_wp2_with (first | ((first | refine wl_box rfl _ _ rfl rfl HM ?_ | refine wl_alloc rfl _ rfl (by exact arrOf) HM ?_); first | (have q : dL HM = 0 := rfl; clear q HM; intro g1 u1 HM) | (have q : dL HM = 1 := rfl; clear q HM; intro g2 u2 HM) | (have q : dL HM = 2 := rfl; clear q HM; intro g3 u3 HM) | (have q : dL HM = 3 := rfl; clear q HM; intro g4 u4 HM) | (have q : dL HM = 4 := rfl; clear q HM; intro g5 u5 HM) | (have q : dL HM = 5 := rfl; clear q HM; intro g6 u6 HM) | (have q : dL HM = 6 := rfl; clear q HM; intro g7 u7 HM) | (have q : dL HM = 7 := rfl; clear q HM; intro g8 u8 HM) | (have q : dL HM = 8 := rfl; clear q HM; intro g9 u9 HM) | (have q : dL HM = 9 := rfl; clear q HM; intro g10 u10 HM) | (have q : dL HM = 10 := rfl; clear q HM; intro g11 u11 HM) | (have q : dL HM = 11 := rfl; clear q HM; intro g12 u12 HM) | (have q : dL HM = 12 := rfl; clear q HM; intro g13 u13 HM) | (have q : dL HM = 13 := rfl; clear q HM; intro g14 u14 HM)) | (refine wl_load rfl _ _ rfl rfl (by exact arrOf) HM (by exact memOf) (by exact lenOf) ?_) | (refine wl_storeM rfl _ _ _ rfl rfl rfl (by exact arrOf) HM (by exact idxOf) (by exact lenOf) (by exact lenOf) ?_; clear HM; intro us HM; dsimp only [List.set] at HM) | (refine wl_zero rfl _ rfl (by exact arrOf) (by kernel_rfl) ?_))
  refine bodyPost_ret (v := .tuple #[.agg (icells (zr 6)), .int .i64 1]) (res_two rfl _ rfl rfl arrAll HM (by exact memOf) LZ) rfl ⟨rfl, HM.out.1⟩
theorem lastM_le (a : List Int) (k : Nat) (hk : k ≤ 6) : lastM a k < 6 := by
  cases k with
  | zero => show 0 < 6; omega
  | succ k => have := lastM_lt a k; omega
theorem lastM_yes {a : List Int} {k : Nat} (h : a.getD (lastM a k) 0 ≤ a.getD k 0) : lastM a (k + 1) = k := by rw [lastM, if_pos h]
theorem lastM_no {a : List Int} {k : Nat} (h : ¬ a.getD (lastM a k) 0 ≤ a.getD k 0) : lastM a (k + 1) = lastM a k := by rw [lastM, if_neg h]
set_option maxRecDepth 100000 in
set_option maxHeartbeats 8000000 in
theorem rshare_good (l : List Int) (B : Int) (w : World) (ll : l.length = 6) (hc : chkL l = true) (hB : 0 ≤ B) :
    Calls Tryd.prog 54 #[.agg (icells l), .int .i64 B] w (ValQ w (.tuple #[.agg (icells (shareL l B)), .int .i64 0])) := by
  have LL := Lib.hid ll
  have LZ := Lib.hid (zr_length 6)
  have LM := Lib.hid (maskL_length l)
  have LS := Lib.hid (share_ok l hB).1.1
  have HM := Lib.hid (Mem.start w)
  have HC := Lib.hid (fun u => rmask_good l u ll hc)
  have HL := Lib.hid (fun k => inR_bd hc (by omega) (by omega) k)
  have HB := Lib.hid (fun (k : Nat) (hk : k < 6) => mask_bd hc hk)
  have HBB := Lib.hid hB
  obtain ⟨R, hR⟩ : ∃ R, shareL l B = R := ⟨_, rfl⟩
  have HR := Lib.hid (show narL 42 (wishL l (maskL l)) B = R from hR)
  rw [hR] at LS
  rw [hR]
  have HW0 := Lib.hid (wish_ok l (maskL l))
  obtain ⟨m, hm⟩ : ∃ m, maskL l = m := ⟨_, rfl⟩
  rw [hm] at HC LM HB HR HW0
  clear ll hc hm hR
  go_enter Tryd.func54, Tryd.ntmps54
  go_wp2_with (first | ((first | refine wl_box rfl _ _ rfl rfl HM ?_ | refine wl_alloc rfl _ rfl (by exact arrOf) HM ?_); first | (have q : dL HM = 0 := rfl; clear q HM; intro g1 u1 HM) | (have q : dL HM = 1 := rfl; clear q HM; intro g2 u2 HM) | (have q : dL HM = 2 := rfl; clear q HM; intro g3 u3 HM) | (have q : dL HM = 3 := rfl; clear q HM; intro g4 u4 HM) | (have q : dL HM = 4 := rfl; clear q HM; intro g5 u5 HM) | (have q : dL HM = 5 := rfl; clear q HM; intro g6 u6 HM) | (have q : dL HM = 6 := rfl; clear q HM; intro g7 u7 HM) | (have q : dL HM = 7 := rfl; clear q HM; intro g8 u8 HM) | (have q : dL HM = 8 := rfl; clear q HM; intro g9 u9 HM) | (have q : dL HM = 9 := rfl; clear q HM; intro g10 u10 HM) | (have q : dL HM = 10 := rfl; clear q HM; intro g11 u11 HM) | (have q : dL HM = 11 := rfl; clear q HM; intro g12 u12 HM) | (have q : dL HM = 12 := rfl; clear q HM; intro g13 u13 HM) | (have q : dL HM = 13 := rfl; clear q HM; intro g14 u14 HM)) | (refine wl_load rfl _ _ rfl rfl (by exact arrOf) HM (by exact memOf) (by exact lenOf) ?_) | (refine wl_storeM rfl _ _ _ rfl rfl rfl (by exact arrOf) HM (by exact idxOf) (by exact lenOf) (by exact lenOf) ?_; clear HM; intro us HM; dsimp only [List.set] at HM) | (refine wl_zero rfl _ rfl (by exact arrOf) (by kernel_rfl) ?_))
  refine (HC.out _).mono ?_
  rintro e w2 ⟨rfl, h1⟩
  have HM2 := Lib.hid (HM.out.below h1)
  clear h1 HM HC
  have HM := HM2
  clear HM2
  go_wp2_with (first | ((first | refine wl_box rfl _ _ rfl rfl HM ?_ | refine wl_alloc rfl _ rfl (by exact arrOf) HM ?_); first | (have q : dL HM = 0 := rfl; clear q HM; intro g1 u1 HM) | (have q : dL HM = 1 := rfl; clear q HM; intro g2 u2 HM) | (have q : dL HM = 2 := rfl; clear q HM; intro g3 u3 HM) | (have q : dL HM = 3 := rfl; clear q HM; intro g4 u4 HM) | (have q : dL HM = 4 := rfl; clear q HM; intro g5 u5 HM) | (have q : dL HM = 5 := rfl; clear q HM; intro g6 u6 HM) | (have q : dL HM = 6 := rfl; clear q HM; intro g7 u7 HM) | (have q : dL HM = 7 := rfl; clear q HM; intro g8 u8 HM) | (have q : dL HM = 8 := rfl; clear q HM; intro g9 u9 HM) | (have q : dL HM = 9 := rfl; clear q HM; intro g10 u10 HM) | (have q : dL HM = 10 := rfl; clear q HM; intro g11 u11 HM) | (have q : dL HM = 11 := rfl; clear q HM; intro g12 u12 HM) | (have q : dL HM = 12 := rfl; clear q HM; intro g13 u13 HM) | (have q : dL HM = 13 := rfl; clear q HM; intro g14 u14 HM)) | (refine wl_load rfl _ _ rfl rfl (by exact arrOf) HM (by exact memOf) (by exact lenOf) ?_) | (refine wl_storeM rfl _ _ _ rfl rfl rfl (by exact arrOf) HM (by exact idxOf) (by exact lenOf) (by exact lenOf) ?_; clear HM; intro us HM; dsimp only [List.set] at HM) | (refine wl_zero rfl _ rfl (by exact arrOf) (by kernel_rfl) ?_))
  go_loopw [25] (fun vi wr => ∃ k : Nat, k ≤ 6 ∧ vi = .int .i64 (k : Int) ∧ Hid (Mem w [(g4, 32, m), (g3, 34, tab 6 (part2 k (fun b => wishI (l.getD b 0) (m.getD b 0)) (fun _ => 0))), (g2, 34, zr 6), (g1, 32, l)] wr)) (fun vi _ => 6 - (intOf vi).toNat)
  case atStart => exact ⟨0, by omega, rfl, Lib.hid (by rw [part2_none, tab_zero]; exact HM.out)⟩
  case round =>
    clear HM
    obtain ⟨k, hk, rfl, HM⟩ := hrel
    by_cases hlt : k < 6
    · have k6 : (k : Int) < 6 := by omega
      have S1 := Lib.hid (part2_set (n := 6) (k := k) (fun b => wishI (l.getD b 0) (m.getD b 0)) (fun _ => 0))
      have cl := HM.out.cell (.tail _ (.tail _ (.tail _ (.head _)))) (k := k) (by rw [LL.out]; exact hlt)
      have cm := HM.out.cell (.head _) (k := k) (by rw [LM.out]; exact hlt)
      have H1 := Lib.hid (fun (u : World) (hu : Mem w [(g4, 32, m), (g1, 32, l)] u) => hu.cell (.tail _ (.head _)) (k := k) (by rw [LL.out]; exact hlt))
      have H2 := Lib.hid (fun (u : World) (hu : Mem w [(g4, 32, m), (g1, 32, l)] u) => hu.cell (.head _) (k := k) (by rw [LM.out]; exact hlt))
      have hx := HL.out k
      have hy := HB.out k hlt
      have HP := Lib.hid (show tab 6 (part2 (k + 1) (fun b => wishI (l.getD b 0) (m.getD b 0)) (fun _ => 0)) = (tab 6 (part2 k (fun b => wishI (l.getD b 0) (m.getD b 0)) (fun _ => 0))).set k (wishI (l.getD k 0) (m.getD k 0)) from S1.out.symm)
      have HSM := Lib.hid (show (tab 6 (part2 k (fun b => wishI (l.getD b 0) (m.getD b 0)) (fun _ => 0))).set k 0 = tab 6 (part2 k (fun b => wishI (l.getD b 0) (m.getD b 0)) (fun _ => 0)) from tab_set (by unfold part2; rw [if_neg (by omega)]) fun _ _ _ => rfl)
      have LX := Lib.hid (tab_length 6 (part2 k (fun b => wishI (l.getD b 0) (m.getD b 0)) (fun _ => 0)))
      generalize tab 6 (part2 k _ _) = X at HP HSM LX HM
      clear S1
      generalize l.getD k 0 = x at cl H1 hx HP
      generalize m.getD k 0 = y at cm H2 hy HP
      obtain ⟨hx1, hx2⟩ := hx
      obtain ⟨hy1, hy2⟩ := hy
      by_cases hxy : y < x
      · have hd : decide (y < x) = true := decide_eq_true hxy
        have HZ := Lib.hid (show wishI x y = min ((x - y + 7) / 8) 7 by unfold wishI; rw [if_neg (by omega)])
        rw [HZ.out] at HP
        have w1 : IntKind.i64.wrap (x - y) = x - y := i64_w (by omega) (by omega)
        have w2 : IntKind.i64.wrap (x - y + 7) = x - y + 7 := i64_w (by omega) (by omega)
        have w3 : 0 ≤ x - y + 7 := by omega
        have w4 : IntKind.i64.wrap ((x - y + 7).tdiv 8) = (x - y + 7) / 8 := by rw [Int.tdiv_eq_ediv_of_nonneg w3]; exact i64_w (by omega) (by omega)
        clear hx1 hx2 hy1 hy2 HZ
        go_wp2_with fail
        go_quiet (fail)
        have HM2 := Lib.hid (HM.out.drewN nq)
        clear HM cl cm
        have HM := HM2
        clear HM2
        generalize World.drewN _ _ = wq at HM ⊢
        go_wp2_with fail
        refine wp_region_held_drew (S := Mem w [(g4, 32, m), (g1, 32, l)]) (by kernel_rfl) (HM.out.drew.sub (by exact subOf)) (fun hHeld => ?_)
        have HMd := Lib.hid HM.out.drew
        clear HM
        have HM := HMd
        clear HMd
        generalize World.drew _ = wd at HM hHeld ⊢
        (refine wa_take (i := 0) rfl (by kernel_rfl) (by kernel_rfl) (by kernel_rfl) (fun _ _ _ h => h) (yi_free rfl (fun u => rfl)) hHeld rfl ?_; (try simp only [Act.put, List.setIfInBounds_toArray, List.set_cons_zero, List.set_cons_succ]))
        (refine wa_take (i := 1) rfl (by kernel_rfl) (by kernel_rfl) (by kernel_rfl) (fun _ _ _ h => h) (yi_free rfl (fun u => rfl)) hHeld rfl ?_; (try simp only [Act.put, List.setIfInBounds_toArray, List.set_cons_zero, List.set_cons_succ]))
        (refine wa_take (i := 2) (v := .pointer (some ⟨g1, k, none⟩)) rfl (by kernel_rfl) (by kernel_rfl) (by kernel_rfl) (fun _ _ _ h => h) (yi_free rfl (fun u => by go_simp)) hHeld rfl ?_; (try simp only [Act.put, List.setIfInBounds_toArray, List.set_cons_zero, List.set_cons_succ]))
        (refine wa_take (i := 3) rfl (by kernel_rfl) (by kernel_rfl) (by kernel_rfl) (fun _ _ _ h => h) (yi_cell rfl _ rfl rfl (H1).out) hHeld rfl ?_; (try simp only [Act.put, List.setIfInBounds_toArray, List.set_cons_zero, List.set_cons_succ]))
        (refine wa_take (i := 4) rfl (by kernel_rfl) (by kernel_rfl) (by kernel_rfl) (fun _ _ _ h => h) (yi_free rfl (fun u => rfl)) hHeld rfl ?_; (try simp only [Act.put, List.setIfInBounds_toArray, List.set_cons_zero, List.set_cons_succ]))
        (refine wa_take (i := 5) (v := .pointer (some ⟨g4, k, none⟩)) rfl (by kernel_rfl) (by kernel_rfl) (by kernel_rfl) (fun _ _ _ h => h) (yi_free rfl (fun u => by go_simp)) hHeld rfl ?_; (try simp only [Act.put, List.setIfInBounds_toArray, List.set_cons_zero, List.set_cons_succ]))
        (refine wa_take (i := 6) rfl (by kernel_rfl) (by kernel_rfl) (by kernel_rfl) (fun _ _ _ h => h) (yi_cell rfl _ rfl rfl (H2).out) hHeld rfl ?_; (try simp only [Act.put, List.setIfInBounds_toArray, List.set_cons_zero, List.set_cons_succ]))
        (refine wa_take (i := 7) (v := .int .i64 (x - y)) rfl (by kernel_rfl) (by kernel_rfl) (by kernel_rfl) (fun _ _ _ h => h) (yi_free rfl (fun u => by go_simp)) hHeld rfl ?_; (try simp only [Act.put, List.setIfInBounds_toArray, List.set_cons_zero, List.set_cons_succ]))
        (refine wa_take (i := 8) (v := .int .i64 (x - y + 7)) rfl (by kernel_rfl) (by kernel_rfl) (by kernel_rfl) (fun _ _ _ h => h) (yi_free rfl (fun u => by go_simp)) hHeld rfl ?_; (try simp only [Act.put, List.setIfInBounds_toArray, List.set_cons_zero, List.set_cons_succ]))
        (refine wa_take (i := 9) (v := .int .i64 ((x - y + 7) / 8)) rfl (by kernel_rfl) (by kernel_rfl) (by kernel_rfl) (fun _ _ _ h => h) (yi_free rfl (fun u => by go_simp)) hHeld rfl ?_; (try simp only [Act.put, List.setIfInBounds_toArray, List.set_cons_zero, List.set_cons_succ]))
        (refine wa_take (i := 10) (v := .int .i64 (min ((x - y + 7) / 8) 7)) rfl (by kernel_rfl) (by kernel_rfl) (by kernel_rfl) (fun _ _ _ h => h) (yi_free rfl (fun u => by go_simp)) hHeld rfl ?_; (try simp only [Act.put, List.setIfInBounds_toArray, List.set_cons_zero, List.set_cons_succ]))
        (refine wa_take (i := 11) (v := .pointer (some ⟨g3, k, none⟩)) rfl (by kernel_rfl) (by kernel_rfl) (by kernel_rfl) (fun _ _ _ h => h) (yi_free rfl (fun u => by go_simp)) hHeld rfl ?_; (try simp only [Act.put, List.setIfInBounds_toArray, List.set_cons_zero, List.set_cons_succ]))
        have c1 := HM.out.cell (.tail _ (.head _)) (k := k) (by rw [LX.out]; exact hlt)
        have f1 := HM.out.free (.tail _ (.head _)) k
        generalize List.getD X k 0 = o at c1
        refine wpAnyH_ready (rs := [12]) (by kernel_rfl) (by simp) ?_; refine AllReadyH.cons rfl (fun K hK => ?_) (AllReadyH.nil)
        rw [if_pos (by rfl)]; go_simp
        have HM3 := Lib.hid (HM.out.put 1 rfl k (min ((x - y + 7) / 8) 7))
        simp only [List.set_cons_zero, List.set_cons_succ] at HM3
        rw [← HP.out] at HM3
        clear HM c1 f1 hHeld
        have HM := HM3
        clear HM3
        go_wp2_with fail; refine hK.out _ _ (HM.out.sub (by exact subOf)) (fun hHeld => ?_); clear hK K; (try simp only [Act.put, List.setIfInBounds_toArray, List.set_cons_zero, List.set_cons_succ])
        refine wpAnyH_done (by kernel_rfl) ?_ _
        clear H1 H2 w1 w2 w3 w4
        go_wp2
        go_roundw
        case rel => exact ⟨k + 1, by omega, by go_num, HM⟩
        case measure => simp [intOf]; omega
      · have hd : decide (y < x) = false := decide_eq_false hxy
        have HZ := Lib.hid (show wishI x y = 0 by unfold wishI; rw [if_pos (by omega)])
        rw [HZ.out, HSM.out] at HP
        clear hx1 hx2 hy1 hy2 HZ hxy
        go_wp2_with fail
        go_quiet (fail)
        have HM2 := Lib.hid (HM.out.drewN nq)
        rw [← HP.out] at HM2
        clear HM cl cm
        go_wp2
        go_roundw
        case rel => exact ⟨k + 1, by omega, by go_num, HM2⟩
        case measure => simp [intOf]; omega
    · obtain rfl : k = 6 := by omega
      rw [part2_all] at HM
      have HI := Lib.hid (show ∃ cur, OkA cur ∧ narL 42 cur B = R ∧ sumA cur ≤ 42 ∧ Mem w [(g4, 32, m), (g3, 34, cur), (g2, 34, zr 6), (g1, 32, l)] wr from ⟨wishL l m, HW0.out, HR.out, sumA_le HW0.out, HM.out⟩)
      clear HM HR HW0 hB
      go_wp2_with fail
      go_loopg [] 42 (fun gn wx => Hid (∃ cur, OkA cur ∧ narL 42 cur B = R ∧ sumA cur ≤ gn ∧ Mem w [(g4, 32, m), (g3, 34, cur), (g2, 34, zr 6), (g1, 32, l)] wx))
      case atStart => exact HI
      case round =>
        clear HI
        obtain ⟨cur, hok, hnar, hsum, hM⟩ := hrel.out
        clear hrel
        have HM := Lib.hid hM
        have HO := Lib.hid hok
        have HN := Lib.hid hnar
        have HS := Lib.hid hsum
        have LC := Lib.hid hok.1
        have HCst := Lib.hid (fun u => rcost_any cur u hok)
        obtain ⟨C, hC⟩ : ∃ C, costL cur = C := ⟨_, rfl⟩
        rw [hC] at HCst
        have HCC := Lib.hid hC
        clear hM hok hnar hsum hC
        by_cases hcb : C ≤ B
        · have hd : decide (B < C) = false := decide_eq_false (by omega)
          have hcur : cur = R := by rw [← HN.out]; exact (nar_done (by rw [HCC.out]; exact hcb)).symm
          rw [hcur] at HM HCst
          clear hcur LC HO HN HS HCC
          go_wp2_with (refine wl_load rfl _ _ rfl rfl (by exact arrOf) HM (by exact memOf) (by exact lenOf) ?_)
          refine (HCst.out _).mono ?_
          rintro e wb ⟨rfl, h1⟩
          have HM2 := Lib.hid (HM.out.below h1)
          clear h1 HM HCst
          have HM := HM2
          clear HM2
          go_wp2_with (first | ((first | refine wl_box rfl _ _ rfl rfl HM ?_ | refine wl_alloc rfl _ rfl (by exact arrOf) HM ?_); first | (have q : dL HM = 0 := rfl; clear q HM; intro g1 u1 HM) | (have q : dL HM = 1 := rfl; clear q HM; intro g2 u2 HM) | (have q : dL HM = 2 := rfl; clear q HM; intro g3 u3 HM) | (have q : dL HM = 3 := rfl; clear q HM; intro g4 u4 HM) | (have q : dL HM = 4 := rfl; clear q HM; intro g5 u5 HM) | (have q : dL HM = 5 := rfl; clear q HM; intro g6 u6 HM) | (have q : dL HM = 6 := rfl; clear q HM; intro g7 u7 HM) | (have q : dL HM = 7 := rfl; clear q HM; intro g8 u8 HM) | (have q : dL HM = 8 := rfl; clear q HM; intro g9 u9 HM) | (have q : dL HM = 9 := rfl; clear q HM; intro g10 u10 HM) | (have q : dL HM = 10 := rfl; clear q HM; intro g11 u11 HM) | (have q : dL HM = 11 := rfl; clear q HM; intro g12 u12 HM) | (have q : dL HM = 12 := rfl; clear q HM; intro g13 u13 HM) | (have q : dL HM = 13 := rfl; clear q HM; intro g14 u14 HM)) | (refine wl_load rfl _ _ rfl rfl (by exact arrOf) HM (by exact memOf) (by exact lenOf) ?_) | (refine wl_storeM rfl _ _ _ rfl rfl rfl (by exact arrOf) HM (by exact idxOf) (by exact lenOf) (by exact lenOf) ?_; clear HM; intro us HM; dsimp only [List.set] at HM) | (refine wl_zero rfl _ rfl (by exact arrOf) (by kernel_rfl) ?_))
          refine bodyPost_ret (v := .tuple #[.agg (icells R), .int .i64 0]) (res_two rfl _ rfl rfl arrAll HM (by exact memOf) LS) rfl ⟨rfl, HM.out.1⟩
        · have hd : decide (B < C) = true := decide_eq_true (by omega)
          have hp := costL_pos (a := cur) HBB.out (by rw [HCC.out]; omega)
          have HST := Lib.hid (nar_step HBB.out HO.out (by rw [HCC.out]; exact hcb))
          have HSS := Lib.hid (stp_sum HO.out hp)
          have HP := Lib.hid hp
          clear hp
          go_wp2_with (refine wl_load rfl _ _ rfl rfl (by exact arrOf) HM (by exact memOf) (by exact lenOf) ?_)
          refine (HCst.out _).mono ?_
          rintro e wb ⟨rfl, h1⟩
          have HM2 := Lib.hid (HM.out.below h1)
          clear h1 HM HCst
          have HM := HM2
          clear HM2
          go_wp2_with (refine wl_load rfl _ _ rfl rfl (by exact arrOf) HM (by exact memOf) (by exact lenOf) ?_)
          clear hd
          go_loop [10, 53] (fun vm vi => ∃ k : Nat, k ≤ 6 ∧ vi = .int .i64 (k : Int) ∧ vm = .int .i64 ((lastM cur k : Nat) : Int)) (fun _ vi => 6 - (intOf vi).toNat)
          case atStart => exact ⟨0, by omega, rfl, rfl⟩
          case round =>
            obtain ⟨k, hk, rfl, rfl⟩ := hrel
            have HML := Lib.hid (lastM_le cur k hk)
            by_cases hlt : k < 6
            · have k6 : (k : Int) < 6 := by omega
              have hix := run_index 34 (n := 6) (by kernel_rfl) cur LC.out k hlt
              have HY := Lib.hid (lastM_yes (a := cur) (k := k))
              have HNo := Lib.hid (lastM_no (a := cur) (k := k))
              have cm := HM.out.cell (.tail _ (.head _)) (k := lastM cur k) (by rw [LC.out]; exact HML.out)
              generalize lastM cur k = M at cm HY HNo HML ⊢
              have m6 : (M : Int) < 6 := by have := HML.out; omega
              generalize cur.getD M 0 = x at cm HY HNo
              generalize cur.getD k 0 = y at hix HY HNo
              by_cases hxy : x ≤ y
              · have hd : decide (x ≤ y) = true := decide_eq_true hxy
                have HE1 := Lib.hid (HY.out hxy)
                clear HY HNo
                go_wp2
                clear hd
                go_round
                case rel => exact ⟨k + 1, by omega, by go_num, by rw [HE1.out]⟩
                case measure => simp [intOf]; omega
              · have hd : decide (x ≤ y) = false := decide_eq_false hxy
                have HE1 := Lib.hid (HNo.out hxy)
                clear HY HNo hxy
                go_wp2
                clear hd
                go_round
                case rel => exact ⟨k + 1, by omega, by go_num, by rw [HE1.out]⟩
                case measure => simp [intOf]; omega
            · obtain rfl : k = 6 := by omega
              have cm := HM.out.cell (.tail _ (.head _)) (k := lastM cur 6) (by rw [LC.out]; exact HML.out)
              have fm := HM.out.free (.tail _ (.head _)) (lastM cur 6)
              have HX := Lib.hid (show stpL cur = cur.set (lastM cur 6) (cur.getD (lastM cur 6) 0 - 1) from rfl)
              have hx7 := (HO.out.2 _ HML.out).2
              have hx0 := HP.out
              generalize lastM cur 6 = M at cm fm HML HX hx7 hx0 ⊢
              have m6 : (M : Int) < 6 := by have := HML.out; omega
              generalize cur.getD M 0 = x at cm HX hx7 hx0
              clear HP
              go_wp2
              have HM3 := HM.out.put 1 rfl M (x - 1)
              simp only [List.set_cons_zero, List.set_cons_succ] at HM3
              rw [← HX.out] at HM3
              have HQ := Lib.hid (show ∃ cur, OkA cur ∧ narL 42 cur B = R ∧ sumA cur ≤ gk - 1 ∧ Mem w [(g4, 32, m), (g3, 34, cur), (g2, 34, zr 6), (g1, 32, l)] _ from ⟨stpL cur, HST.out.2, by rw [← HST.out.1]; exact HN.out, by have := HS.out; have := HSS.out; omega, HM3⟩)
              have HG := Lib.hid (show gk - 1 < gk by have := HS.out; have := HSS.out; omega)
              clear HM3 cm fm HM
              go_roundg (gk - 1)
              case rel => exact HQ
              case measure => exact HG.out
theorem rshare_any' (l : List Int) (B : Int) (w : World) (ll : l.length = 6) : Calls Tryd.prog 54 #[.agg (icells l), .int .i64 B] w (ValQ w (shareV l B)) := by
  unfold shareV
  by_cases h : chkL l = true
  · by_cases hB : 0 ≤ B
    · rw [if_pos ⟨h, hB⟩]; exact rshare_good l B w ll h hB
    · rw [if_neg (fun k => hB k.2)]; exact rshare_bad2 l B w ll h (by omega)
  · rw [if_neg (fun k => h k.1)]; exact rshare_bad1 l B w ll (by simpa using h)
end Go.Proofs.YtcnckamocbaceaaDoor.Lp
