/-
  A packet put into a row of packets.
-/
import Derived.Test.YtffapinabidkiaaUH
import Derived.Laws.CopyRow
import Derived.Laws.Externs
import Derived.Lib.Overlaps
import Derived.Lib.AppendZerosOnto
import Derived.Deep.AppendSrc
set_option linter.unusedSimpArgs false
set_option linter.unusedVariables false
/- UI -/
namespace Go.Proofs.Ytffapinabidkiaa.Lp
open Go.RowKit Go.Proofs.Ytffapinabidkiaa.Fq
theorem min_is {a b m : Nat} (h : min a b = m) : Nat.min a b = m := h
theorem run_copy_two {w : World} {g : Nat} {T : TypeId} {cur : Array Value} (hg : Blk w g T cur) (o dLen dCap : Nat) (ad : Addr) (sLen sCap m : Nat) (cs : List Value) (hm : Nat.min sLen dLen = m) (hl : cs.length = m * 2)
    (hsrc : ∀ j v, cs[j]? = some v → w.cell? (ad.add j) = some v) (hfit : o + cs.length ≤ cur.size) (h1 : ∀ v ∈ cs, v.oneCell' = true) (ty : TypeId) :
    (Builtin.copy_ #[22, 22] ty #[.slice (some ⟨g, o, none⟩) dLen dCap, .slice (some ad) sLen sCap]).run Try.prog w =
      .ok (goInt m) (w.setRow g (cur.toList.take o ++ cs ++ cur.toList.drop (o + cs.length)).toArray) := by
  have hf := run_firstCells_some (P := Try.prog) w 2 m ad sLen sCap cs hl hsrc
  have hst := run_storeCells_at Try.prog g o T cs 0 cur w hg (by simpa using hfit) h1
  simp only [Nat.add_zero] at hst
  have hs := sizePk w
  have hu := run_underlying Try.underlying22 w
  simp [Builtin.copy_, hu, Builtin.lenOf, hs, hm, hf, hst]
/-- an operation whose run is known -/
theorem wl_run {ops : Array Oper} {rest : List Oper} {o : Oper} {a : Act} {w w' : World} {Q : Exit → Act → World → Prop} (hgd : Region.wanted o (yielded ops a.tmps) = true) {v : Value} (hv : (execOp a.eval o).run Try.prog w = .ok (.value v) w') (h : wpList Try.prog ops Q rest (a.put o.dst v) w') : wpList Try.prog ops Q (o :: rest) a w :=
  wl_step hgd fun K hK => by
    have := hK _ _ h
    unfold Oper.wp
    simp only [hv]
    exact this
theorem ex_copy {o : Oper} {a : Act} {w w' : World} (d s : Operand) (t t' : TypeId) (ho : o.op = .call { callee := .builtin .copy, args := #[d, s], argTypes := #[t, t'] }) {v u r : Value} (hd : a.eval d = v) (hs : a.eval s = u)
    (hr : (Builtin.copy_ #[t, t'] o.type #[v, u]).run Try.prog w = .ok r w') : (execOp a.eval o).run Try.prog w = .ok (.value r) w' := by
  unfold execOp
  simp only [ho, resolve, invoke, builtin, Sem.run_bind, Sem.run_pure, Result.andThen_ok, List.map_toArray, List.map_cons, List.map_nil, hd, hs, hr]
theorem ex_append {o : Oper} {a : Act} {w w' : World} (d s : Operand) (t t' : TypeId) (ho : o.op = .call { callee := .builtin .append, args := #[d, s], argTypes := #[t, t'] }) {v u r : Value} (hd : a.eval d = v) (hs : a.eval s = u)
    (hr : (Builtin.append_ #[t, t'] o.type #[v, u]).run Try.prog w = .ok r w') : (execOp a.eval o).run Try.prog w = .ok (.value r) w' := by
  unfold execOp
  simp only [ho, resolve, invoke, builtin, Sem.run_bind, Sem.run_pure, Result.andThen_ok, List.map_toArray, List.map_cons, List.map_nil, hd, hs, hr]
theorem ow_run {o : Oper} {a : Act} {w w' : World} {K : Act → World → Prop} {Q : Exit → Act → World → Prop} {v : Value} (hv : (execOp a.eval o).run Try.prog w = .ok (.value v) w') (h : K (a.put o.dst v) w') : o.wp Try.prog a w K Q := by
  unfold Oper.wp
  simp only [hv]
  exact h
theorem grown_trans {a b c : World} {g : Option Nat} (h : a.grownBy b g) (k : b.grownBy c g) : a.grownBy c g :=
  ⟨k.os.trans h.os, k.tape.trans h.tape, k.output.trans h.output, Nat.le_trans h.size k.size, fun i hi hne => (k.block i (Nat.lt_of_lt_of_le hi h.size) hne).trans (h.block i hi hne)⟩
theorem Blk.row (w : World) {g : Nat} {T : TypeId} {cs : Array Value} (h : Blk w g T cs) (ds : Array Value) : Blk (w.setRow g ds) g T ds := setRow_heap w g _ _ T _ h
theorem Blk.rowFar {w : World} {g v : Nat} {T : TypeId} {cs : Array Value} (h : Blk w v T cs) (hne : v ≠ g) (ds : Array Value) : Blk (w.setRow g ds) v T cs := (setRow_other w g v ds hne).trans h
/-- a packet put in -/
def InsP (w : World) (g i : Nat) (x : Pk) (ls : List Pk) (e : Ending) (w' : World) : Prop :=
  ∃ g' c' cs', e = .returned (.slice (some ⟨g', 0, none⟩) (ls.length + 1) c') ∧ Blk w' g' 46 cs' ∧ RowOk c' cs' (ls.take i ++ x :: ls.drop i) ∧ w.grownBy w' (some g) ∧ (g' = g ∨ w.heap.size ≤ g')
theorem overlaps_no {w : World} {v g : Nat} {T T' : TypeId} {a b : Array Value} (hv : Blk w v T a) (hg : Blk w g T' b) (hb : b.size ≠ 0) (hne : v ≠ g) (o lb cb : Nat) :
    (callFunc 55 #[.slice (some ⟨v, 0, none⟩) 1 1, .slice (some ⟨g, o, none⟩) lb cb]).run Try.prog w = .ok (.value (.bool false)) w := by
  have ha : w.frozen? ⟨v, 0, none⟩ = false := hv.frozen 0
  have hb' : w.frozen? { block := v, off := a.size } = false := hv.frozen a.size
  have h1 : w.shape? v = some (T, a.size) := by simp [World.shape?, show w.heap[v]? = _ from hv]
  have h2 : w.shape? g = some (T', b.size) := by simp [World.shape?, show w.heap[g]? = _ from hg]
  rw [run_callFunc_extern Try.func55 (by kernel_rfl) (by kernel_rfl) (by kernel_rfl) (e := Extern.SlicesOverlaps.overlaps #[22, 22] #[4]) (by kernel_rfl),
    Lib.run_overlaps_apart w 22 4 46 Try.underlying22 2 sizePk ⟨v, 0, none⟩ ⟨g, o, none⟩ 1 1 lb cb hne T T' a.size b.size h1 h2 hb ha hb']
  rfl
theorem RowOk.drop {c : Nat} {cs : Array Value} {ls : List Pk} (h : RowOk c cs ls) (i : Nat) (hi : i ≤ ls.length) : ∀ j v, (pcs (ls.drop i))[j]? = some v → cs[i * 2 + j]? = some v := by
  intro j v hv
  have hl := (List.getElem?_eq_some_iff.1 hv).1
  rw [pcs_length, List.length_drop] at hl
  have e : pcs ls = pcs (ls.take i) ++ pcs (ls.drop i) := by rw [← pcs_append, List.take_append_drop]
  have h2 : (pcs ls)[i * 2 + j]? = some v := by
    rw [e, List.getElem?_append_right (by rw [pcs_length, List.length_take]; omega), pcs_length, List.length_take, Nat.min_eq_left hi, Nat.add_sub_cancel_left]
    exact hv
  rw [← h.2.2.2, List.getElem?_take, if_pos (by omega), Array.getElem?_toList] at h2
  exact h2
theorem row_range {w : World} {g : Nat} {T : TypeId} {cs : Array Value} (hb : Blk w g T cs) (o : Nat) {xs : List Value} (h : ∀ j v, xs[j]? = some v → cs[o + j]? = some v) : ∀ j v, xs[j]? = some v → w.cell? ((⟨g, o, none⟩ : Addr).add j) = some v := by
  intro j v hv
  rw [show (⟨g, o, none⟩ : Addr).add j = ⟨g, o + j, none⟩ by unfold Addr.add; split <;> simp_all, hb.cell]
  exact h j v hv
/-- what the row holds when a packet was put in, all behind it moved on -/
theorem shift_ok {c i : Nat} {cs : Array Value} {ls : List Pk} (h : RowOk c cs ls) (hi : i < ls.length) (hc : ls.length + 1 ≤ c) (x : Pk) {c1 c2 : Array Value}
    (h1 : c1 = (cs.toList.take ((i + 1) * 2) ++ pcs (ls.drop i) ++ cs.toList.drop ((i + 1) * 2 + (pcs (ls.drop i)).length)).toArray)
    (h2 : c2 = (c1.toList.take (i * 2) ++ pcs [x] ++ c1.toList.drop (i * 2 + (pcs [x]).length)).toArray) : RowOk c c2 (ls.take i ++ x :: ls.drop i) := by
  obtain ⟨ha, hb, hs, ht⟩ := h
  have hsl : cs.toList.length = c * 2 := by rw [Array.length_toList, hs]
  have e1 : (pcs (ls.drop i)).length = (ls.length - i) * 2 := by rw [pcs_length, List.length_drop]
  have l1 : (cs.toList.take ((i + 1) * 2)).length = (i + 1) * 2 := by rw [List.length_take, hsl]; omega
  have t1 : c1.toList.take (i * 2) = pcs (ls.take i) := by
    rw [h1, List.toList_toArray, List.append_assoc, List.take_append_of_le_length (by omega), List.take_take, Nat.min_eq_left (by omega)]
    have := congrArg (List.take (i * 2)) ht
    rw [List.take_take, Nat.min_eq_left (by omega)] at this
    rw [this]
    conv => lhs; rw [← List.take_append_drop i ls, pcs_append]
    rw [List.take_append_of_le_length (by rw [pcs_length, List.length_take]; omega), List.take_of_length_le (by rw [pcs_length, List.length_take]; omega)]
  have t2 : c1.toList.drop ((i + 1) * 2) = pcs (ls.drop i) ++ cs.toList.drop ((ls.length + 1) * 2) := by
    rw [h1, List.toList_toArray, List.append_assoc, List.drop_append_of_le_length (by omega), List.drop_of_length_le (by omega), List.nil_append, e1]
    congr 2
    omega
  have e2 : c2.toList = pcs (ls.take i ++ x :: ls.drop i) ++ cs.toList.drop ((ls.length + 1) * 2) := by
    rw [h2, List.toList_toArray, t1, show i * 2 + (pcs [x]).length = (i + 1) * 2 by rw [pcs_length]; simp; omega, t2, pcs_append, show x :: ls.drop i = [x] ++ ls.drop i from rfl, pcs_append]
    simp [List.append_assoc]
  have hll : (ls.take i ++ x :: ls.drop i).length = ls.length + 1 := by simp; omega
  refine ⟨by omega, hb, ?_, ?_⟩
  · rw [← Array.length_toList, e2, List.length_append, pcs_length, hll, List.length_drop, hsl]; omega
  · rw [e2, ← pcs_length, List.take_append_of_le_length (Nat.le_refl _), List.take_length]
set_option maxRecDepth 100000 in
set_option maxHeartbeats 4000000 in
theorem insert_shift (v g i c : Nat) (x : Pk) (cs : Array Value) (ls : List Pk) (w : World) (hv : Blk w v 46 (pcs [x]).toArray) (hg : Blk w g 46 cs) (hne : v ≠ g) (hr : Hid (RowOk c cs ls)) (hi : i < ls.length) (hc : ls.length + 1 ≤ c) (hl : ls.length ≤ 1000) :
    Calls Try.prog 50 #[.slice (some ⟨g, 0, none⟩) ls.length c, .int .i64 (i : Int), .slice (some ⟨v, 0, none⟩) 1 1] w (InsP w g i x ls) := by
  have HV := Lib.hid hv
  have HG := Lib.hid hg
  have hcm : c ≤ 9223372036854775807 := by have := hr.out.2.1; unfold maxLen at this; omega
  have HN := Lib.hid hne
  have hov := fun (o lb cb : Nat) => overlaps_no HV.out HG.out (by rw [hr.out.2.2.1]; omega) HN.out o lb cb
  obtain ⟨n, hn⟩ : ∃ n, n = ls.length := ⟨_, rfl⟩
  have HL := Lib.hid hn
  rw [← hn] at hi hc hl ⊢
  have hb2 : ¬ (c = i + 1) := by omega
  have hb3 : (i : Int) ≤ (n : Int) + 1 := by omega
  have hb4 : ¬ (c = i) := by omega
  have hb5 : ¬ ((i : Int) = (n : Int)) := by omega
  have hb6 : ¬ ((c : Int) < (n : Int) + 1) := by omega
  clear hv hg hne hn
  go_enter Try.func50, Try.ntmps50
  go_wp2_with (simp only [hov])
  clear hov
  have w1 : IntKind.i64.wrap ((i : Int) + 1) = (i : Int) + 1 := by rw [IntWalk.i64_in _ (by omega)]
  have w2 : (0 : Int) ≤ (i : Int) + 1 := by omega
  have w3 : ((i : Int) + 1).toNat = i + 1 := by omega
  have w4 : (i : Int) + 1 ≤ (n : Int) + 1 := by omega
  refine wp_region_held_drew (S := fun _ => True) (by kernel_rfl) trivial (fun hHeld => ?_)
  have HV1 := Lib.hid (show Blk w.drew v 46 (pcs [x]).toArray from HV.out.drew)
  have HG1 := Lib.hid (show Blk w.drew g 46 cs from HG.out.drew)
  have HB1 := Lib.hid (show w.grownBy w.drew (some g) from only_drew (only_of_below (Below.refl _ _) _))
  generalize World.drew w = u0 at HV1 HG1 HB1 ⊢
  (refine wa_take (i := 0) (v := .slice (some ⟨g, 0, none⟩) (n + 1) c) rfl (by kernel_rfl) (by kernel_rfl) (by kernel_rfl) (fun _ _ _ h => h) (yi_free rfl (fun u => rfl)) hHeld rfl ?_; (try simp only [Act.put, List.setIfInBounds_toArray, List.set_cons_zero, List.set_cons_succ]))
  (refine wa_take (i := 1) (v := .int .i64 (i : Int)) rfl (by kernel_rfl) (by kernel_rfl) (by kernel_rfl) (fun _ _ _ h => h) (yi_free rfl (fun u => rfl)) hHeld rfl ?_; (try simp only [Act.put, List.setIfInBounds_toArray, List.set_cons_zero, List.set_cons_succ]))
  (refine wa_take (i := 2) (v := .int .i64 1) rfl (by kernel_rfl) (by kernel_rfl) (by kernel_rfl) (fun _ _ _ h => h) (yi_free rfl (fun u => rfl)) hHeld rfl ?_; (try simp only [Act.put, List.setIfInBounds_toArray, List.set_cons_zero, List.set_cons_succ]))
  (refine wa_take (i := 3) (v := .int .i64 ((i : Int) + 1)) rfl (by kernel_rfl) (by kernel_rfl) (by kernel_rfl) (fun _ _ _ h => h) (yi_free rfl (fun u => by go_simp)) hHeld rfl ?_; (try simp only [Act.put, List.setIfInBounds_toArray, List.set_cons_zero, List.set_cons_succ]))
  (refine wa_take (i := 4) (v := .slice (some ⟨g, (i + 1) * 2, none⟩) (n + 1 - (i + 1)) (c - (i + 1))) rfl (by kernel_rfl) (by kernel_rfl) (by kernel_rfl) (fun _ _ _ h => h) (yi_free rfl (fun u => by go_simp)) hHeld rfl ?_; (try simp only [Act.put, List.setIfInBounds_toArray, List.set_cons_zero, List.set_cons_succ]))
  (refine wa_take (i := 5) (v := .slice (some ⟨g, 0, none⟩) (n + 1) c) rfl (by kernel_rfl) (by kernel_rfl) (by kernel_rfl) (fun _ _ _ h => h) (yi_free rfl (fun u => rfl)) hHeld rfl ?_; (try simp only [Act.put, List.setIfInBounds_toArray, List.set_cons_zero, List.set_cons_succ]))
  (refine wa_take (i := 6) (v := .int .i64 (i : Int)) rfl (by kernel_rfl) (by kernel_rfl) (by kernel_rfl) (fun _ _ _ h => h) (yi_free rfl (fun u => rfl)) hHeld rfl ?_; (try simp only [Act.put, List.setIfInBounds_toArray, List.set_cons_zero, List.set_cons_succ]))
  (refine wa_take (i := 7) (v := .slice (some ⟨g, i * 2, none⟩) (n + 1 - i) (c - i)) rfl (by kernel_rfl) (by kernel_rfl) (by kernel_rfl) (fun _ _ _ h => h) (yi_free rfl (fun u => by go_simp)) hHeld rfl ?_; (try simp only [Act.put, List.setIfInBounds_toArray, List.set_cons_zero, List.set_cons_succ]))
  refine wpAnyH_ready (rs := [8]) (by kernel_rfl) (by simp) ?_; refine AllReadyH.cons rfl (fun K hK => ?_) (AllReadyH.nil)
  rw [if_pos (by rfl)]
  have hr9 := hr.out
  have hl9 := HL.out
  refine ow_run (ex_copy _ _ _ _ rfl rfl rfl (run_copy_two HG1.out ((i + 1) * 2) _ _ ⟨g, i * 2, none⟩ _ _ (n - i) (pcs (ls.drop i)) (min_is (by omega)) (by rw [pcs_length, List.length_drop]; omega) (row_range HG1.out _ (hr9.drop i (by omega))) (by rw [pcs_length, List.length_drop, hr9.2.2.1]; omega) (pcs_one _) _)) ?_
  obtain ⟨c1, hc1⟩ : ∃ c1, c1 = (cs.toList.take ((i + 1) * 2) ++ pcs (ls.drop i) ++ cs.toList.drop ((i + 1) * 2 + (pcs (ls.drop i)).length)).toArray := ⟨_, rfl⟩
  rw [← hc1]
  have HG2 := Lib.hid (Blk.row u0 HG1.out c1)
  have HV2 := Lib.hid (Blk.rowFar HV1.out HN.out c1)
  have HB2 := Lib.hid (grown_trans HB1.out (grown_row u0 g c1))
  have HC1 := Lib.hid hc1
  have HS1 := Lib.hid (show c1.size = c * 2 by rw [hc1, List.size_toArray, List.length_append, List.length_append, List.length_take, List.length_drop, pcs_length, List.length_drop, Array.length_toList, hr9.2.2.1]; omega)
  clear hc1 HG1 HV1 HB1 hr9 hl9
  generalize World.setRow u0 g c1 = u1 at HG2 HV2 HB2 ⊢
  refine hK.out _ _ trivial (fun hHeld => ?_)
  clear hK K
  (try simp only [Act.put, List.setIfInBounds_toArray, List.set_cons_zero, List.set_cons_succ])
  refine wpAnyH_done (by kernel_rfl) ?_ _
  have HPX := Lib.hid (show ∀ j v', (pcs [x])[j]? = some v' → (pcs [x]).toArray[0 + j]? = some v' by intro j v' h; rw [Nat.zero_add]; simpa using h)
  have hcp := fun ty => run_copy_two HG2.out (i * 2) (n + 1 - i) (c - i) ⟨v, 0, none⟩ 1 1 1 (pcs [x]) (min_is (by omega)) (by rw [pcs_length]; rfl) (row_range HV2.out _ HPX.out) (by rw [pcs_length, HS1.out]; simp only [List.length_singleton]; omega) (pcs_one _) ty
  obtain ⟨c2, hc2⟩ : ∃ c2, c2 = (c1.toList.take (i * 2) ++ pcs [x] ++ c1.toList.drop (i * 2 + (pcs [x]).length)).toArray := ⟨_, rfl⟩
  rw [← hc2] at hcp
  have HCP := Lib.hid hcp
  have HR2 := Lib.hid (shift_ok hr.out (by rw [← HL.out]; exact hi) (by rw [← HL.out]; exact hc) x HC1.out hc2)
  have HG3 := Lib.hid (Blk.row u1 HG2.out c2)
  have HB3 := Lib.hid (grown_trans HB2.out (grown_row u1 g c2))
  clear hc2 hcp HG2 HV2 HB2
  go_wp2_with (refine wl_run (by rfl) (ex_copy _ _ _ _ rfl rfl rfl (HCP.out _)) ?_)
  go_ret
  exact ⟨g, c, c2, by rw [← HL.out]; rfl, HG3.out, HR2.out, HB3.out, .inl rfl⟩
end Go.Proofs.Ytffapinabidkiaa.Lp
