/-
  A packet taken out of a row of packets.
-/
import Derived.Test.YtffapinabidkiaaUR
set_option linter.unusedSimpArgs false
set_option linter.unusedVariables false
/- US -/
namespace Go.Proofs.Ytffapinabidkiaa.Lp
open Go.RowKit Go.Proofs.Ytffapinabidkiaa.Fq
abbrev zero2 : List Value := [Value.int .i64 0, Value.slice none 0 0]
theorem run_clear_pk {w : World} {g : Nat} {T : TypeId} {cur : Array Value} (hg : Blk w g T cur) (o c : Nat) (hfit : o + 2 ≤ cur.size) (ty : TypeId) :
    (Builtin.clear_ #[22] ty #[.slice (some ⟨g, o, none⟩) 1 c]).run Try.prog w = .ok (.tuple #[]) (w.setRow g (cur.toList.take o ++ zero2 ++ cur.toList.drop (o + 2)).toArray) := by
  have hst := run_storeCells_at Try.prog g o T zero2 0 cur w hg (by simpa using hfit) (by intro v hv; simp at hv; rcases hv with rfl | rfl <;> rfl)
  simp only [Nat.add_zero, List.length_cons, List.length_nil] at hst
  have hz := rowPk.zero w
  have hu := run_underlying Try.underlying22 w
  have hc : (Builtin.zeroCells (Value.agg #[.int .i64 0, .slice none 0 0]).cells 1).toList = zero2 := by kernel_rfl
  simp only [Builtin.clear_, List.getElem?_toArray, List.getElem?_cons_zero, Sem.run_bind, hu, Result.andThen_ok, hz, hc, hst, Sem.run_pure]
theorem ex_clear {o : Oper} {a : Act} {w w' : World} (d : Operand) (t : TypeId) (ho : o.op = .call { callee := .builtin .clear, args := #[d], argTypes := #[t] }) {v r : Value} (hd : a.eval d = v)
    (hr : (Builtin.clear_ #[t] o.type #[v]).run Try.prog w = .ok r w') : (execOp a.eval o).run Try.prog w = .ok (.value r) w' := by
  unfold execOp
  simp only [ho, resolve, invoke, builtin, Sem.run_bind, Sem.run_pure, Result.andThen_ok, List.map_toArray, List.map_cons, List.map_nil, hd, hr]
/-- a packet taken out -/
def DelP (w : World) (g i c : Nat) (ls : List Pk) (e : Ending) (w' : World) : Prop :=
  ∃ cs', e = .returned (.slice (some ⟨g, 0, none⟩) (ls.length - 1) c) ∧ Blk w' g 46 cs' ∧ RowOk c cs' (ls.take i ++ ls.drop (i + 1)) ∧ w.grownBy w' (some g)
theorem del_ok {c i : Nat} {cs : Array Value} {ls : List Pk} (h : RowOk c cs ls) (hi : i < ls.length) {c1 c2 : Array Value}
    (h1 : c1 = (cs.toList.take (i * 2) ++ pcs (ls.drop (i + 1)) ++ cs.toList.drop (i * 2 + (pcs (ls.drop (i + 1))).length)).toArray)
    (h2 : c2 = (c1.toList.take ((ls.length - 1) * 2) ++ zero2 ++ c1.toList.drop ((ls.length - 1) * 2 + 2)).toArray) : RowOk c c2 (ls.take i ++ ls.drop (i + 1)) := by
  obtain ⟨ha, hb, hs, ht⟩ := h
  have hsl : cs.toList.length = c * 2 := by rw [Array.length_toList, hs]
  have ld : (pcs (ls.drop (i + 1))).length = (ls.length - (i + 1)) * 2 := by rw [pcs_length, List.length_drop]
  have t1 : cs.toList.take (i * 2) = pcs (ls.take i) := by
    have := congrArg (List.take (i * 2)) ht
    rw [List.take_take, Nat.min_eq_left (by omega)] at this
    rw [this]
    conv => lhs; rw [← List.take_append_drop i ls, pcs_append]
    rw [List.take_append_of_le_length (by rw [pcs_length, List.length_take]; omega), List.take_of_length_le (by rw [pcs_length, List.length_take]; omega)]
  have lt : (pcs (ls.take i)).length = i * 2 := by rw [pcs_length, List.length_take]; omega
  have hll : (ls.take i ++ ls.drop (i + 1)).length = ls.length - 1 := by simp; omega
  have e1 : c1.toList = pcs (ls.take i ++ ls.drop (i + 1)) ++ cs.toList.drop ((ls.length - 1) * 2) := by
    rw [h1, List.toList_toArray, t1, pcs_append, ld, show i * 2 + (ls.length - (i + 1)) * 2 = (ls.length - 1) * 2 by omega]
  have lp : (pcs (ls.take i ++ ls.drop (i + 1))).length = (ls.length - 1) * 2 := by rw [pcs_length, hll]
  have e2 : c2.toList = pcs (ls.take i ++ ls.drop (i + 1)) ++ (zero2 ++ (cs.toList.drop ((ls.length - 1) * 2)).drop 2) := by
    rw [h2, List.toList_toArray, e1]
    have f1 : (pcs (ls.take i ++ ls.drop (i + 1)) ++ cs.toList.drop ((ls.length - 1) * 2)).take ((ls.length - 1) * 2) = pcs (ls.take i ++ ls.drop (i + 1)) := by rw [← lp, List.take_append_of_le_length (Nat.le_refl _), List.take_length]
    have f2 : (pcs (ls.take i ++ ls.drop (i + 1)) ++ cs.toList.drop ((ls.length - 1) * 2)).drop ((ls.length - 1) * 2 + 2) = (cs.toList.drop ((ls.length - 1) * 2)).drop 2 := by
      rw [List.drop_append, List.drop_of_length_le (by omega), List.nil_append, lp, Nat.add_sub_cancel_left]
    rw [f1, f2, List.append_assoc]
  refine ⟨by omega, hb, ?_, ?_⟩
  · rw [← Array.length_toList, e2, List.length_append, lp, List.length_append, List.length_drop, List.length_drop, hsl]
    simp only [List.length_cons, List.length_nil]
    omega
  · rw [e2, ← pcs_length, List.take_append_of_le_length (Nat.le_refl _), List.take_length]
set_option maxRecDepth 100000 in
set_option maxHeartbeats 4000000 in
theorem delete_any (g i c : Nat) (cs : Array Value) (ls : List Pk) (w : World) (hg : Blk w g 46 cs) (hr : Hid (RowOk c cs ls)) (hi : i < ls.length) (hl : ls.length ≤ 1000) :
    Calls Try.prog 52 #[.slice (some ⟨g, 0, none⟩) ls.length c, .int .i64 (i : Int), .int .i64 ((i : Int) + 1)] w (DelP w g i c ls) := by
  obtain ⟨i0, hi0, hz0, hz1, hz2⟩ := info_partsT info_pk
  have hr9 := hr.out
  have hdr := hr9.drop (i + 1) (by omega)
  have HG0 := Lib.hid (show Blk w.drew g 46 cs from hg.drew)
  have HB0 := Lib.hid (show w.grownBy w.drew (some g) from only_drew (only_of_below (Below.refl _ _) _))
  obtain ⟨c1, hc1⟩ : ∃ c1, c1 = (cs.toList.take (i * 2) ++ pcs (ls.drop (i + 1)) ++ cs.toList.drop (i * 2 + (pcs (ls.drop (i + 1))).length)).toArray := ⟨_, rfl⟩
  have hs1 : c1.size = c * 2 := by
    rw [hc1, List.size_toArray, List.length_append, List.length_append, List.length_take, List.length_drop, pcs_length, List.length_drop, Array.length_toList, hr9.2.2.1]; have := hr9.1; omega
  have hap : ∀ (u : World) (ad : Addr) (mc : Nat), Blk u g 46 cs → (∀ j v, (pcs (ls.drop (i + 1)))[j]? = some v → u.cell? (ad.add j) = some v) → ∀ ty, (Builtin.append_ #[22, 22] ty #[.slice (some ⟨g, 0, none⟩) i c, .slice (some ad) (ls.length - (i + 1)) mc]).run Try.prog u = .ok (.slice (some ⟨g, 0, none⟩) (ls.length - 1) c) (u.setRow g c1) := fun u ad mc hu hn ty => by
    have := run_append_room (P := Try.prog) u 22 ty 46 i0 Try.underlying22 hi0 g i c cs hu ad (ls.length - (i + 1)) mc (pcs (ls.drop (i + 1))) (by rw [pcs_length, List.length_drop, hz1]) hn (pcs_one _) (by have := hr9.1; omega) (by rw [pcs_length, List.length_drop, hz1, hr9.2.2.1]; have := hr9.1; omega)
    rw [hz1, ← hc1, show i + (ls.length - (i + 1)) = ls.length - 1 by omega] at this
    exact this
  have HAP := Lib.hid hap
  have HS1 := Lib.hid hs1
  have HC1 := Lib.hid hc1
  have HDR := Lib.hid hdr
  have hcm : c ≤ 9223372036854775807 := by have := hr9.2.1; unfold maxLen at this; omega
  have hcn := hr9.1
  obtain ⟨n, hn⟩ : ∃ n, n = ls.length := ⟨_, rfl⟩
  have HL := Lib.hid hn
  rw [← hn] at hi hl hcn HAP ⊢
  have w1 : IntKind.i64.wrap ((i : Int) + 1) = (i : Int) + 1 := by rw [IntWalk.i64_in _ (by omega)]
  have w2 : (0 : Int) ≤ (i : Int) + 1 := by omega
  have w3 : ((i : Int) + 1).toNat = i + 1 := by omega
  have w4 : (i : Int) + 1 ≤ (n : Int) := by omega
  have w5 : ¬ ((i : Int) = (i : Int) + 1) := by omega
  have w6 : (i : Int) ≤ (i : Int) + 1 := by omega
  have w7 : (i : Int) ≤ (n : Int) := by omega
  have b1 : ¬ c = i := by omega
  have w8 : (i : Int) ≤ (c : Int) := by omega
  clear hn hi0 hz0 hz1 hz2 hr9 hdr hg hc1 hs1 hap
  by_cases hci : c = i + 1
  · subst hci
    obtain rfl : n = i + 1 := by omega
    have HN := Lib.hid (show pcs (ls.drop (i + 1)) = [] by rw [HL.out, List.drop_length]; rfl)
    rw [HN.out, Nat.sub_self] at HAP
    go_enter Try.func52, Try.ntmps52
    go_wp2_with fail
    refine wp_region_held_drew (S := fun _ => True) (by kernel_rfl) trivial (fun hHeld => ?_)
    have HG1 := HG0
    have HB1 := HB0
    clear HG0 HB0
    generalize World.drew w = u0 at HG1 HB1 ⊢
    (refine wa_take (i := 0) (v := .slice (some ⟨g, 0, none⟩) (i + 1) (i + 1)) rfl (by kernel_rfl) (by kernel_rfl) (by kernel_rfl) (fun _ _ _ h => h) (yi_free rfl (fun u => rfl)) hHeld rfl ?_; (try simp only [Act.put, List.setIfInBounds_toArray, List.set_cons_zero, List.set_cons_succ]))
    (refine wa_take (i := 1) (v := .int .i64 (i : Int)) rfl (by kernel_rfl) (by kernel_rfl) (by kernel_rfl) (fun _ _ _ h => h) (yi_free rfl (fun u => rfl)) hHeld rfl ?_; (try simp only [Act.put, List.setIfInBounds_toArray, List.set_cons_zero, List.set_cons_succ]))
    (refine wa_take (i := 2) (v := .slice (some ⟨g, 0, none⟩) i (i + 1)) rfl (by kernel_rfl) (by kernel_rfl) (by kernel_rfl) (fun _ _ _ h => h) (yi_free rfl (fun u => by go_simp)) hHeld rfl ?_; (try simp only [Act.put, List.setIfInBounds_toArray, List.set_cons_zero, List.set_cons_succ]))
    (refine wa_take (i := 3) (v := .slice (some ⟨g, 0, none⟩) (i + 1) (i + 1)) rfl (by kernel_rfl) (by kernel_rfl) (by kernel_rfl) (fun _ _ _ h => h) (yi_free rfl (fun u => rfl)) hHeld rfl ?_; (try simp only [Act.put, List.setIfInBounds_toArray, List.set_cons_zero, List.set_cons_succ]))
    (refine wa_take (i := 4) (v := .int .i64 ((i : Int) + 1)) rfl (by kernel_rfl) (by kernel_rfl) (by kernel_rfl) (fun _ _ _ h => h) (yi_free rfl (fun u => rfl)) hHeld rfl ?_; (try simp only [Act.put, List.setIfInBounds_toArray, List.set_cons_zero, List.set_cons_succ]))
    (refine wa_take (i := 5) (v := .slice (some ⟨g, 0, none⟩) 0 0) rfl (by kernel_rfl) (by kernel_rfl) (by kernel_rfl) (fun _ _ _ h => h) (yi_free rfl (fun u => by go_simp)) hHeld rfl ?_; (try simp only [Act.put, List.setIfInBounds_toArray, List.set_cons_zero, List.set_cons_succ]))
    refine wpAnyH_ready (rs := [6]) (by kernel_rfl) (by simp) ?_; refine AllReadyH.cons rfl (fun K hK => ?_) (AllReadyH.nil)
    rw [if_pos (by rfl)]
    refine ow_run (ex_append _ _ _ _ rfl rfl rfl (HAP.out u0 ⟨g, 0, none⟩ _ HG1.out (fun j v hv => (nomatch hv)) _)) ?_
    have HG2 := Lib.hid (Blk.row u0 HG1.out c1)
    have HB2 := Lib.hid (grown_trans HB1.out (grown_row u0 g c1))
    clear HG1 HB1 HAP HDR
    generalize World.setRow u0 g c1 = u1 at HG2 HB2 ⊢
    refine hK.out _ _ trivial (fun hHeld => ?_)
    clear hK K
    (try simp only [Act.put, List.setIfInBounds_toArray, List.set_cons_zero, List.set_cons_succ])
    (refine wa_take (i := 7) (v := .slice (some ⟨g, 0, none⟩) ((i + 1) - 1) (i + 1)) rfl (by kernel_rfl) (by kernel_rfl) (by kernel_rfl) (fun _ _ _ h => h) (yi_free rfl (fun u => rfl)) hHeld rfl ?_; (try simp only [Act.put, List.setIfInBounds_toArray, List.set_cons_zero, List.set_cons_succ]))
    refine wpAnyH_done (by kernel_rfl) ?_ _
    have hcl := fun k ty => run_clear_pk HG2.out (((i + 1) - 1) * 2) k (by rw [HS1.out]; omega) ty
    obtain ⟨c2, hc2⟩ : ∃ c2, c2 = (c1.toList.take (((i + 1) - 1) * 2) ++ zero2 ++ c1.toList.drop (((i + 1) - 1) * 2 + 2)).toArray := ⟨_, rfl⟩
    rw [← hc2] at hcl
    have HCL := Lib.hid hcl
    have HOK := Lib.hid (del_ok (c2 := c2) hr.out (by rw [← HL.out]; exact hi) HC1.out (by rw [← HL.out]; exact hc2))
    have HG3 := Lib.hid (Blk.row u1 HG2.out c2)
    have HB3 := Lib.hid (grown_trans HB2.out (grown_row u1 g c2))
    clear hcl hc2 HG2 HB2
    have e1 : (i + 1) - ((i + 1) - 1) = 1 := by omega
    have e2 : (i + 1) - 1 ≤ (i + 1) := by omega
    have e3 : (((i + 1) - 1 : Nat) : Int) ≤ (((i + 1) : Nat) : Int) := by omega
    have e4 : ¬ (i + 1) = (i + 1) - 1 := by omega
    go_wp2_with (refine wl_run (by rfl) (ex_clear _ _ rfl rfl (HCL.out _ _)) ?_)
    go_ret
    exact ⟨c2, by rw [← HL.out]; rfl, HG3.out, HOK.out, HB3.out⟩
  · have hc9 : ¬ c = i + 1 := hci
    go_enter Try.func52, Try.ntmps52
    go_wp2_with fail
    refine wp_region_held_drew (S := fun _ => True) (by kernel_rfl) trivial (fun hHeld => ?_)
    have HG1 := HG0
    have HB1 := HB0
    clear HG0 HB0
    generalize World.drew w = u0 at HG1 HB1 ⊢
    (refine wa_take (i := 0) (v := .slice (some ⟨g, 0, none⟩) n c) rfl (by kernel_rfl) (by kernel_rfl) (by kernel_rfl) (fun _ _ _ h => h) (yi_free rfl (fun u => rfl)) hHeld rfl ?_; (try simp only [Act.put, List.setIfInBounds_toArray, List.set_cons_zero, List.set_cons_succ]))
    (refine wa_take (i := 1) (v := .int .i64 (i : Int)) rfl (by kernel_rfl) (by kernel_rfl) (by kernel_rfl) (fun _ _ _ h => h) (yi_free rfl (fun u => rfl)) hHeld rfl ?_; (try simp only [Act.put, List.setIfInBounds_toArray, List.set_cons_zero, List.set_cons_succ]))
    (refine wa_take (i := 2) (v := .slice (some ⟨g, 0, none⟩) i c) rfl (by kernel_rfl) (by kernel_rfl) (by kernel_rfl) (fun _ _ _ h => h) (yi_free rfl (fun u => by go_simp)) hHeld rfl ?_; (try simp only [Act.put, List.setIfInBounds_toArray, List.set_cons_zero, List.set_cons_succ]))
    (refine wa_take (i := 3) (v := .slice (some ⟨g, 0, none⟩) n c) rfl (by kernel_rfl) (by kernel_rfl) (by kernel_rfl) (fun _ _ _ h => h) (yi_free rfl (fun u => rfl)) hHeld rfl ?_; (try simp only [Act.put, List.setIfInBounds_toArray, List.set_cons_zero, List.set_cons_succ]))
    (refine wa_take (i := 4) (v := .int .i64 ((i : Int) + 1)) rfl (by kernel_rfl) (by kernel_rfl) (by kernel_rfl) (fun _ _ _ h => h) (yi_free rfl (fun u => rfl)) hHeld rfl ?_; (try simp only [Act.put, List.setIfInBounds_toArray, List.set_cons_zero, List.set_cons_succ]))
    (refine wa_take (i := 5) (v := .slice (some ⟨g, (i + 1) * 2, none⟩) (n - (i + 1)) (c - (i + 1))) rfl (by kernel_rfl) (by kernel_rfl) (by kernel_rfl) (fun _ _ _ h => h) (yi_free rfl (fun u => by go_simp)) hHeld rfl ?_; (try simp only [Act.put, List.setIfInBounds_toArray, List.set_cons_zero, List.set_cons_succ]))
    refine wpAnyH_ready (rs := [6]) (by kernel_rfl) (by simp) ?_; refine AllReadyH.cons rfl (fun K hK => ?_) (AllReadyH.nil)
    rw [if_pos (by rfl)]
    refine ow_run (ex_append _ _ _ _ rfl rfl rfl (HAP.out u0 ⟨g, (i + 1) * 2, none⟩ _ HG1.out (row_range HG1.out _ HDR.out) _)) ?_
    have HG2 := Lib.hid (Blk.row u0 HG1.out c1)
    have HB2 := Lib.hid (grown_trans HB1.out (grown_row u0 g c1))
    clear HG1 HB1 HAP HDR
    generalize World.setRow u0 g c1 = u1 at HG2 HB2 ⊢
    refine hK.out _ _ trivial (fun hHeld => ?_)
    clear hK K
    (try simp only [Act.put, List.setIfInBounds_toArray, List.set_cons_zero, List.set_cons_succ])
    (refine wa_take (i := 7) (v := .slice (some ⟨g, 0, none⟩) (n - 1) c) rfl (by kernel_rfl) (by kernel_rfl) (by kernel_rfl) (fun _ _ _ h => h) (yi_free rfl (fun u => rfl)) hHeld rfl ?_; (try simp only [Act.put, List.setIfInBounds_toArray, List.set_cons_zero, List.set_cons_succ]))
    refine wpAnyH_done (by kernel_rfl) ?_ _
    have hcl := fun k ty => run_clear_pk HG2.out ((n - 1) * 2) k (by rw [HS1.out]; omega) ty
    obtain ⟨c2, hc2⟩ : ∃ c2, c2 = (c1.toList.take ((n - 1) * 2) ++ zero2 ++ c1.toList.drop ((n - 1) * 2 + 2)).toArray := ⟨_, rfl⟩
    rw [← hc2] at hcl
    have HCL := Lib.hid hcl
    have HOK := Lib.hid (del_ok (c2 := c2) hr.out (by rw [← HL.out]; exact hi) HC1.out (by rw [← HL.out]; exact hc2))
    have HG3 := Lib.hid (Blk.row u1 HG2.out c2)
    have HB3 := Lib.hid (grown_trans HB2.out (grown_row u1 g c2))
    clear hcl hc2 HG2 HB2
    have e1 : n - (n - 1) = 1 := by omega
    have e2 : n - 1 ≤ n := by omega
    have e3 : ((n - 1 : Nat) : Int) ≤ ((n : Nat) : Int) := by omega
    have e4 : ¬ c = n - 1 := by omega
    go_wp2_with (refine wl_run (by rfl) (ex_clear _ _ rfl rfl (HCL.out _ _)) ?_)
    go_ret
    exact ⟨c2, by rw [← HL.out]; rfl, HG3.out, HOK.out, HB3.out⟩
end Go.Proofs.Ytffapinabidkiaa.Lp
