/-
  A packet put behind a row, or into a row that has no room.
-/
import Derived.Test.YtffapinabidkiaaUI
set_option linter.unusedSimpArgs false
set_option linter.unusedVariables false
/- UJ -/
namespace Go.Proofs.Ytffapinabidkiaa.Lp
open Go.RowKit Go.Proofs.Ytffapinabidkiaa.Fq
theorem own_row {w : World} {B n : Nat} {v : Value} {ls : List Pk} (h : w.ownsRow B 46 2 v n (pcs ls)) (h0 : 0 < n) : ∃ g c cs, v = .slice (some ⟨g, 0, none⟩) n c ∧ Blk w g 46 cs ∧ RowOk c cs ls ∧ ls.length = n := by
  have hl : ls.length = n := by have := h.1; rw [pcs_length] at this; omega
  rcases h.2 with ⟨_, h1⟩ | ⟨g, cap, cur, rfl, hb, hh, h1, h2, h3, h4⟩
  · omega
  · exact ⟨g, cap, cur, rfl, hh, ⟨by omega, h2, h3, by rw [hl]; exact h4⟩, hl⟩
set_option maxRecDepth 100000 in
set_option maxHeartbeats 4000000 in
theorem insert_end (v g c : Nat) (x : Pk) (cs : Array Value) (ls : List Pk) (w : World) (hv : Blk w v 46 (pcs [x]).toArray) (hg : Blk w g 46 cs) (hr : Hid (RowOk c cs ls)) (hl : ls.length ≤ 1000) :
    Calls Try.prog 50 #[.slice (some ⟨g, 0, none⟩) ls.length c, .int .i64 (ls.length : Int), .slice (some ⟨v, 0, none⟩) 1 1] w (InsP w g ls.length x ls) := by
  obtain ⟨i0, hi0, hz0, hz1, hz2⟩ := info_partsT info_pk
  have HOW := Lib.hid (hr.out.owns hg (Nat.zero_le g))
  have HPX := Lib.hid (row_range hv 0 (xs := pcs [x]) (by intro j v' h; rw [Nat.zero_add]; simpa using h))
  have hcn := hr.out.1
  obtain ⟨n, hn⟩ : ∃ n, n = ls.length := ⟨_, rfl⟩
  have HL := Lib.hid hn
  rw [← hn] at hl hcn HOW ⊢
  have HLN := Lib.hid (show (pcs [x]).length = 1 * 2 by rw [pcs_length]; rfl)
  have hcm : c ≤ 9223372036854775807 := by have := hr.out.2.1; unfold maxLen at this; omega
  clear hn hv hg
  by_cases hb : c = n
  all_goals
    go_enter Try.func50, Try.ntmps50
    go_wp2_with (at_builtin; refine wpList_append_own_at _ rfl (.tmp 23) (.tmp 24) 22 rfl 0 46 i0 _ 2 32 Try.underlying22 hi0 hz0 hz1 hz2 rfl (by omega) _ n (pcs ls) rfl HOW.out ⟨v, 0, none⟩ 1 1 (pcs [x]) rfl HLN.out HPX.out (pcs_one _) (by unfold maxLen; omega) (by omega) (Nat.zero_le _) ?_; intro va w2 ho2 hg2 _ hb2; rw [← pcs_append] at ho2; have HO2 := Lib.hid ho2; have HG2 := Lib.hid hg2; have HB2 := Lib.hid hb2; clear ho2 hg2 hb2)
    go_ret
    obtain ⟨g', c', cs', rfl, h1, h2, h3⟩ := own_row HO2.out (by omega)
    refine ⟨g', c', cs', by rw [← HL.out]; rfl, h1, by rw [HL.out, List.take_length, List.drop_length]; exact h2, HG2.out, ?_⟩
    rcases HB2.out with h4 | h4
    · exact .inl (by have h5 : some g' = some g := h4; injection h5)
    · exact .inr (Nat.le_of_eq (by have h5 : some g' = some w.heap.size := h4; injection h5 with h5; exact h5.symm))
/-- what the new row holds -/
theorem grow_ok {c i G : Nat} {cs : Array Value} {ls : List Pk} (h : RowOk c cs ls) (hi : i < ls.length) (hG : ls.length + 1 ≤ G) (hGm : G ≤ maxLen) (x : Pk) {r0 r1 r2 : Array Value} {zs : List Value} (hz : zs.length = (G - i) * 2)
    (h0 : r0.toList = pcs (ls.take i) ++ zs)
    (h1 : r1 = (r0.toList.take (i * 2) ++ pcs [x] ++ r0.toList.drop (i * 2 + (pcs [x]).length)).toArray)
    (h2 : r2 = (r1.toList.take ((i + 1) * 2) ++ pcs (ls.drop i) ++ r1.toList.drop ((i + 1) * 2 + (pcs (ls.drop i)).length)).toArray) : RowOk G r2 (ls.take i ++ x :: ls.drop i) := by
  have lt : (pcs (ls.take i)).length = i * 2 := by rw [pcs_length, List.length_take]; omega
  have ld : (pcs (ls.drop i)).length = (ls.length - i) * 2 := by rw [pcs_length, List.length_drop]
  have lx : (pcs [x]).length = 2 := by rw [pcs_length]; rfl
  have e1 : r1.toList = pcs (ls.take i) ++ pcs [x] ++ zs.drop 2 := by
    rw [h1, List.toList_toArray, h0, List.take_append_of_le_length (by omega), List.take_of_length_le (by omega), lx, List.drop_append, lt, List.drop_of_length_le (by omega), List.nil_append]
    congr 2
    omega
  have e3 : ∀ (P Z : List Value) (k m : Nat), P.length = k → (P ++ Z).take k = P ∧ (P ++ Z).drop (k + m) = Z.drop m := fun P Z k m hk => ⟨by rw [← hk, List.take_append_of_le_length (Nat.le_refl _), List.take_length], by rw [← hk, List.drop_append, List.drop_of_length_le (by omega), List.nil_append, Nat.add_sub_cancel_left]⟩
  obtain ⟨f1, f2⟩ := e3 (pcs (ls.take i) ++ pcs [x]) (zs.drop 2) ((i + 1) * 2) (pcs (ls.drop i)).length (by rw [List.length_append, lt, lx]; omega)
  have e2 : r2.toList = pcs (ls.take i ++ x :: ls.drop i) ++ zs.drop (2 + (ls.length - i) * 2) := by
    rw [h2, List.toList_toArray, e1, f1, f2, List.drop_drop, pcs_append, show x :: ls.drop i = [x] ++ ls.drop i from rfl, pcs_append, ld]
    simp only [List.append_assoc]
  have hll : (ls.take i ++ x :: ls.drop i).length = ls.length + 1 := by simp; omega
  refine ⟨by omega, hGm, ?_, ?_⟩
  · rw [← Array.length_toList, e2, List.length_append, pcs_length, hll, List.length_drop, hz]; omega
  · rw [e2, ← pcs_length, List.take_append_of_le_length (Nat.le_refl _), List.take_length]
set_option maxRecDepth 100000 in
set_option maxHeartbeats 4000000 in
theorem insert_grow (v g i c : Nat) (x : Pk) (cs : Array Value) (ls : List Pk) (w : World) (hv : Blk w v 46 (pcs [x]).toArray) (hg : Blk w g 46 cs) (hr : Hid (RowOk c cs ls)) (hi : i < ls.length) (hc : c = ls.length) (hl : ls.length ≤ 1000) :
    Calls Try.prog 50 #[.slice (some ⟨g, 0, none⟩) ls.length c, .int .i64 (i : Int), .slice (some ⟨v, 0, none⟩) 1 1] w (InsP w g i x ls) := by
  obtain ⟨i0, hi0, hz0, hz1, hz2⟩ := info_partsT info_pk
  have hr9 := hr.out
  have hdr := hr9.drop i (by omega)
  subst hc
  have hrz : ∀ ty, (Builtin.append_ #[22, 3] ty #[.slice (some ⟨g, 0, none⟩) i ls.length, .int .i64 ((ls.length + 1 - i : Nat) : Int)]).run Try.prog w = _ := fun ty =>
    Lib.run_append_grow_zeros w 22 3 ty 46 i0 _ .i64 .i64 Try.underlying22 Try.underlying3 hi0 hz0 (some ⟨g, 0, none⟩) i ls.length (pcs (ls.take i)) (by
      rw [hz1]
      exact run_firstCells_some w.drew 2 i ⟨g, 0, none⟩ i ls.length (pcs (ls.take i)) (by rw [pcs_length, List.length_take]; omega) (fun j u hj => by
        rw [add_own]
        show w.cell? _ = _
        rw [hg.cell]
        have hlj := (List.getElem?_eq_some_iff.1 hj).1
        rw [pcs_length, List.length_take] at hlj
        have e : (pcs ls)[j]? = some u := by
          rw [← List.take_append_drop i ls, pcs_append, List.getElem?_append_left (by rw [pcs_length, List.length_take]; omega)]
          exact hj
        rw [← hr9.2.2.2, List.getElem?_take, if_pos (by omega), Array.getElem?_toList] at e
        exact e)) (ls.length + 1 - i) (by omega) (by omega) (by omega) (by omega) (by rw [hz2]; omega) (by rw [hz2]; exact growslice_fits (by omega) (by omega))
  rw [show i + (ls.length + 1 - i) = ls.length + 1 by omega] at hrz
  obtain ⟨G, hG⟩ : ∃ G, G = grownCap w (ls.length + 1) ls.length 46 := ⟨_, rfl⟩
  have hG1 : ls.length + 1 ≤ G := by rw [hG]; exact grownCap_ge w _ _ _
  have hG2 : G ≤ maxLen := by rw [hG]; exact grownCap_le_maxLen w _ _ _ (by unfold maxLen; omega)
  rw [← hG] at hrz
  obtain ⟨r0, h0⟩ : ∃ r0, r0 = (pcs (ls.take i)).toArray ++ Builtin.zeroCells (Value.agg #[.int .i64 0, .slice none 0 0]).cells (ls.length + 1 - i) ++ Builtin.zeroCells (Value.agg #[.int .i64 0, .slice none 0 0]).cells (G - (ls.length + 1)) := ⟨_, rfl⟩
  rw [← h0] at hrz
  obtain ⟨zs, hzs, hzl⟩ : ∃ zs : List Value, r0.toList = pcs (ls.take i) ++ zs ∧ zs.length = (G - i) * 2 :=
    ⟨(Builtin.zeroCells (Value.agg #[.int .i64 0, .slice none 0 0]).cells (ls.length + 1 - i)).toList ++ (Builtin.zeroCells (Value.agg #[.int .i64 0, .slice none 0 0]).cells (G - (ls.length + 1))).toList, by rw [h0]; simp, by
      have q := fun k => (Array.length_toList (xs := Builtin.zeroCells (Value.agg #[.int .i64 0, .slice none 0 0]).cells k)).trans (size_zeroCells _ k)
      rw [List.length_append, q, q]
      show (ls.length + 1 - i) * 2 + (G - (ls.length + 1)) * 2 = (G - i) * 2
      omega⟩
  have hr0 : r0.size = G * 2 := by rw [← Array.length_toList, hzs, List.length_append, pcs_length, List.length_take, hzl]; omega
  obtain ⟨W1, hW1⟩ : ∃ W1, W1 = w.drew.alloc (.cells r0 46) := ⟨_, rfl⟩
  rw [← hW1] at hrz
  have hb1 : Blk W1 w.heap.size 46 r0 := by rw [hW1]; exact Blk.new w.drew _ _
  have hv1 : Blk W1 v 46 (pcs [x]).toArray := by rw [hW1]; exact (hv.drew).alloc _
  have hg1 : Blk W1 g 46 cs := by rw [hW1]; exact (hg.drew).alloc _
  have hB1 : w.grownBy W1 (some w.heap.size) := by rw [hW1]; exact only_of_below ((Below.drew (Below.refl w.heap.size w)).alloc (by show w.heap.size ≤ w.heap.size; exact Nat.le_refl _) _) _
  have hvl := hv.lt
  have hgl := hg.lt
  obtain ⟨D, hD⟩ : ∃ D, D = w.heap.size := ⟨_, rfl⟩
  rw [← hD] at hrz hb1 hB1 hvl hgl
  have HVD := Lib.hid (show v ≠ D by omega)
  have HGD := Lib.hid (show g ≠ D by omega)
  have hcp1 := fun ty => run_copy_two hb1 (i * 2) (ls.length + 1 - i) (G - i) ⟨v, 0, none⟩ 1 1 1 (pcs [x]) (min_is (by omega)) (by rw [pcs_length]; rfl) (row_range hv1 0 (by intro j v' h; rw [Nat.zero_add]; simpa using h)) (by rw [pcs_length, hr0]; simp only [List.length_singleton]; omega) (pcs_one _) ty
  obtain ⟨r1, h1⟩ : ∃ r1, r1 = (r0.toList.take (i * 2) ++ pcs [x] ++ r0.toList.drop (i * 2 + (pcs [x]).length)).toArray := ⟨_, rfl⟩
  rw [← h1] at hcp1
  have hr1 : r1.size = G * 2 := by
    rw [h1, List.size_toArray, List.length_append, List.length_append, List.length_take, List.length_drop, pcs_length, Array.length_toList, hr0]; simp only [List.length_singleton]; omega
  have HRZ := Lib.hid hrz
  have HC1 := Lib.hid hcp1
  have HB1 := Lib.hid (Blk.row W1 hb1 r1)
  have HG1 := Lib.hid (Blk.rowFar hg1 HGD.out r1)
  have HW1 := Lib.hid (grown_trans hB1 (grown_row W1 D r1))
  have H1 := Lib.hid h1
  have H0 := Lib.hid hzs
  have HZ := Lib.hid hzl
  have HR1 := Lib.hid hr1
  have HGM := Lib.hid hG2
  have HD := Lib.hid hD
  have HDR := Lib.hid hdr
  obtain ⟨n, hn⟩ : ∃ n, n = ls.length := ⟨_, rfl⟩
  have HL := Lib.hid hn
  rw [← hn] at hi hl hG1 HRZ HC1 ⊢
  have HKK := Lib.hid (show ((n : Int) + 1 - (i : Int)) = ((n + 1 - i : Nat) : Int) by omega)
  have hb3 : (i : Int) ≤ (n : Int) := by omega
  have hb4 : ¬ (n = i) := by omega
  have hb5 : ¬ ((i : Int) = (n : Int)) := by omega
  have hb6 : ¬ (G = i) := by omega
  have hb7 : ¬ (G = i + 1) := by omega
  have hb8 : G ≤ 9223372036854775807 := by unfold maxLen at hG2; omega
  have w1 : IntKind.i64.wrap ((i : Int) + 1) = (i : Int) + 1 := by rw [IntWalk.i64_in _ (by omega)]
  have w2 : (0 : Int) ≤ (i : Int) + 1 := by omega
  have w3 : ((i : Int) + 1).toNat = i + 1 := by omega
  have w4 : (i : Int) + 1 ≤ (n : Int) + 1 := by omega
  clear hn hi0 hz0 hz1 hz2 hr9 hdr hv hg hrz hG hG2 h0 hzs hzl hr0 hW1 hb1 hv1 hg1 hB1 hvl hgl hD hcp1 h1 hr1
  go_enter Try.func50, Try.ntmps50
  go_wp2_with (first | (refine wl_run (by rfl) (ex_append _ _ _ _ rfl rfl rfl (by rw [HKK.out]; exact HRZ.out _)) ?_) | (refine wl_run (by rfl) (ex_copy _ _ _ _ rfl rfl rfl (HC1.out _)) ?_))
  have hl9 := HL.out
  refine wp_region_held_drew (S := fun _ => True) (by kernel_rfl) trivial (fun hHeld => ?_)
  have HB2 := Lib.hid (show Blk (W1.setRow D r1).drew D 46 r1 from HB1.out.drew)
  have HG2 := Lib.hid (show Blk (W1.setRow D r1).drew g 46 cs from HG1.out.drew)
  have HW2 := Lib.hid (show w.grownBy (W1.setRow D r1).drew (some D) from only_drew HW1.out)
  clear hl9
  generalize World.drew (W1.setRow D r1) = u0 at HB2 HG2 HW2 ⊢
  (refine wa_take (i := 0) (v := .slice (some ⟨D, 0, none⟩) (n + 1) G) rfl (by kernel_rfl) (by kernel_rfl) (by kernel_rfl) (fun _ _ _ h => h) (yi_free rfl (fun u => rfl)) hHeld rfl ?_; (try simp only [Act.put, List.setIfInBounds_toArray, List.set_cons_zero, List.set_cons_succ]))
  (refine wa_take (i := 1) (v := .int .i64 (i : Int)) rfl (by kernel_rfl) (by kernel_rfl) (by kernel_rfl) (fun _ _ _ h => h) (yi_free rfl (fun u => rfl)) hHeld rfl ?_; (try simp only [Act.put, List.setIfInBounds_toArray, List.set_cons_zero, List.set_cons_succ]))
  (refine wa_take (i := 2) (v := .int .i64 1) rfl (by kernel_rfl) (by kernel_rfl) (by kernel_rfl) (fun _ _ _ h => h) (yi_free rfl (fun u => rfl)) hHeld rfl ?_; (try simp only [Act.put, List.setIfInBounds_toArray, List.set_cons_zero, List.set_cons_succ]))
  (refine wa_take (i := 3) (v := .int .i64 ((i : Int) + 1)) rfl (by kernel_rfl) (by kernel_rfl) (by kernel_rfl) (fun _ _ _ h => h) (yi_free rfl (fun u => by go_simp)) hHeld rfl ?_; (try simp only [Act.put, List.setIfInBounds_toArray, List.set_cons_zero, List.set_cons_succ]))
  (refine wa_take (i := 4) (v := .slice (some ⟨D, (i + 1) * 2, none⟩) (n + 1 - (i + 1)) (G - (i + 1))) rfl (by kernel_rfl) (by kernel_rfl) (by kernel_rfl) (fun _ _ _ h => h) (yi_free rfl (fun u => by go_simp)) hHeld rfl ?_; (try simp only [Act.put, List.setIfInBounds_toArray, List.set_cons_zero, List.set_cons_succ]))
  (refine wa_take (i := 5) (v := .slice (some ⟨g, 0, none⟩) n n) rfl (by kernel_rfl) (by kernel_rfl) (by kernel_rfl) (fun _ _ _ h => h) (yi_free rfl (fun u => rfl)) hHeld rfl ?_; (try simp only [Act.put, List.setIfInBounds_toArray, List.set_cons_zero, List.set_cons_succ]))
  (refine wa_take (i := 6) (v := .int .i64 (i : Int)) rfl (by kernel_rfl) (by kernel_rfl) (by kernel_rfl) (fun _ _ _ h => h) (yi_free rfl (fun u => rfl)) hHeld rfl ?_; (try simp only [Act.put, List.setIfInBounds_toArray, List.set_cons_zero, List.set_cons_succ]))
  (refine wa_take (i := 7) (v := .slice (some ⟨g, i * 2, none⟩) (n - i) (n - i)) rfl (by kernel_rfl) (by kernel_rfl) (by kernel_rfl) (fun _ _ _ h => h) (yi_free rfl (fun u => by go_simp)) hHeld rfl ?_; (try simp only [Act.put, List.setIfInBounds_toArray, List.set_cons_zero, List.set_cons_succ]))
  refine wpAnyH_ready (rs := [8]) (by kernel_rfl) (by simp) ?_; refine AllReadyH.cons rfl (fun K hK => ?_) (AllReadyH.nil)
  rw [if_pos (by rfl)]
  have hl9 := HL.out
  refine ow_run (ex_copy _ _ _ _ rfl rfl rfl (run_copy_two HB2.out ((i + 1) * 2) _ _ ⟨g, i * 2, none⟩ _ _ (n - i) (pcs (ls.drop i)) (min_is (by omega)) (by rw [pcs_length, List.length_drop]; omega) (row_range HG2.out _ HDR.out) (by rw [pcs_length, List.length_drop, HR1.out]; omega) (pcs_one _) _)) ?_
  obtain ⟨r2, hr2⟩ : ∃ r2, r2 = (r1.toList.take ((i + 1) * 2) ++ pcs (ls.drop i) ++ r1.toList.drop ((i + 1) * 2 + (pcs (ls.drop i)).length)).toArray := ⟨_, rfl⟩
  rw [← hr2]
  have HOK := Lib.hid (grow_ok hr.out (by omega) (by omega) HGM.out x HZ.out H0.out H1.out hr2)
  have HB3 := Lib.hid (Blk.row u0 HB2.out r2)
  have HW3 := Lib.hid (grown_trans HW2.out (grown_row u0 D r2))
  clear hr2 HB2 HG2 HW2 hl9
  generalize World.setRow u0 D r2 = u1 at HB3 HW3 ⊢
  refine hK.out _ _ trivial (fun hHeld => ?_)
  clear hK K
  (try simp only [Act.put, List.setIfInBounds_toArray, List.set_cons_zero, List.set_cons_succ])
  refine wpAnyH_done (by kernel_rfl) ?_ _
  go_wp2_with fail
  go_ret
  have hD := HD.out
  refine ⟨D, G, r2, by rw [← HL.out]; rfl, HB3.out, HOK.out, ?_, .inr (Nat.le_of_eq hD.symm)⟩
  exact ⟨HW3.out.os, HW3.out.tape, HW3.out.output, HW3.out.size, fun k hk _ => HW3.out.block k hk (fun e => by injection e with e; omega)⟩
end Go.Proofs.Ytffapinabidkiaa.Lp
