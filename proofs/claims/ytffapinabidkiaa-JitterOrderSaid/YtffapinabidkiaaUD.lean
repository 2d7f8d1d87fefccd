/-
  What Check answers.
-/
import Derived.Test.YtffapinabidkiaaUP
import Derived.ChangeKeysEq
set_option linter.unusedSimpArgs false
set_option linter.unusedVariables false
/- UD -/
namespace Go.Proofs.Ytffapinabidkiaa.Lp
open Go.RowKit Go.Proofs.Ytffapinabidkiaa.Fq
theorem run_items_any (d : Nat) (xs ys : List Int) (u : World) : ∀ l : List Nat, (∀ i ∈ l, i < xs.length ∧ i < ys.length) → (Op.eqItems (d + 1) 3 1 (icells xs) (icells ys) l).run Try.prog u = .ok (l.all fun i => xs.getD i 0 == ys.getD i 0) u
  | [], _ => by simp [Op.eqItems]
  | i :: l, h => by
    have ih := run_items_any d xs ys u l fun j hj => h j (by simp [hj])
    have ha : (isAgg 3).run Try.prog u = .ok false u := by kernel_rfl
    have hu : Try.prog.underlying 3 = some (.int .i64) := by kernel_rfl
    have hp : ∀ zs : List Int, i < zs.length → (part 3 (icells zs) (i * 1)).run Try.prog u = .ok (.int .i64 (zs.getD i 0)) u := fun zs hz => by
      have hc : (icells zs)[i]? = some (.int .i64 (zs.getD i 0)) := icells_get hz
      rw [Nat.mul_one]
      simp only [part, Sem.run_bind, ha, Result.andThen_ok, Bool.false_eq_true, if_false, hc, Sem.run_pure]
    have he := run_equalIn_int (P := Try.prog) u d 3 .i64 .i64 (xs.getD i 0) (ys.getD i 0) hu
    have h1 := hp xs (h i (by simp)).1
    have h2 := hp ys (h i (by simp)).2
    simp only [Op.eqItems, Sem.run_bind, h1, h2, Result.andThen_ok, he]
    rw [List.all_cons]
    by_cases k : xs.getD i 0 = ys.getD i 0
    · have k2 : (xs.getD i 0 == ys.getD i 0) = true := by rw [k]; exact beq_self_eq_true _
      simp only [k2, Bool.true_and]
      simpa using ih
    · have k2 : (xs.getD i 0 == ys.getD i 0) = false := by simpa using k
      simp only [k2, Bool.false_and]
      simp
theorem num_eq (a b c a' b' c' : Int) (w : World) : (Op.equalIn 10000 54 (num3 a b c) (num3 a' b' c')).run Try.prog w = .ok (decide (a = a' ∧ b = b' ∧ c = c')) w := by
  have hc : Try.prog.cellsOf 3 = 1 := by kernel_rfl
  obtain ⟨i, hi⟩ : ∃ i, Try.prog.info? 3 = some i := Option.isSome_iff_exists.1 (by kernel_rfl)
  have hT : Try.prog.underlying 54 = some (.array 3 3) := by kernel_rfl
  have := run_equalIn_array w 9999 (icells [a, b, c]) (icells [a', b', c']) hT hi
  rw [hc, run_items_any 9998 [a, b, c] [a', b', c'] w _ fun j hj => ⟨by have := List.mem_range.1 hj; simpa using this, by have := List.mem_range.1 hj; simpa using this⟩] at this
  refine this.trans ?_
  congr 1
  refine Bool.eq_iff_iff.2 ?_
  simp [List.range_succ]
theorem grdNum : Try.prog.eqGuardType Try.prog.depth 54 = false := by kernel_rfl
theorem ex_ne {o : Oper} {a : Act} {u : World} (T t2 : TypeId) (x y : Operand) (ho : o.op = .binOp .neq T x y t2) {c1 c2 : Array Value} (hx : a.eval x = .agg c1) (hy : a.eval y = .agg c2) (hg : Try.prog.eqGuardType Try.prog.depth T = false) {b : Bool} (he : (Op.equalIn 10000 T (.agg c1) (.agg c2)).run Try.prog u = .ok b u) :
    (execOp a.eval o).run Try.prog u = .ok (.value (.bool (!b))) u := by
  unfold execOp
  simp only [ho, hx, hy]
  simp [go_sem, eqGuard, binOp, Op.equal, Op.maxDepth, hg, he]
theorem ex_eq {o : Oper} {a : Act} {u : World} (T t2 : TypeId) (x y : Operand) (ho : o.op = .binOp .eql T x y t2) {c1 c2 : Array Value} (hx : a.eval x = .agg c1) (hy : a.eval y = .agg c2) (hg : Try.prog.eqGuardType Try.prog.depth T = false) {b : Bool} (he : (Op.equalIn 10000 T (.agg c1) (.agg c2)).run Try.prog u = .ok b u) :
    (execOp a.eval o).run Try.prog u = .ok (.value (.bool b)) u := by
  unfold execOp
  simp only [ho, hx, hy]
  simp [go_sem, eqGuard, binOp, Op.equal, Op.maxDepth, hg, he]
/-- the numbers are such as may be, or not -/
theorem num_hold (on : Bool) (nx dp dr : Int) (w : World) (b : Bool) (hb : decide (NumOk on nx dp dr) = b) :
    (Op.equalIn 10000 54 (num3 nx dp dr) (num3 (holdN nx 0 (mostX on)) (holdN dp 1 16) (holdN dr 0 (mostD on)))).run Try.prog w = .ok b w := by
  rw [num_eq, ← hb]
  congr 1
  refine decide_eq_decide.2 ((numOk_iff on nx dp dr).trans ?_).symm
  constructor <;> rintro ⟨h1, h2, h3⟩ <;> exact ⟨h1.symm, h2.symm, h3.symm⟩
set_option maxRecDepth 100000 in
set_option maxHeartbeats 4000000 in
theorem check_any (on : Bool) (nx dp dr : Int) (A : Option Addr) (n c : Nat) (ls : List Pk) (w : World) (h : Hid (RdP w A n ls)) (hn : n ≤ 281474976710656) :
    Calls Try.prog 19 #[jtV on nx dp dr A n c] w (ValQ w (.int .i64 (ckE ⟨on, nx, dp, dr, ls.map pl⟩))) := by
  have HM := Lib.hid (MV.start w)
  have HN := Lib.hid hn
  clear hn
  go_enter Try.func19, Try.ntmps19
  go_wp2_with (first | (refine jL ?_) | (refine jS ?_; clear HM; intro us HM; simp only [List.set, List.setIfInBounds_toArray, List.set_cons_zero, List.set_cons_succ] at HM) | (refine jN ?_; first | (have q : dV HM = 0 := rfl; clear q HM; intro g1 u1 HG1 HM) | (have q : dV HM = 1 := rfl; clear q HM; intro g2 u2 HG2 HM) | (have q : dV HM = 2 := rfl; clear q HM; intro g3 u3 HG3 HM) | (have q : dV HM = 3 := rfl; clear q HM; intro g4 u4 HG4 HM) | (have q : dV HM = 4 := rfl; clear q HM; intro g5 u5 HG5 HM) | (have q : dV HM = 5 := rfl; clear q HM; intro g6 u6 HG6 HM) | (have q : dV HM = 6 := rfl; clear q HM; intro g7 u7 HG7 HM) | (have q : dV HM = 7 := rfl; clear q HM; intro g8 u8 HG8 HM) | (have q : dV HM = 8 := rfl; clear q HM; intro g9 u9 HG9 HM) | (have q : dV HM = 9 := rfl; clear q HM; intro g10 u10 HG10 HM) | (have q : dV HM = 10 := rfl; clear q HM; intro g11 u11 HG11 HM) | (have q : dV HM = 11 := rfl; clear q HM; intro g12 u12 HG12 HM) | (have q : dV HM = 12 := rfl; clear q HM; intro g13 u13 HG13 HM) | (have q : dV HM = 13 := rfl; clear q HM; intro g14 u14 HG14 HM)))
  refine (numbersOf_any on nx dp dr A n c _).mono ?_
  rintro e w2 ⟨rfl, h1⟩
  have HM2 := Lib.hid (HM.out.below h1)
  clear h1 HM
  have HM := HM2
  clear HM2
  go_wp2_with (first | (refine jL ?_) | (refine jS ?_; clear HM; intro us HM; simp only [List.set, List.setIfInBounds_toArray, List.set_cons_zero, List.set_cons_succ] at HM) | (refine jN ?_; first | (have q : dV HM = 0 := rfl; clear q HM; intro g1 u1 HG1 HM) | (have q : dV HM = 1 := rfl; clear q HM; intro g2 u2 HG2 HM) | (have q : dV HM = 2 := rfl; clear q HM; intro g3 u3 HG3 HM) | (have q : dV HM = 3 := rfl; clear q HM; intro g4 u4 HG4 HM) | (have q : dV HM = 4 := rfl; clear q HM; intro g5 u5 HG5 HM) | (have q : dV HM = 5 := rfl; clear q HM; intro g6 u6 HG6 HM) | (have q : dV HM = 6 := rfl; clear q HM; intro g7 u7 HG7 HM) | (have q : dV HM = 7 := rfl; clear q HM; intro g8 u8 HG8 HM) | (have q : dV HM = 8 := rfl; clear q HM; intro g9 u9 HG9 HM) | (have q : dV HM = 9 := rfl; clear q HM; intro g10 u10 HG10 HM) | (have q : dV HM = 10 := rfl; clear q HM; intro g11 u11 HG11 HM) | (have q : dV HM = 11 := rfl; clear q HM; intro g12 u12 HG12 HM) | (have q : dV HM = 12 := rfl; clear q HM; intro g13 u13 HG13 HM) | (have q : dV HM = 13 := rfl; clear q HM; intro g14 u14 HG14 HM)))
  have HW := Lib.hid HM.out.1
  have bN := HM.out.get (g := g2) (T := 54) (cs := #[.int .i64 nx, .int .i64 dp, .int .i64 dr]) (by exact vmemOf)
  have bJ := HM.out.get (g := g1) (T := 24) (cs := #[.bool on, .int .i64 nx, .int .i64 dp, .int .i64 dr, .slice A n c]) (by exact vmemOf)
  have HLN := Lib.hid (fun (u : World) (hu : Below us.heap.size us u) => run_load_blk (T := 54) rowNum (bN.below hu bN.lt) rfl)
  have HLO := Lib.hid (fun (u : World) (hu : Below us.heap.size us u) => run_load_one (T := 4) (ad := ⟨g1, 0, none⟩) (v := .bool on) oneBool (((bJ.below hu bJ.lt).cell 0).trans rfl))
  have HLQ := Lib.hid (fun (u : World) (hu : Below us.heap.size us u) => run_load_one (T := 22) (ad := ⟨g1, 4, none⟩) (v := .slice A n c) onePacks (((bJ.below hu bJ.lt).cell 4).trans rfl))
  clear bN bJ
  cases hno : decide (NumOk on nx dp dr) with
  | false =>
    have HV := Lib.hid (show ckE ⟨on, nx, dp, dr, ls.map pl⟩ = 1 from if_neg fun hok => by rw [decide_eq_true hok.1] at hno; cases hno)
    have HNE := Lib.hid (fun u => num_hold on nx dp dr u false hno)
    clear hno
    refine wp_region_held_drew (S := fun u => Below us.heap.size us u) (by kernel_rfl) (Below.drew (Below.refl _ _)) (fun hHeld => ?_); have HB := Lib.hid (show Below us.heap.size us (World.drew us) from Below.drew (Below.refl _ _)); generalize World.drew us = u0 at HB hHeld ⊢
    (refine wa_take (i := 0) rfl (by kernel_rfl) (by kernel_rfl) (by kernel_rfl) (fun _ _ _ h => h) (yv_load rfl _ _ rfl rfl (HLN.out)) hHeld rfl ?_; (try simp only [Act.put, List.setIfInBounds_toArray, List.set_cons_zero, List.set_cons_succ]))
    (refine wa_take (i := 1) rfl (by kernel_rfl) (by kernel_rfl) (by kernel_rfl) (fun _ _ _ h => h) (yv_load rfl _ _ rfl rfl (HLN.out)) hHeld rfl ?_; (try simp only [Act.put, List.setIfInBounds_toArray, List.set_cons_zero, List.set_cons_succ]))
    (refine wa_take (i := 2) (v := .pointer (some ⟨g1, 0, none⟩)) rfl (by kernel_rfl) (by kernel_rfl) (by kernel_rfl) (fun _ _ _ h => h) (yi_free rfl (fun u => by go_simp)) hHeld rfl ?_; (try simp only [Act.put, List.setIfInBounds_toArray, List.set_cons_zero, List.set_cons_succ]))
    (refine wa_take (i := 3) rfl (by kernel_rfl) (by kernel_rfl) (by kernel_rfl) (fun _ _ _ h => h) (yv_load rfl _ _ rfl rfl (HLO.out)) hHeld rfl ?_; (try simp only [Act.put, List.setIfInBounds_toArray, List.set_cons_zero, List.set_cons_succ]))
    refine wpAnyH_ready (rs := [4]) (by kernel_rfl) (by simp) ?_; refine AllReadyH.cons rfl (fun K hK => ?_) (AllReadyH.nil)
    rw [if_pos (by rfl)]; go_simp
    refine (most_any on _).mono ?_
    rintro e u2 ⟨rfl, hb⟩
    have HB1 := Lib.hid (HB.out.trans (hb.mono HB.out.size)); clear hb HB; have HB := HB1; clear HB1; go_wp2_with fail; refine hK.out _ _ HB.out (fun hHeld => ?_); clear hK K; (try simp only [Act.put, List.setIfInBounds_toArray, List.set_cons_zero, List.set_cons_succ])
    refine wpAnyH_ready (rs := [5]) (by kernel_rfl) (by simp) ?_; refine AllReadyH.cons rfl (fun K hK => ?_) (AllReadyH.nil)
    rw [if_pos (by rfl)]; go_simp
    refine (held_any nx dp dr _ _ _ _).mono ?_
    rintro e u3 ⟨rfl, hb⟩
    have HB1 := Lib.hid (HB.out.trans (hb.mono HB.out.size)); clear hb HB; have HB := HB1; clear HB1; go_wp2_with fail; refine hK.out _ _ HB.out (fun hHeld => ?_); clear hK K; (try simp only [Act.put, List.setIfInBounds_toArray, List.set_cons_zero, List.set_cons_succ])
    (refine wa_take (i := 6) (v := .bool true) rfl (by kernel_rfl) (by kernel_rfl) (by kernel_rfl) (fun _ _ _ h => h) (yi_free rfl (fun u => ex_ne _ _ _ _ rfl rfl rfl grdNum (HNE.out u))) hHeld rfl ?_; (try simp only [Act.put, List.setIfInBounds_toArray, List.set_cons_zero, List.set_cons_succ]))
    (refine wa_take (i := 7) (v := .bool true) rfl (by kernel_rfl) (by kernel_rfl) (by kernel_rfl) (fun _ _ _ h => h) (yi_free rfl (fun u => rfl)) hHeld rfl ?_; (try simp only [Act.put, List.setIfInBounds_toArray, List.set_cons_zero, List.set_cons_succ]))
    (refine wa_take (i := 8) (v := undef) rfl (by kernel_rfl) (by kernel_rfl) (by kernel_rfl) (fun _ _ _ h => h) (.inr ⟨rfl, rfl⟩) hHeld rfl ?_; (try simp only [Act.put, List.setIfInBounds_toArray, List.set_cons_zero, List.set_cons_succ])); (refine wa_take (i := 9) (v := undef) rfl (by kernel_rfl) (by kernel_rfl) (by kernel_rfl) (fun _ _ _ h => h) (.inr ⟨rfl, rfl⟩) hHeld rfl ?_; (try simp only [Act.put, List.setIfInBounds_toArray, List.set_cons_zero, List.set_cons_succ])); (refine wa_take (i := 10) (v := undef) rfl (by kernel_rfl) (by kernel_rfl) (by kernel_rfl) (fun _ _ _ h => h) (.inr ⟨rfl, rfl⟩) hHeld rfl ?_; (try simp only [Act.put, List.setIfInBounds_toArray, List.set_cons_zero, List.set_cons_succ]))
    (refine wa_take (i := 11) (v := .bool true) rfl (by kernel_rfl) (by kernel_rfl) (by kernel_rfl) (fun _ _ _ h => h) (yi_free rfl (fun u => rfl)) hHeld rfl ?_; (try simp only [Act.put, List.setIfInBounds_toArray, List.set_cons_zero, List.set_cons_succ]))
    refine wpAnyH_done (by kernel_rfl) ?_ _
    go_wp2_with fail
    go_ret
    exact ⟨by rw [HV.out]; rfl, HW.out.trans (HB.out.mono HW.out.size)⟩
  | true =>
    have HNE := Lib.hid (fun u => num_hold on nx dp dr u true hno)
    have HNO := Lib.hid (of_decide_eq_true hno)
    have HAN := Lib.hid h.out.any
    clear hno
    refine wp_region_held_drew (S := fun u => Below us.heap.size us u) (by kernel_rfl) (Below.drew (Below.refl _ _)) (fun hHeld => ?_); have HB := Lib.hid (show Below us.heap.size us (World.drew us) from Below.drew (Below.refl _ _)); generalize World.drew us = u0 at HB hHeld ⊢
    (refine wa_take (i := 0) rfl (by kernel_rfl) (by kernel_rfl) (by kernel_rfl) (fun _ _ _ h => h) (yv_load rfl _ _ rfl rfl (HLN.out)) hHeld rfl ?_; (try simp only [Act.put, List.setIfInBounds_toArray, List.set_cons_zero, List.set_cons_succ]))
    (refine wa_take (i := 1) rfl (by kernel_rfl) (by kernel_rfl) (by kernel_rfl) (fun _ _ _ h => h) (yv_load rfl _ _ rfl rfl (HLN.out)) hHeld rfl ?_; (try simp only [Act.put, List.setIfInBounds_toArray, List.set_cons_zero, List.set_cons_succ]))
    (refine wa_take (i := 2) (v := .pointer (some ⟨g1, 0, none⟩)) rfl (by kernel_rfl) (by kernel_rfl) (by kernel_rfl) (fun _ _ _ h => h) (yi_free rfl (fun u => by go_simp)) hHeld rfl ?_; (try simp only [Act.put, List.setIfInBounds_toArray, List.set_cons_zero, List.set_cons_succ]))
    (refine wa_take (i := 3) rfl (by kernel_rfl) (by kernel_rfl) (by kernel_rfl) (fun _ _ _ h => h) (yv_load rfl _ _ rfl rfl (HLO.out)) hHeld rfl ?_; (try simp only [Act.put, List.setIfInBounds_toArray, List.set_cons_zero, List.set_cons_succ]))
    refine wpAnyH_ready (rs := [4]) (by kernel_rfl) (by simp) ?_; refine AllReadyH.cons rfl (fun K hK => ?_) (AllReadyH.nil)
    rw [if_pos (by rfl)]; go_simp
    refine (most_any on _).mono ?_
    rintro e u2 ⟨rfl, hb⟩
    have HB1 := Lib.hid (HB.out.trans (hb.mono HB.out.size)); clear hb HB; have HB := HB1; clear HB1; go_wp2_with fail; refine hK.out _ _ HB.out (fun hHeld => ?_); clear hK K; (try simp only [Act.put, List.setIfInBounds_toArray, List.set_cons_zero, List.set_cons_succ])
    refine wpAnyH_ready (rs := [5]) (by kernel_rfl) (by simp) ?_; refine AllReadyH.cons rfl (fun K hK => ?_) (AllReadyH.nil)
    rw [if_pos (by rfl)]; go_simp
    refine (held_any nx dp dr _ _ _ _).mono ?_
    rintro e u3 ⟨rfl, hb⟩
    have HB1 := Lib.hid (HB.out.trans (hb.mono HB.out.size)); clear hb HB; have HB := HB1; clear HB1; go_wp2_with fail; refine hK.out _ _ HB.out (fun hHeld => ?_); clear hK K; (try simp only [Act.put, List.setIfInBounds_toArray, List.set_cons_zero, List.set_cons_succ])
    (refine wa_take (i := 6) (v := .bool false) rfl (by kernel_rfl) (by kernel_rfl) (by kernel_rfl) (fun _ _ _ h => h) (yi_free rfl (fun u => ex_ne _ _ _ _ rfl rfl rfl grdNum (HNE.out u))) hHeld rfl ?_; (try simp only [Act.put, List.setIfInBounds_toArray, List.set_cons_zero, List.set_cons_succ]))
    (refine wa_take (i := 7) (v := .bool false) rfl (by kernel_rfl) (by kernel_rfl) (by kernel_rfl) (fun _ _ _ h => h) (yi_free rfl (fun u => rfl)) hHeld rfl ?_; (try simp only [Act.put, List.setIfInBounds_toArray, List.set_cons_zero, List.set_cons_succ]))
    (refine wa_take (i := 8) (v := .pointer (some ⟨g1, 4, none⟩)) rfl (by kernel_rfl) (by kernel_rfl) (by kernel_rfl) (fun _ _ _ h => h) (yi_free rfl (fun u => by go_simp)) hHeld rfl ?_; (try simp only [Act.put, List.setIfInBounds_toArray, List.set_cons_zero, List.set_cons_succ]))
    (refine wa_take (i := 9) rfl (by kernel_rfl) (by kernel_rfl) (by kernel_rfl) (fun _ _ _ h => h) (yv_load rfl _ _ rfl rfl (HLQ.out)) hHeld rfl ?_; (try simp only [Act.put, List.setIfInBounds_toArray, List.set_cons_zero, List.set_cons_succ]))
    cases hw : ls.any wrongP with
    | true =>
      have HV := Lib.hid (show ckE ⟨on, nx, dp, dr, ls.map pl⟩ = 1 from if_neg fun hok => by
        rw [HAN.out, List.any_eq_true] at hw
        obtain ⟨p, hp, hb⟩ := hw
        rw [hok.2.1 p hp] at hb; cases hb)
      have HWR := Lib.hid hw
      clear hw
      refine wpAnyH_ready (rs := [10]) (by kernel_rfl) (by simp) ?_; refine AllReadyH.cons rfl (fun K hK => ?_) (AllReadyH.nil)
      rw [if_pos (by rfl)]; go_simp
      refine (hasWrong_any A n c ls _ (Lib.hid (h.out.keep (HW.out.trans (HB.out.mono HW.out.size)))) HN.out).mono ?_
      rw [HWR.out]
      rintro e u4 ⟨rfl, hb⟩
      have HB1 := Lib.hid (HB.out.trans (hb.mono HB.out.size)); clear hb HB; have HB := HB1; clear HB1; go_wp2_with fail; refine hK.out _ _ HB.out (fun hHeld => ?_); clear hK K; (try simp only [Act.put, List.setIfInBounds_toArray, List.set_cons_zero, List.set_cons_succ])
      (refine wa_take (i := 11) (v := .bool true) rfl (by kernel_rfl) (by kernel_rfl) (by kernel_rfl) (fun _ _ _ h => h) (yi_free rfl (fun u => rfl)) hHeld rfl ?_; (try simp only [Act.put, List.setIfInBounds_toArray, List.set_cons_zero, List.set_cons_succ]))
      refine wpAnyH_done (by kernel_rfl) ?_ _
      go_wp2_with fail
      go_ret
      exact ⟨by rw [HV.out]; rfl, HW.out.trans (HB.out.mono HW.out.size)⟩
    | false =>
      have HWR := Lib.hid hw
      have HWF := Lib.hid hw
      clear hw
      refine wpAnyH_ready (rs := [10]) (by kernel_rfl) (by simp) ?_; refine AllReadyH.cons rfl (fun K hK => ?_) (AllReadyH.nil)
      rw [if_pos (by rfl)]; go_simp
      refine (hasWrong_any A n c ls _ (Lib.hid (h.out.keep (HW.out.trans (HB.out.mono HW.out.size)))) HN.out).mono ?_
      rw [HWR.out]
      rintro e u4 ⟨rfl, hb⟩
      have HB1 := Lib.hid (HB.out.trans (hb.mono HB.out.size)); clear hb HB; have HB := HB1; clear HB1; go_wp2_with fail; refine hK.out _ _ HB.out (fun hHeld => ?_); clear hK K; (try simp only [Act.put, List.setIfInBounds_toArray, List.set_cons_zero, List.set_cons_succ])
      (refine wa_take (i := 11) (v := .bool false) rfl (by kernel_rfl) (by kernel_rfl) (by kernel_rfl) (fun _ _ _ h => h) (yi_free rfl (fun u => rfl)) hHeld rfl ?_; (try simp only [Act.put, List.setIfInBounds_toArray, List.set_cons_zero, List.set_cons_succ]))
      refine wpAnyH_done (by kernel_rfl) ?_ _
      have HM2 := Lib.hid (HM.out.below HB.out)
      clear HM hHeld
      have HM := HM2
      clear HM2 HB
      go_wp2_with fail
      clear HLN HLO HLQ HNE HW HWR
      have HNN := Lib.hid (show n ≤ 9223372036854775807 by have := HN.out; omega)
      go_loopw [4] (fun vi wr => ∃ m : Nat, vi = .int .i64 ((m : Int) + 1) ∧ (m + 1 ≤ n ∨ m = 0) ∧ Hid (∀ j x y, j < m → ls[j]? = some x → ls[j + 1]? = some y → x.s < y.s) ∧ Hid (MV w w [(g2, 54, #[.int .i64 nx, .int .i64 dp, .int .i64 dr]), (g1, 24, #[.bool on, .int .i64 nx, .int .i64 dp, .int .i64 dr, .slice A n c])] wr)) (fun vi _ => (n + 1 - (intOf vi).toNat))
      case atStart => exact ⟨0, rfl, .inr rfl, Lib.hid (fun j x y hj => by omega), HM⟩
      case round =>
        clear HM
        obtain ⟨m, rfl, hm, HK, HM⟩ := hrel
        have hn9 := HNN.out
        by_cases hlt : m + 1 < n
        · have kn : (m : Int) + 1 < (n : Int) := by omega
          have hr := h.out.keep HM.out.1
          obtain ⟨L, x, rfl, hL, hx, c0, -, -⟩ := hr.at_ hlt
          obtain ⟨L', y, e, -, hy, d0, -, -⟩ := hr.at_ (k := m) (by omega)
          injection e with e
          subst e
          have HX := Lib.hid hx
          have HY := Lib.hid hy
          have c4 := HM.out.cell (g := g1) (k := 4) (v := .slice (some L) n c) (by exact vmemOf) rfl
          have hL2 : (L.add ((m + 1) * 2)).block < wr.heap.size := by rw [block_of_add]; exact hL
          have hL3 : (L.add (m * 2)).block < wr.heap.size := by rw [block_of_add]; exact hL
          clear hx hy hr hm
          go_wp2_with (first | (refine jL ?_) | (refine jS ?_; clear HM; intro us HM; simp only [List.set, List.setIfInBounds_toArray, List.set_cons_zero, List.set_cons_succ] at HM) | (refine jN ?_; first | (have q : dV HM = 0 := rfl; clear q HM; intro g1 u1 HG1 HM) | (have q : dV HM = 1 := rfl; clear q HM; intro g2 u2 HG2 HM) | (have q : dV HM = 2 := rfl; clear q HM; intro g3 u3 HG3 HM) | (have q : dV HM = 3 := rfl; clear q HM; intro g4 u4 HG4 HM) | (have q : dV HM = 4 := rfl; clear q HM; intro g5 u5 HG5 HM) | (have q : dV HM = 5 := rfl; clear q HM; intro g6 u6 HG6 HM) | (have q : dV HM = 6 := rfl; clear q HM; intro g7 u7 HG7 HM) | (have q : dV HM = 7 := rfl; clear q HM; intro g8 u8 HG8 HM) | (have q : dV HM = 8 := rfl; clear q HM; intro g9 u9 HG9 HM) | (have q : dV HM = 9 := rfl; clear q HM; intro g10 u10 HG10 HM) | (have q : dV HM = 10 := rfl; clear q HM; intro g11 u11 HG11 HM) | (have q : dV HM = 11 := rfl; clear q HM; intro g12 u12 HG12 HM) | (have q : dV HM = 12 := rfl; clear q HM; intro g13 u13 HG13 HM) | (have q : dV HM = 13 := rfl; clear q HM; intro g14 u14 HG14 HM)))
          have w1 : IntKind.i64.wrap ((m : Int) + 1 - 1) = (m : Int) := by rw [IntWalk.i64_in _ (by omega)]; omega
          have w2 : (0 : Int) ≤ (m : Int) + 1 := by omega
          have w3 : ((m : Int) + 1).toNat = m + 1 := by omega
          have w4 : (m : Int) < (n : Int) := by omega
          by_cases hxy : x.s ≤ y.s
          · have d1 : decide (x.s ≤ y.s) = true := decide_eq_true hxy
            go_quiet (fail)
            have HV := Lib.hid (show ckE ⟨on, nx, dp, dr, ls.map pl⟩ = 1 from if_neg fun hok => by
              have h1 : (ls.map pl)[m]? = some (pl y) := by rw [List.getElem?_map, HY.out]; rfl
              have h2 : (ls.map pl)[m + 1]? = some (pl x) := by rw [List.getElem?_map, HX.out]; rfl
              have := rise_at hok.2.2.1 h1 h2 (by omega)
              unfold pl at this
              simp only at this
              omega)
            clear w1 w2 w3 w4 d1 c0 d0 c4 hL2 hL3 hL kn
            go_wp2_with fail
            go_ret
            exact ⟨by rw [HV.out]; rfl, below_drewN HM.out.1 nq⟩
          · have d1 : decide (x.s ≤ y.s) = false := decide_eq_false hxy
            go_quiet (fail)
            have HM2 := Lib.hid (HM.out.below (below_drewN (Below.refl _ _) nq))
            clear HM w1 w2 w3 d1 c0 d0 c4 hL2 hL3 hL
            generalize World.drewN _ nq = wt at HM2 ⊢
            have w1 : (m : Int) + 1 + 1 = ((m + 1 : Nat) : Int) + 1 := by omega
            go_wp2_with fail
            go_roundw
            case rel =>
              refine ⟨m + 1, by first | rfl | go_num, .inl (by omega), Lib.hid fun j a b hj ha hb => ?_, HM2⟩
              by_cases hjm : j < m
              · exact HK.out j a b hjm ha hb
              · obtain rfl : j = m := by omega
                rw [HY.out] at ha
                rw [HX.out] at hb
                injection ha with ha
                injection hb with hb
                rw [← ha, ← hb]; omega
            case measure => simp [intOf]; omega
        · have kn : (n : Int) ≤ (m : Int) + 1 := by omega
          have hlen := h.out.1
          have HR := Lib.hid (rise_of (ls := ls) fun j a b ha hb => HK.out j a b (by have := (List.getElem?_eq_some_iff.1 hb).1; omega) ha hb)
          clear HK
          have HBD := Lib.hid (show ∀ p ∈ ls.map pl, badP p = false by
            intro p hp
            cases hb : badP p with
            | false => rfl
            | true => have h1 := List.any_eq_true.2 ⟨p, hp, hb⟩; have h2 := HWF.out; rw [HAN.out, h1] at h2; cases h2)
          go_wp2_with (first | (refine jL ?_) | (refine jS ?_; clear HM; intro us HM; simp only [List.set, List.setIfInBounds_toArray, List.set_cons_zero, List.set_cons_succ] at HM) | (refine jN ?_; first | (have q : dV HM = 0 := rfl; clear q HM; intro g1 u1 HG1 HM) | (have q : dV HM = 1 := rfl; clear q HM; intro g2 u2 HG2 HM) | (have q : dV HM = 2 := rfl; clear q HM; intro g3 u3 HG3 HM) | (have q : dV HM = 3 := rfl; clear q HM; intro g4 u4 HG4 HM) | (have q : dV HM = 4 := rfl; clear q HM; intro g5 u5 HG5 HM) | (have q : dV HM = 5 := rfl; clear q HM; intro g6 u6 HG6 HM) | (have q : dV HM = 6 := rfl; clear q HM; intro g7 u7 HG7 HM) | (have q : dV HM = 7 := rfl; clear q HM; intro g8 u8 HG8 HM) | (have q : dV HM = 8 := rfl; clear q HM; intro g9 u9 HG9 HM) | (have q : dV HM = 9 := rfl; clear q HM; intro g10 u10 HG10 HM) | (have q : dV HM = 10 := rfl; clear q HM; intro g11 u11 HG11 HM) | (have q : dV HM = 11 := rfl; clear q HM; intro g12 u12 HG12 HM) | (have q : dV HM = 12 := rfl; clear q HM; intro g13 u13 HG13 HM) | (have q : dV HM = 13 := rfl; clear q HM; intro g14 u14 HG14 HM)))
          have HW := Lib.hid HM.out.1
          have bJ := HM.out.get (g := g1) (T := 24) (cs := #[.bool on, .int .i64 nx, .int .i64 dp, .int .i64 dr, .slice A n c]) (by exact vmemOf)
          have HLQ := Lib.hid (fun (u : World) (hu : Below wr.heap.size wr u) => run_load_one (T := 22) (ad := ⟨g1, 4, none⟩) (v := .slice A n c) onePacks (((bJ.below hu bJ.lt).cell 4).trans rfl))
          have HLJ := Lib.hid (fun (u : World) (hu : Below wr.heap.size wr u) => run_load_blk (T := 24) rowJt (bJ.below hu bJ.lt) rfl)
          clear bJ
          rcases Nat.eq_zero_or_pos n with h0 | h0
          · subst h0
            have hls : ls = [] := List.eq_nil_of_length_eq_zero hlen
            have HV := Lib.hid (show ckE ⟨on, nx, dp, dr, ls.map pl⟩ = 0 from if_pos ⟨HNO.out, HBD.out, HR.out, by rw [hls]; exact fit_nil on nx⟩)
            clear hls hlen
            refine wp_region_held_drew (S := fun u => Below wr.heap.size wr u) (by kernel_rfl) (Below.drew (Below.refl _ _)) (fun hHeld => ?_); have HB := Lib.hid (show Below wr.heap.size wr (World.drew wr) from Below.drew (Below.refl _ _)); generalize World.drew wr = u0 at HB hHeld ⊢
            (refine wa_take (i := 0) (v := .pointer (some ⟨g1, 4, none⟩)) rfl (by kernel_rfl) (by kernel_rfl) (by kernel_rfl) (fun _ _ _ h => h) (yi_free rfl (fun u => by go_simp)) hHeld rfl ?_; (try simp only [Act.put, List.setIfInBounds_toArray, List.set_cons_zero, List.set_cons_succ]))
            (refine wa_take (i := 1) rfl (by kernel_rfl) (by kernel_rfl) (by kernel_rfl) (fun _ _ _ h => h) (yv_load rfl _ _ rfl rfl (HLQ.out)) hHeld rfl ?_; (try simp only [Act.put, List.setIfInBounds_toArray, List.set_cons_zero, List.set_cons_succ]))
            (refine wa_take (i := 2) (v := .int .i64 (0)) rfl (by kernel_rfl) (by kernel_rfl) (by kernel_rfl) (fun _ _ _ h => h) (yi_free rfl (fun u => by go_simp)) hHeld rfl ?_; (try simp only [Act.put, List.setIfInBounds_toArray, List.set_cons_zero, List.set_cons_succ]))
            (refine wa_take (i := 3) (v := .bool false) rfl (by kernel_rfl) (by kernel_rfl) (by kernel_rfl) (fun _ _ _ h => h) (yi_free rfl (fun u => by go_simp)) hHeld rfl ?_; (try simp only [Act.put, List.setIfInBounds_toArray, List.set_cons_zero, List.set_cons_succ]))
            (refine wa_take (i := 4) (v := .bool false) rfl (by kernel_rfl) (by kernel_rfl) (by kernel_rfl) (fun _ _ _ h => h) (yi_free rfl (fun u => rfl)) hHeld rfl ?_; (try simp only [Act.put, List.setIfInBounds_toArray, List.set_cons_zero, List.set_cons_succ]))
            (refine wa_take (i := 5) (v := undef) rfl (by kernel_rfl) (by kernel_rfl) (by kernel_rfl) (fun _ _ _ h => h) (.inr ⟨rfl, rfl⟩) hHeld rfl ?_; (try simp only [Act.put, List.setIfInBounds_toArray, List.set_cons_zero, List.set_cons_succ])); (refine wa_take (i := 6) (v := undef) rfl (by kernel_rfl) (by kernel_rfl) (by kernel_rfl) (fun _ _ _ h => h) (.inr ⟨rfl, rfl⟩) hHeld rfl ?_; (try simp only [Act.put, List.setIfInBounds_toArray, List.set_cons_zero, List.set_cons_succ])); (refine wa_take (i := 7) (v := undef) rfl (by kernel_rfl) (by kernel_rfl) (by kernel_rfl) (fun _ _ _ h => h) (.inr ⟨rfl, rfl⟩) hHeld rfl ?_; (try simp only [Act.put, List.setIfInBounds_toArray, List.set_cons_zero, List.set_cons_succ])); (refine wa_take (i := 8) (v := undef) rfl (by kernel_rfl) (by kernel_rfl) (by kernel_rfl) (fun _ _ _ h => h) (.inr ⟨rfl, rfl⟩) hHeld rfl ?_; (try simp only [Act.put, List.setIfInBounds_toArray, List.set_cons_zero, List.set_cons_succ])); (refine wa_take (i := 9) (v := undef) rfl (by kernel_rfl) (by kernel_rfl) (by kernel_rfl) (fun _ _ _ h => h) (.inr ⟨rfl, rfl⟩) hHeld rfl ?_; (try simp only [Act.put, List.setIfInBounds_toArray, List.set_cons_zero, List.set_cons_succ])); (refine wa_take (i := 10) (v := undef) rfl (by kernel_rfl) (by kernel_rfl) (by kernel_rfl) (fun _ _ _ h => h) (.inr ⟨rfl, rfl⟩) hHeld rfl ?_; (try simp only [Act.put, List.setIfInBounds_toArray, List.set_cons_zero, List.set_cons_succ])); (refine wa_take (i := 11) (v := undef) rfl (by kernel_rfl) (by kernel_rfl) (by kernel_rfl) (fun _ _ _ h => h) (.inr ⟨rfl, rfl⟩) hHeld rfl ?_; (try simp only [Act.put, List.setIfInBounds_toArray, List.set_cons_zero, List.set_cons_succ])); (refine wa_take (i := 12) (v := undef) rfl (by kernel_rfl) (by kernel_rfl) (by kernel_rfl) (fun _ _ _ h => h) (.inr ⟨rfl, rfl⟩) hHeld rfl ?_; (try simp only [Act.put, List.setIfInBounds_toArray, List.set_cons_zero, List.set_cons_succ])); (refine wa_take (i := 13) (v := undef) rfl (by kernel_rfl) (by kernel_rfl) (by kernel_rfl) (fun _ _ _ h => h) (.inr ⟨rfl, rfl⟩) hHeld rfl ?_; (try simp only [Act.put, List.setIfInBounds_toArray, List.set_cons_zero, List.set_cons_succ])); (refine wa_take (i := 14) (v := undef) rfl (by kernel_rfl) (by kernel_rfl) (by kernel_rfl) (fun _ _ _ h => h) (.inr ⟨rfl, rfl⟩) hHeld rfl ?_; (try simp only [Act.put, List.setIfInBounds_toArray, List.set_cons_zero, List.set_cons_succ]))
            (refine wa_take (i := 15) (v := .bool false) rfl (by kernel_rfl) (by kernel_rfl) (by kernel_rfl) (fun _ _ _ h => h) (yi_free rfl (fun u => rfl)) hHeld rfl ?_; (try simp only [Act.put, List.setIfInBounds_toArray, List.set_cons_zero, List.set_cons_succ]))
            refine wpAnyH_done (by kernel_rfl) ?_ _
            go_wp2_with fail
            go_ret
            exact ⟨by rw [HV.out]; rfl, HW.out.trans (HB.out.mono HW.out.size)⟩
          · have hr := h.out.keep HM.out.1
            obtain ⟨L, y, rfl, hL, hy, c0, -, -⟩ := hr.at_ (k := 0) h0
            obtain ⟨L', x, e, -, hx, -⟩ := hr.at_ (k := n - 1) (by omega)
            injection e with e
            subst e
            rw [Nat.zero_mul, Addr.add_zero'] at c0
            have HYB := Lib.hid (bad_iff (HBD.out (pl y) (List.mem_map.2 ⟨y, List.mem_of_getElem? hy, rfl⟩)))
            have HF := Lib.hid (fit_iff (on := on) (nx := nx) (a := pl y) (b := pl x) HR.out (by rw [List.getElem?_map, hy]; rfl) (by rw [List.length_map, hlen, List.getElem?_map, hx]; rfl))
            have HX := Lib.hid hx
            have HRR := Lib.hid hr
            have hc0 := c0
            have HLY := Lib.hid (fun (u : World) (hu : Below wr.heap.size wr u) => run_load_one (T := 3) (ad := L) (v := .int .i64 y.s) oneInt ((hu.cell hL).trans hc0))
            clear hx hy hr c0 hc0 hlen
            have n0 : ((n : Int) > 0) := by omega
            have n00 : 0 < n := h0
            refine wp_region_held_drew (S := fun u => Below wr.heap.size wr u) (by kernel_rfl) (Below.drew (Below.refl _ _)) (fun hHeld => ?_); have HB := Lib.hid (show Below wr.heap.size wr (World.drew wr) from Below.drew (Below.refl _ _)); generalize World.drew wr = u0 at HB hHeld ⊢
            (refine wa_take (i := 0) (v := .pointer (some ⟨g1, 4, none⟩)) rfl (by kernel_rfl) (by kernel_rfl) (by kernel_rfl) (fun _ _ _ h => h) (yi_free rfl (fun u => by go_simp)) hHeld rfl ?_; (try simp only [Act.put, List.setIfInBounds_toArray, List.set_cons_zero, List.set_cons_succ]))
            (refine wa_take (i := 1) rfl (by kernel_rfl) (by kernel_rfl) (by kernel_rfl) (fun _ _ _ h => h) (yv_load rfl _ _ rfl rfl (HLQ.out)) hHeld rfl ?_; (try simp only [Act.put, List.setIfInBounds_toArray, List.set_cons_zero, List.set_cons_succ]))
            (refine wa_take (i := 2) (v := .int .i64 ((n : Int))) rfl (by kernel_rfl) (by kernel_rfl) (by kernel_rfl) (fun _ _ _ h => h) (yi_free rfl (fun u => by go_simp)) hHeld rfl ?_; (try simp only [Act.put, List.setIfInBounds_toArray, List.set_cons_zero, List.set_cons_succ]))
            (refine wa_take (i := 3) (v := .bool true) rfl (by kernel_rfl) (by kernel_rfl) (by kernel_rfl) (fun _ _ _ h => h) (yi_free rfl (fun u => by go_simp)) hHeld rfl ?_; (try simp only [Act.put, List.setIfInBounds_toArray, List.set_cons_zero, List.set_cons_succ]))
            (refine wa_take (i := 4) (v := .bool true) rfl (by kernel_rfl) (by kernel_rfl) (by kernel_rfl) (fun _ _ _ h => h) (yi_free rfl (fun u => rfl)) hHeld rfl ?_; (try simp only [Act.put, List.setIfInBounds_toArray, List.set_cons_zero, List.set_cons_succ]))
            (refine wa_take (i := 5) rfl (by kernel_rfl) (by kernel_rfl) (by kernel_rfl) (fun _ _ _ h => h) (yv_load rfl _ _ rfl rfl (HLJ.out)) hHeld rfl ?_; (try simp only [Act.put, List.setIfInBounds_toArray, List.set_cons_zero, List.set_cons_succ]))
            (refine wa_take (i := 6) (v := .pointer (some ⟨g1, 4, none⟩)) rfl (by kernel_rfl) (by kernel_rfl) (by kernel_rfl) (fun _ _ _ h => h) (yi_free rfl (fun u => by go_simp)) hHeld rfl ?_; (try simp only [Act.put, List.setIfInBounds_toArray, List.set_cons_zero, List.set_cons_succ]))
            (refine wa_take (i := 7) rfl (by kernel_rfl) (by kernel_rfl) (by kernel_rfl) (fun _ _ _ h => h) (yv_load rfl _ _ rfl rfl (HLQ.out)) hHeld rfl ?_; (try simp only [Act.put, List.setIfInBounds_toArray, List.set_cons_zero, List.set_cons_succ]))
            (refine wa_take (i := 8) (v := .pointer (some L)) rfl (by kernel_rfl) (by kernel_rfl) (by kernel_rfl) (fun _ _ _ h => h) (yi_free rfl (fun u => by go_simp)) hHeld rfl ?_; (try simp only [Act.put, List.setIfInBounds_toArray, List.set_cons_zero, List.set_cons_succ]))
            (refine wa_take (i := 9) (v := .pointer (some L)) rfl (by kernel_rfl) (by kernel_rfl) (by kernel_rfl) (fun _ _ _ h => h) (yi_free rfl (fun u => by go_simp)) hHeld rfl ?_; (try simp only [Act.put, List.setIfInBounds_toArray, List.set_cons_zero, List.set_cons_succ]))
            (refine wa_take (i := 10) rfl (by kernel_rfl) (by kernel_rfl) (by kernel_rfl) (fun _ _ _ h => h) (yv_load rfl _ _ rfl rfl (HLY.out)) hHeld rfl ?_; (try simp only [Act.put, List.setIfInBounds_toArray, List.set_cons_zero, List.set_cons_succ]))
            (refine wa_take (i := 11) rfl (by kernel_rfl) (by kernel_rfl) (by kernel_rfl) (fun _ _ _ h => h) (yv_load rfl _ _ rfl rfl (HLJ.out)) hHeld rfl ?_; (try simp only [Act.put, List.setIfInBounds_toArray, List.set_cons_zero, List.set_cons_succ]))
            refine wpAnyH_ready (rs := [12]) (by kernel_rfl) (by simp) ?_; refine AllReadyH.cons rfl (fun K hK => ?_) (AllReadyH.nil)
            rw [if_pos (by rfl)]; go_simp
            refine (last_any on nx dp dr (some L) n c ls x _ (Lib.hid (HRR.out.keep HB.out)) HN.out h0 HX).mono ?_
            rintro e u4 ⟨rfl, hb⟩
            have HB1 := Lib.hid (HB.out.trans (hb.mono HB.out.size)); clear hb HB; have HB := HB1; clear HB1; go_wp2_with fail; refine hK.out _ _ HB.out (fun hHeld => ?_); clear hK K; (try simp only [Act.put, List.setIfInBounds_toArray, List.set_cons_zero, List.set_cons_succ])
            refine wpAnyH_ready (rs := [13]) (by kernel_rfl) (by simp) ?_; refine AllReadyH.cons rfl (fun K hK => ?_) (AllReadyH.nil)
            rw [if_pos (by rfl)]; go_simp
            refine (fits_any on nx dp dr y.s x.s (some L) n c _ HNO.out.2.2.1 (Int.le_trans HNO.out.2.2.2.1 (mostX_le on)) HYB.out.1 HYB.out.2.1).mono ?_
            rw [show fitsB on nx y.s x.s = _ from HF.out]
            rintro e u5 ⟨rfl, hb⟩
            cases hfq : decide (fitQ on nx (ls.map pl)) with
            | true =>
              have HV := Lib.hid (show ckE ⟨on, nx, dp, dr, ls.map pl⟩ = 0 from if_pos ⟨HNO.out, HBD.out, HR.out, of_decide_eq_true hfq⟩)
              clear hfq
              have HB1 := Lib.hid (HB.out.trans (hb.mono HB.out.size)); clear hb HB; have HB := HB1; clear HB1; go_wp2_with fail; refine hK.out _ _ HB.out (fun hHeld => ?_); clear hK K; (try simp only [Act.put, List.setIfInBounds_toArray, List.set_cons_zero, List.set_cons_succ])
              (refine wa_take (i := 14) (v := .bool false) rfl (by kernel_rfl) (by kernel_rfl) (by kernel_rfl) (fun _ _ _ h => h) (yi_free rfl (fun u => by go_simp)) hHeld rfl ?_; (try simp only [Act.put, List.setIfInBounds_toArray, List.set_cons_zero, List.set_cons_succ]))
              (refine wa_take (i := 15) (v := .bool false) rfl (by kernel_rfl) (by kernel_rfl) (by kernel_rfl) (fun _ _ _ h => h) (yi_free rfl (fun u => rfl)) hHeld rfl ?_; (try simp only [Act.put, List.setIfInBounds_toArray, List.set_cons_zero, List.set_cons_succ]))
              refine wpAnyH_done (by kernel_rfl) ?_ _
              go_wp2_with fail
              go_ret
              exact ⟨by rw [HV.out]; rfl, HW.out.trans (HB.out.mono HW.out.size)⟩
            | false =>
              have HV := Lib.hid (show ckE ⟨on, nx, dp, dr, ls.map pl⟩ = 1 from if_neg fun hok => by rw [decide_eq_true hok.2.2.2] at hfq; cases hfq)
              clear hfq
              have HB1 := Lib.hid (HB.out.trans (hb.mono HB.out.size)); clear hb HB; have HB := HB1; clear HB1; go_wp2_with fail; refine hK.out _ _ HB.out (fun hHeld => ?_); clear hK K; (try simp only [Act.put, List.setIfInBounds_toArray, List.set_cons_zero, List.set_cons_succ])
              (refine wa_take (i := 14) (v := .bool true) rfl (by kernel_rfl) (by kernel_rfl) (by kernel_rfl) (fun _ _ _ h => h) (yi_free rfl (fun u => by go_simp)) hHeld rfl ?_; (try simp only [Act.put, List.setIfInBounds_toArray, List.set_cons_zero, List.set_cons_succ]))
              (refine wa_take (i := 15) (v := .bool true) rfl (by kernel_rfl) (by kernel_rfl) (by kernel_rfl) (fun _ _ _ h => h) (yi_free rfl (fun u => rfl)) hHeld rfl ?_; (try simp only [Act.put, List.setIfInBounds_toArray, List.set_cons_zero, List.set_cons_succ]))
              refine wpAnyH_done (by kernel_rfl) ?_ _
              go_wp2_with fail
              go_ret
              exact ⟨by rw [HV.out]; rfl, HW.out.trans (HB.out.mono HW.out.size)⟩
end Go.Proofs.Ytffapinabidkiaa.Lp
