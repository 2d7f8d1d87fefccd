/-
  Own texts, laid together: Qn.
-/
import Derived.Test.YtcnckamocbaceaaDoorQl
/- Qn -/
namespace Go.Proofs.YtcnckamocbaceaaDoor.Lp
open Go.RowKit Go.Proofs.YtcnckamocbaceaaDoor.Fx Go.Proofs.YtcnckamocbaceaaDoor.Fq Go.Proofs.YtcnckamocbaceaaDoor.Tb
theorem tab_selfq {q : List Int} (lq : q.length = 16) : tab 16 (fun k => q.getD k 0) = q :=
  getD_ext (by rw [tab_length, lq]) fun k hk => tab_getD _ (by rw [tab_length] at hk; exact hk)
theorem part2_at {n k : Nat} (f g : Nat → Int) (h : k < n) : (tab n (part2 k f g)).getD k 0 = g k := by
  rw [tab_getD _ h]; unfold part2; rw [if_neg (by omega)]
theorem asL_pos {l : List Int} (hc : chkL l = true) : asL l = shareL l 120 := by unfold asL; rw [if_pos hc]
set_option maxRecDepth 100000 in
set_option maxHeartbeats 8000000 in
theorem again_walk (q l : List Int) (w : World) (lq : q.length = 16) (ll : l.length = 6) (he : Edg w) :
    Calls Tryd.prog 6 #[.agg (icells q), .agg (icells l)] w fun e w' => e = .returned (.bool true) ∧ Below w.heap.size w w' := by
  have LQ := Lib.hid lq
  have LL := Lib.hid ll
  have HE := Lib.hid he
  have HM := Lib.hid (Mem.start w)
  have F0 := Lib.hid (fun u (hu : Edg u) => qlive_any u hu)
  cases hc : chkL l with
  | false =>
    have F1 := Lib.hid (fun u => rbcheck_any l false 1 u ll hc rfl)
    clear ll lq he hc
    go_enter Tryd.func6, Tryd.ntmps6
    go_wp2_with (first | ((first | refine wl_box rfl _ _ rfl rfl HM ?_ | refine wl_alloc rfl _ rfl (by exact arrOf) HM ?_); first | (have q : dL HM = 0 := rfl; clear q HM; intro g1 u1 HM) | (have q : dL HM = 1 := rfl; clear q HM; intro g2 u2 HM) | (have q : dL HM = 2 := rfl; clear q HM; intro g3 u3 HM) | (have q : dL HM = 3 := rfl; clear q HM; intro g4 u4 HM) | (have q : dL HM = 4 := rfl; clear q HM; intro g5 u5 HM) | (have q : dL HM = 5 := rfl; clear q HM; intro g6 u6 HM) | (have q : dL HM = 6 := rfl; clear q HM; intro g7 u7 HM) | (have q : dL HM = 7 := rfl; clear q HM; intro g8 u8 HM) | (have q : dL HM = 8 := rfl; clear q HM; intro g9 u9 HM) | (have q : dL HM = 9 := rfl; clear q HM; intro g10 u10 HM) | (have q : dL HM = 10 := rfl; clear q HM; intro g11 u11 HM) | (have q : dL HM = 11 := rfl; clear q HM; intro g12 u12 HM) | (have q : dL HM = 12 := rfl; clear q HM; intro g13 u13 HM) | (have q : dL HM = 13 := rfl; clear q HM; intro g14 u14 HM)) | (refine wl_load rfl _ _ rfl rfl (by exact arrOf) HM (by exact memOf) (by exact lenOf) ?_) | (refine wl_storeM rfl _ _ _ rfl rfl rfl (by exact arrOf) HM (by exact idxOf) (by exact lenOf) (by exact lenOf) ?_; clear HM; intro us HM; dsimp only [List.set] at HM) | (refine wl_zero rfl _ rfl (by exact arrOf) (by kernel_rfl) ?_))
    refine (F0.out _ (HE.out.mem HM.out)).mono ?_
    rintro e wq ⟨rfl, h1⟩
    have HM2 := Lib.hid (HM.out.below h1)
    clear h1 HM F0
    have HM := HM2
    clear HM2
    go_wp2_with (first | ((first | refine wl_box rfl _ _ rfl rfl HM ?_ | refine wl_alloc rfl _ rfl (by exact arrOf) HM ?_); first | (have q : dL HM = 0 := rfl; clear q HM; intro g1 u1 HM) | (have q : dL HM = 1 := rfl; clear q HM; intro g2 u2 HM) | (have q : dL HM = 2 := rfl; clear q HM; intro g3 u3 HM) | (have q : dL HM = 3 := rfl; clear q HM; intro g4 u4 HM) | (have q : dL HM = 4 := rfl; clear q HM; intro g5 u5 HM) | (have q : dL HM = 5 := rfl; clear q HM; intro g6 u6 HM) | (have q : dL HM = 6 := rfl; clear q HM; intro g7 u7 HM) | (have q : dL HM = 7 := rfl; clear q HM; intro g8 u8 HM) | (have q : dL HM = 8 := rfl; clear q HM; intro g9 u9 HM) | (have q : dL HM = 9 := rfl; clear q HM; intro g10 u10 HM) | (have q : dL HM = 10 := rfl; clear q HM; intro g11 u11 HM) | (have q : dL HM = 11 := rfl; clear q HM; intro g12 u12 HM) | (have q : dL HM = 12 := rfl; clear q HM; intro g13 u13 HM) | (have q : dL HM = 13 := rfl; clear q HM; intro g14 u14 HM)) | (refine wl_load rfl _ _ rfl rfl (by exact arrOf) HM (by exact memOf) (by exact lenOf) ?_) | (refine wl_storeM rfl _ _ _ rfl rfl rfl (by exact arrOf) HM (by exact idxOf) (by exact lenOf) (by exact lenOf) ?_; clear HM; intro us HM; dsimp only [List.set] at HM) | (refine wl_zero rfl _ rfl (by exact arrOf) (by kernel_rfl) ?_))
    refine (F1.out _).mono ?_
    rintro e wq ⟨rfl, h1⟩
    have HM2 := Lib.hid (HM.out.below h1)
    clear h1 HM F1
    have HM := HM2
    clear HM2
    go_wp2_with (first | ((first | refine wl_box rfl _ _ rfl rfl HM ?_ | refine wl_alloc rfl _ rfl (by exact arrOf) HM ?_); first | (have q : dL HM = 0 := rfl; clear q HM; intro g1 u1 HM) | (have q : dL HM = 1 := rfl; clear q HM; intro g2 u2 HM) | (have q : dL HM = 2 := rfl; clear q HM; intro g3 u3 HM) | (have q : dL HM = 3 := rfl; clear q HM; intro g4 u4 HM) | (have q : dL HM = 4 := rfl; clear q HM; intro g5 u5 HM) | (have q : dL HM = 5 := rfl; clear q HM; intro g6 u6 HM) | (have q : dL HM = 6 := rfl; clear q HM; intro g7 u7 HM) | (have q : dL HM = 7 := rfl; clear q HM; intro g8 u8 HM) | (have q : dL HM = 8 := rfl; clear q HM; intro g9 u9 HM) | (have q : dL HM = 9 := rfl; clear q HM; intro g10 u10 HM) | (have q : dL HM = 10 := rfl; clear q HM; intro g11 u11 HM) | (have q : dL HM = 11 := rfl; clear q HM; intro g12 u12 HM) | (have q : dL HM = 12 := rfl; clear q HM; intro g13 u13 HM) | (have q : dL HM = 13 := rfl; clear q HM; intro g14 u14 HM)) | (refine wl_load rfl _ _ rfl rfl (by exact arrOf) HM (by exact memOf) (by exact lenOf) ?_) | (refine wl_storeM rfl _ _ _ rfl rfl rfl (by exact arrOf) HM (by exact idxOf) (by exact lenOf) (by exact lenOf) ?_; clear HM; intro us HM; dsimp only [List.set] at HM) | (refine wl_zero rfl _ rfl (by exact arrOf) (by kernel_rfl) ?_))
    go_ret
    exact ⟨rfl, HM.out.1⟩
  | true =>
    have F1 := Lib.hid (fun u => rbcheck_any l true 0 u ll hc rfl)
    have F2 := Lib.hid (fun u => rloud_good l u ll hc)
    by_cases ht : topN l 6 ≤ 200
    · cases hm : mayB q l with
      | false =>
        have F3 := Lib.hid (fun u => rmay_any q l u lq ll)
        rw [hm] at F3
        generalize topN l 6 = z at F2 ht
        have d1 : decide (200 < z) = false := decide_eq_false (by omega)
        clear ll lq he hc hm ht
        go_enter Tryd.func6, Tryd.ntmps6
        go_wp2_with (first | ((first | refine wl_box rfl _ _ rfl rfl HM ?_ | refine wl_alloc rfl _ rfl (by exact arrOf) HM ?_); first | (have q : dL HM = 0 := rfl; clear q HM; intro g1 u1 HM) | (have q : dL HM = 1 := rfl; clear q HM; intro g2 u2 HM) | (have q : dL HM = 2 := rfl; clear q HM; intro g3 u3 HM) | (have q : dL HM = 3 := rfl; clear q HM; intro g4 u4 HM) | (have q : dL HM = 4 := rfl; clear q HM; intro g5 u5 HM) | (have q : dL HM = 5 := rfl; clear q HM; intro g6 u6 HM) | (have q : dL HM = 6 := rfl; clear q HM; intro g7 u7 HM) | (have q : dL HM = 7 := rfl; clear q HM; intro g8 u8 HM) | (have q : dL HM = 8 := rfl; clear q HM; intro g9 u9 HM) | (have q : dL HM = 9 := rfl; clear q HM; intro g10 u10 HM) | (have q : dL HM = 10 := rfl; clear q HM; intro g11 u11 HM) | (have q : dL HM = 11 := rfl; clear q HM; intro g12 u12 HM) | (have q : dL HM = 12 := rfl; clear q HM; intro g13 u13 HM) | (have q : dL HM = 13 := rfl; clear q HM; intro g14 u14 HM)) | (refine wl_load rfl _ _ rfl rfl (by exact arrOf) HM (by exact memOf) (by exact lenOf) ?_) | (refine wl_storeM rfl _ _ _ rfl rfl rfl (by exact arrOf) HM (by exact idxOf) (by exact lenOf) (by exact lenOf) ?_; clear HM; intro us HM; dsimp only [List.set] at HM) | (refine wl_zero rfl _ rfl (by exact arrOf) (by kernel_rfl) ?_))
        refine (F0.out _ (HE.out.mem HM.out)).mono ?_
        rintro e wq ⟨rfl, h1⟩
        have HM2 := Lib.hid (HM.out.below h1)
        clear h1 HM F0
        have HM := HM2
        clear HM2
        go_wp2_with (first | ((first | refine wl_box rfl _ _ rfl rfl HM ?_ | refine wl_alloc rfl _ rfl (by exact arrOf) HM ?_); first | (have q : dL HM = 0 := rfl; clear q HM; intro g1 u1 HM) | (have q : dL HM = 1 := rfl; clear q HM; intro g2 u2 HM) | (have q : dL HM = 2 := rfl; clear q HM; intro g3 u3 HM) | (have q : dL HM = 3 := rfl; clear q HM; intro g4 u4 HM) | (have q : dL HM = 4 := rfl; clear q HM; intro g5 u5 HM) | (have q : dL HM = 5 := rfl; clear q HM; intro g6 u6 HM) | (have q : dL HM = 6 := rfl; clear q HM; intro g7 u7 HM) | (have q : dL HM = 7 := rfl; clear q HM; intro g8 u8 HM) | (have q : dL HM = 8 := rfl; clear q HM; intro g9 u9 HM) | (have q : dL HM = 9 := rfl; clear q HM; intro g10 u10 HM) | (have q : dL HM = 10 := rfl; clear q HM; intro g11 u11 HM) | (have q : dL HM = 11 := rfl; clear q HM; intro g12 u12 HM) | (have q : dL HM = 12 := rfl; clear q HM; intro g13 u13 HM) | (have q : dL HM = 13 := rfl; clear q HM; intro g14 u14 HM)) | (refine wl_load rfl _ _ rfl rfl (by exact arrOf) HM (by exact memOf) (by exact lenOf) ?_) | (refine wl_storeM rfl _ _ _ rfl rfl rfl (by exact arrOf) HM (by exact idxOf) (by exact lenOf) (by exact lenOf) ?_; clear HM; intro us HM; dsimp only [List.set] at HM) | (refine wl_zero rfl _ rfl (by exact arrOf) (by kernel_rfl) ?_))
        refine (F1.out _).mono ?_
        rintro e wq ⟨rfl, h1⟩
        have HM2 := Lib.hid (HM.out.below h1)
        clear h1 HM F1
        have HM := HM2
        clear HM2
        go_wp2_with (first | ((first | refine wl_box rfl _ _ rfl rfl HM ?_ | refine wl_alloc rfl _ rfl (by exact arrOf) HM ?_); first | (have q : dL HM = 0 := rfl; clear q HM; intro g1 u1 HM) | (have q : dL HM = 1 := rfl; clear q HM; intro g2 u2 HM) | (have q : dL HM = 2 := rfl; clear q HM; intro g3 u3 HM) | (have q : dL HM = 3 := rfl; clear q HM; intro g4 u4 HM) | (have q : dL HM = 4 := rfl; clear q HM; intro g5 u5 HM) | (have q : dL HM = 5 := rfl; clear q HM; intro g6 u6 HM) | (have q : dL HM = 6 := rfl; clear q HM; intro g7 u7 HM) | (have q : dL HM = 7 := rfl; clear q HM; intro g8 u8 HM) | (have q : dL HM = 8 := rfl; clear q HM; intro g9 u9 HM) | (have q : dL HM = 9 := rfl; clear q HM; intro g10 u10 HM) | (have q : dL HM = 10 := rfl; clear q HM; intro g11 u11 HM) | (have q : dL HM = 11 := rfl; clear q HM; intro g12 u12 HM) | (have q : dL HM = 12 := rfl; clear q HM; intro g13 u13 HM) | (have q : dL HM = 13 := rfl; clear q HM; intro g14 u14 HM)) | (refine wl_load rfl _ _ rfl rfl (by exact arrOf) HM (by exact memOf) (by exact lenOf) ?_) | (refine wl_storeM rfl _ _ _ rfl rfl rfl (by exact arrOf) HM (by exact idxOf) (by exact lenOf) (by exact lenOf) ?_; clear HM; intro us HM; dsimp only [List.set] at HM) | (refine wl_zero rfl _ rfl (by exact arrOf) (by kernel_rfl) ?_))
        refine (F2.out _).mono ?_
        rintro e wq ⟨rfl, h1⟩
        have HM2 := Lib.hid (HM.out.below h1)
        clear h1 HM F2
        have HM := HM2
        clear HM2
        go_wp2_with (first | ((first | refine wl_box rfl _ _ rfl rfl HM ?_ | refine wl_alloc rfl _ rfl (by exact arrOf) HM ?_); first | (have q : dL HM = 0 := rfl; clear q HM; intro g1 u1 HM) | (have q : dL HM = 1 := rfl; clear q HM; intro g2 u2 HM) | (have q : dL HM = 2 := rfl; clear q HM; intro g3 u3 HM) | (have q : dL HM = 3 := rfl; clear q HM; intro g4 u4 HM) | (have q : dL HM = 4 := rfl; clear q HM; intro g5 u5 HM) | (have q : dL HM = 5 := rfl; clear q HM; intro g6 u6 HM) | (have q : dL HM = 6 := rfl; clear q HM; intro g7 u7 HM) | (have q : dL HM = 7 := rfl; clear q HM; intro g8 u8 HM) | (have q : dL HM = 8 := rfl; clear q HM; intro g9 u9 HM) | (have q : dL HM = 9 := rfl; clear q HM; intro g10 u10 HM) | (have q : dL HM = 10 := rfl; clear q HM; intro g11 u11 HM) | (have q : dL HM = 11 := rfl; clear q HM; intro g12 u12 HM) | (have q : dL HM = 12 := rfl; clear q HM; intro g13 u13 HM) | (have q : dL HM = 13 := rfl; clear q HM; intro g14 u14 HM)) | (refine wl_load rfl _ _ rfl rfl (by exact arrOf) HM (by exact memOf) (by exact lenOf) ?_) | (refine wl_storeM rfl _ _ _ rfl rfl rfl (by exact arrOf) HM (by exact idxOf) (by exact lenOf) (by exact lenOf) ?_; clear HM; intro us HM; dsimp only [List.set] at HM) | (refine wl_zero rfl _ rfl (by exact arrOf) (by kernel_rfl) ?_))
        refine (F3.out _).mono ?_
        rintro e wq ⟨rfl, h1⟩
        have HM2 := Lib.hid (HM.out.below h1)
        clear h1 HM F3
        have HM := HM2
        clear HM2
        go_wp2_with (first | ((first | refine wl_box rfl _ _ rfl rfl HM ?_ | refine wl_alloc rfl _ rfl (by exact arrOf) HM ?_); first | (have q : dL HM = 0 := rfl; clear q HM; intro g1 u1 HM) | (have q : dL HM = 1 := rfl; clear q HM; intro g2 u2 HM) | (have q : dL HM = 2 := rfl; clear q HM; intro g3 u3 HM) | (have q : dL HM = 3 := rfl; clear q HM; intro g4 u4 HM) | (have q : dL HM = 4 := rfl; clear q HM; intro g5 u5 HM) | (have q : dL HM = 5 := rfl; clear q HM; intro g6 u6 HM) | (have q : dL HM = 6 := rfl; clear q HM; intro g7 u7 HM) | (have q : dL HM = 7 := rfl; clear q HM; intro g8 u8 HM) | (have q : dL HM = 8 := rfl; clear q HM; intro g9 u9 HM) | (have q : dL HM = 9 := rfl; clear q HM; intro g10 u10 HM) | (have q : dL HM = 10 := rfl; clear q HM; intro g11 u11 HM) | (have q : dL HM = 11 := rfl; clear q HM; intro g12 u12 HM) | (have q : dL HM = 12 := rfl; clear q HM; intro g13 u13 HM) | (have q : dL HM = 13 := rfl; clear q HM; intro g14 u14 HM)) | (refine wl_load rfl _ _ rfl rfl (by exact arrOf) HM (by exact memOf) (by exact lenOf) ?_) | (refine wl_storeM rfl _ _ _ rfl rfl rfl (by exact arrOf) HM (by exact idxOf) (by exact lenOf) (by exact lenOf) ?_; clear HM; intro us HM; dsimp only [List.set] at HM) | (refine wl_zero rfl _ rfl (by exact arrOf) (by kernel_rfl) ?_))
        go_ret
        exact ⟨rfl, HM.out.1⟩
      | true =>
        have F3 := Lib.hid (fun u => rmay_any q l u lq ll)
        rw [hm] at F3
        have F4 := Lib.hid (fun u (hu : Edg u) => qgreat_any q l u lq ll hu)
        rw [show greatV q l = .tuple #[.agg (icells (greatL q l)), .int .i64 0] by unfold greatV; rw [if_pos hm]] at F4
        have F5 := Lib.hid (fun u (hu : Edg u) => qsmall_any (greatL q l) l u (greatL_length q l) ll hu)
        rw [show smallV (greatL q l) l = .tuple #[.agg (icells q), .agg (icells (asL l)), .int .i64 0] by unfold smallV; rw [if_pos ⟨hc, great_okX q l⟩, small_back lq hc ht hm]] at F5
        have F6 := Lib.hid (fun u (hu : Edg u) => qgreat_any (negL q) l u (tab_length _ _) ll hu)
        rw [show greatV (negL q) l = .tuple #[.agg (icells (greatL (negL q) l)), .int .i64 0] by unfold greatV; rw [if_pos (may_neg hm)]] at F6
        have HG := Lib.hid (fun (k : Nat) (hk : k < 16) => great_neg hc ht hm hk)
        have HX := Lib.hid (fun k => inR_bd (great_okX q l) (by omega) (by omega) k)
        have HQ := Lib.hid (fun (k : Nat) (hk : k < 16) => (show -127 ≤ q.getD k 0 ∧ q.getD k 0 ≤ 127 from by
          have h1 := again_at hc ht hm hk
          have h2 := msL_bd l hk
          omega))
        have L3 := Lib.hid (greatL_length q l)
        have L5 := Lib.hid (asL_length l)
        have L7 := Lib.hid (greatL_length (negL q) l)
        have LZ := Lib.hid (zr_length 16)
        have LA := Lib.hid (zr_length 6)
        have q1 := fun u => run_equalIn_same 29 (n := 16) (by kernel_rfl) q lq u
        have gh := grdHop
        have TS := Lib.hid (tab_selfq lq)
        generalize topN l 6 = z at F2 ht
        have d1 : decide (200 < z) = false := decide_eq_false (by omega)
        generalize greatL q l = X at F4 F5 HG HX L3
        generalize greatL (negL q) l = Y at F6 HG L7
        generalize asL l = A at F5 L5
        clear ll lq he hc hm ht
        go_enter Tryd.func6, Tryd.ntmps6
        go_wp2_with (first | ((first | refine wl_box rfl _ _ rfl rfl HM ?_ | refine wl_alloc rfl _ rfl (by exact arrOf) HM ?_); first | (have q : dL HM = 0 := rfl; clear q HM; intro g1 u1 HM) | (have q : dL HM = 1 := rfl; clear q HM; intro g2 u2 HM) | (have q : dL HM = 2 := rfl; clear q HM; intro g3 u3 HM) | (have q : dL HM = 3 := rfl; clear q HM; intro g4 u4 HM) | (have q : dL HM = 4 := rfl; clear q HM; intro g5 u5 HM) | (have q : dL HM = 5 := rfl; clear q HM; intro g6 u6 HM) | (have q : dL HM = 6 := rfl; clear q HM; intro g7 u7 HM) | (have q : dL HM = 7 := rfl; clear q HM; intro g8 u8 HM) | (have q : dL HM = 8 := rfl; clear q HM; intro g9 u9 HM) | (have q : dL HM = 9 := rfl; clear q HM; intro g10 u10 HM) | (have q : dL HM = 10 := rfl; clear q HM; intro g11 u11 HM) | (have q : dL HM = 11 := rfl; clear q HM; intro g12 u12 HM) | (have q : dL HM = 12 := rfl; clear q HM; intro g13 u13 HM) | (have q : dL HM = 13 := rfl; clear q HM; intro g14 u14 HM)) | (refine wl_load rfl _ _ rfl rfl (by exact arrOf) HM (by exact memOf) (by exact lenOf) ?_) | (refine wl_storeM rfl _ _ _ rfl rfl rfl (by exact arrOf) HM (by exact idxOf) (by exact lenOf) (by exact lenOf) ?_; clear HM; intro us HM; dsimp only [List.set] at HM) | (refine wl_zero rfl _ rfl (by exact arrOf) (by kernel_rfl) ?_))
        refine (F0.out _ (HE.out.mem HM.out)).mono ?_
        rintro e wq ⟨rfl, h1⟩
        have HM2 := Lib.hid (HM.out.below h1)
        clear h1 HM F0
        have HM := HM2
        clear HM2
        go_wp2_with (first | ((first | refine wl_box rfl _ _ rfl rfl HM ?_ | refine wl_alloc rfl _ rfl (by exact arrOf) HM ?_); first | (have q : dL HM = 0 := rfl; clear q HM; intro g1 u1 HM) | (have q : dL HM = 1 := rfl; clear q HM; intro g2 u2 HM) | (have q : dL HM = 2 := rfl; clear q HM; intro g3 u3 HM) | (have q : dL HM = 3 := rfl; clear q HM; intro g4 u4 HM) | (have q : dL HM = 4 := rfl; clear q HM; intro g5 u5 HM) | (have q : dL HM = 5 := rfl; clear q HM; intro g6 u6 HM) | (have q : dL HM = 6 := rfl; clear q HM; intro g7 u7 HM) | (have q : dL HM = 7 := rfl; clear q HM; intro g8 u8 HM) | (have q : dL HM = 8 := rfl; clear q HM; intro g9 u9 HM) | (have q : dL HM = 9 := rfl; clear q HM; intro g10 u10 HM) | (have q : dL HM = 10 := rfl; clear q HM; intro g11 u11 HM) | (have q : dL HM = 11 := rfl; clear q HM; intro g12 u12 HM) | (have q : dL HM = 12 := rfl; clear q HM; intro g13 u13 HM) | (have q : dL HM = 13 := rfl; clear q HM; intro g14 u14 HM)) | (refine wl_load rfl _ _ rfl rfl (by exact arrOf) HM (by exact memOf) (by exact lenOf) ?_) | (refine wl_storeM rfl _ _ _ rfl rfl rfl (by exact arrOf) HM (by exact idxOf) (by exact lenOf) (by exact lenOf) ?_; clear HM; intro us HM; dsimp only [List.set] at HM) | (refine wl_zero rfl _ rfl (by exact arrOf) (by kernel_rfl) ?_))
        refine (F1.out _).mono ?_
        rintro e wq ⟨rfl, h1⟩
        have HM2 := Lib.hid (HM.out.below h1)
        clear h1 HM F1
        have HM := HM2
        clear HM2
        go_wp2_with (first | ((first | refine wl_box rfl _ _ rfl rfl HM ?_ | refine wl_alloc rfl _ rfl (by exact arrOf) HM ?_); first | (have q : dL HM = 0 := rfl; clear q HM; intro g1 u1 HM) | (have q : dL HM = 1 := rfl; clear q HM; intro g2 u2 HM) | (have q : dL HM = 2 := rfl; clear q HM; intro g3 u3 HM) | (have q : dL HM = 3 := rfl; clear q HM; intro g4 u4 HM) | (have q : dL HM = 4 := rfl; clear q HM; intro g5 u5 HM) | (have q : dL HM = 5 := rfl; clear q HM; intro g6 u6 HM) | (have q : dL HM = 6 := rfl; clear q HM; intro g7 u7 HM) | (have q : dL HM = 7 := rfl; clear q HM; intro g8 u8 HM) | (have q : dL HM = 8 := rfl; clear q HM; intro g9 u9 HM) | (have q : dL HM = 9 := rfl; clear q HM; intro g10 u10 HM) | (have q : dL HM = 10 := rfl; clear q HM; intro g11 u11 HM) | (have q : dL HM = 11 := rfl; clear q HM; intro g12 u12 HM) | (have q : dL HM = 12 := rfl; clear q HM; intro g13 u13 HM) | (have q : dL HM = 13 := rfl; clear q HM; intro g14 u14 HM)) | (refine wl_load rfl _ _ rfl rfl (by exact arrOf) HM (by exact memOf) (by exact lenOf) ?_) | (refine wl_storeM rfl _ _ _ rfl rfl rfl (by exact arrOf) HM (by exact idxOf) (by exact lenOf) (by exact lenOf) ?_; clear HM; intro us HM; dsimp only [List.set] at HM) | (refine wl_zero rfl _ rfl (by exact arrOf) (by kernel_rfl) ?_))
        refine (F2.out _).mono ?_
        rintro e wq ⟨rfl, h1⟩
        have HM2 := Lib.hid (HM.out.below h1)
        clear h1 HM F2
        have HM := HM2
        clear HM2
        go_wp2_with (first | ((first | refine wl_box rfl _ _ rfl rfl HM ?_ | refine wl_alloc rfl _ rfl (by exact arrOf) HM ?_); first | (have q : dL HM = 0 := rfl; clear q HM; intro g1 u1 HM) | (have q : dL HM = 1 := rfl; clear q HM; intro g2 u2 HM) | (have q : dL HM = 2 := rfl; clear q HM; intro g3 u3 HM) | (have q : dL HM = 3 := rfl; clear q HM; intro g4 u4 HM) | (have q : dL HM = 4 := rfl; clear q HM; intro g5 u5 HM) | (have q : dL HM = 5 := rfl; clear q HM; intro g6 u6 HM) | (have q : dL HM = 6 := rfl; clear q HM; intro g7 u7 HM) | (have q : dL HM = 7 := rfl; clear q HM; intro g8 u8 HM) | (have q : dL HM = 8 := rfl; clear q HM; intro g9 u9 HM) | (have q : dL HM = 9 := rfl; clear q HM; intro g10 u10 HM) | (have q : dL HM = 10 := rfl; clear q HM; intro g11 u11 HM) | (have q : dL HM = 11 := rfl; clear q HM; intro g12 u12 HM) | (have q : dL HM = 12 := rfl; clear q HM; intro g13 u13 HM) | (have q : dL HM = 13 := rfl; clear q HM; intro g14 u14 HM)) | (refine wl_load rfl _ _ rfl rfl (by exact arrOf) HM (by exact memOf) (by exact lenOf) ?_) | (refine wl_storeM rfl _ _ _ rfl rfl rfl (by exact arrOf) HM (by exact idxOf) (by exact lenOf) (by exact lenOf) ?_; clear HM; intro us HM; dsimp only [List.set] at HM) | (refine wl_zero rfl _ rfl (by exact arrOf) (by kernel_rfl) ?_))
        refine (F3.out _).mono ?_
        rintro e wq ⟨rfl, h1⟩
        have HM2 := Lib.hid (HM.out.below h1)
        clear h1 HM F3
        have HM := HM2
        clear HM2
        go_wp2_with (first | ((first | refine wl_box rfl _ _ rfl rfl HM ?_ | refine wl_alloc rfl _ rfl (by exact arrOf) HM ?_); first | (have q : dL HM = 0 := rfl; clear q HM; intro g1 u1 HM) | (have q : dL HM = 1 := rfl; clear q HM; intro g2 u2 HM) | (have q : dL HM = 2 := rfl; clear q HM; intro g3 u3 HM) | (have q : dL HM = 3 := rfl; clear q HM; intro g4 u4 HM) | (have q : dL HM = 4 := rfl; clear q HM; intro g5 u5 HM) | (have q : dL HM = 5 := rfl; clear q HM; intro g6 u6 HM) | (have q : dL HM = 6 := rfl; clear q HM; intro g7 u7 HM) | (have q : dL HM = 7 := rfl; clear q HM; intro g8 u8 HM) | (have q : dL HM = 8 := rfl; clear q HM; intro g9 u9 HM) | (have q : dL HM = 9 := rfl; clear q HM; intro g10 u10 HM) | (have q : dL HM = 10 := rfl; clear q HM; intro g11 u11 HM) | (have q : dL HM = 11 := rfl; clear q HM; intro g12 u12 HM) | (have q : dL HM = 12 := rfl; clear q HM; intro g13 u13 HM) | (have q : dL HM = 13 := rfl; clear q HM; intro g14 u14 HM)) | (refine wl_load rfl _ _ rfl rfl (by exact arrOf) HM (by exact memOf) (by exact lenOf) ?_) | (refine wl_storeM rfl _ _ _ rfl rfl rfl (by exact arrOf) HM (by exact idxOf) (by exact lenOf) (by exact lenOf) ?_; clear HM; intro us HM; dsimp only [List.set] at HM) | (refine wl_zero rfl _ rfl (by exact arrOf) (by kernel_rfl) ?_))
        refine (F4.out _ (HE.out.mem HM.out)).mono ?_
        rintro e wq ⟨rfl, h1⟩
        have HM2 := Lib.hid (HM.out.below h1)
        clear h1 HM F4
        have HM := HM2
        clear HM2
        go_wp2_with (first | ((first | refine wl_box rfl _ _ rfl rfl HM ?_ | refine wl_alloc rfl _ rfl (by exact arrOf) HM ?_); first | (have q : dL HM = 0 := rfl; clear q HM; intro g1 u1 HM) | (have q : dL HM = 1 := rfl; clear q HM; intro g2 u2 HM) | (have q : dL HM = 2 := rfl; clear q HM; intro g3 u3 HM) | (have q : dL HM = 3 := rfl; clear q HM; intro g4 u4 HM) | (have q : dL HM = 4 := rfl; clear q HM; intro g5 u5 HM) | (have q : dL HM = 5 := rfl; clear q HM; intro g6 u6 HM) | (have q : dL HM = 6 := rfl; clear q HM; intro g7 u7 HM) | (have q : dL HM = 7 := rfl; clear q HM; intro g8 u8 HM) | (have q : dL HM = 8 := rfl; clear q HM; intro g9 u9 HM) | (have q : dL HM = 9 := rfl; clear q HM; intro g10 u10 HM) | (have q : dL HM = 10 := rfl; clear q HM; intro g11 u11 HM) | (have q : dL HM = 11 := rfl; clear q HM; intro g12 u12 HM) | (have q : dL HM = 12 := rfl; clear q HM; intro g13 u13 HM) | (have q : dL HM = 13 := rfl; clear q HM; intro g14 u14 HM)) | (refine wl_load rfl _ _ rfl rfl (by exact arrOf) HM (by exact memOf) (by exact lenOf) ?_) | (refine wl_storeM rfl _ _ _ rfl rfl rfl (by exact arrOf) HM (by exact idxOf) (by exact lenOf) (by exact lenOf) ?_; clear HM; intro us HM; dsimp only [List.set] at HM) | (refine wl_zero rfl _ rfl (by exact arrOf) (by kernel_rfl) ?_))
        refine (F5.out _ (HE.out.mem HM.out)).mono ?_
        rintro e wq ⟨rfl, h1⟩
        have HM2 := Lib.hid (HM.out.below h1)
        clear h1 HM F5
        have HM := HM2
        clear HM2
        go_wp2_with (first | ((first | refine wl_box rfl _ _ rfl rfl HM ?_ | refine wl_alloc rfl _ rfl (by exact arrOf) HM ?_); first | (have q : dL HM = 0 := rfl; clear q HM; intro g1 u1 HM) | (have q : dL HM = 1 := rfl; clear q HM; intro g2 u2 HM) | (have q : dL HM = 2 := rfl; clear q HM; intro g3 u3 HM) | (have q : dL HM = 3 := rfl; clear q HM; intro g4 u4 HM) | (have q : dL HM = 4 := rfl; clear q HM; intro g5 u5 HM) | (have q : dL HM = 5 := rfl; clear q HM; intro g6 u6 HM) | (have q : dL HM = 6 := rfl; clear q HM; intro g7 u7 HM) | (have q : dL HM = 7 := rfl; clear q HM; intro g8 u8 HM) | (have q : dL HM = 8 := rfl; clear q HM; intro g9 u9 HM) | (have q : dL HM = 9 := rfl; clear q HM; intro g10 u10 HM) | (have q : dL HM = 10 := rfl; clear q HM; intro g11 u11 HM) | (have q : dL HM = 11 := rfl; clear q HM; intro g12 u12 HM) | (have q : dL HM = 12 := rfl; clear q HM; intro g13 u13 HM) | (have q : dL HM = 13 := rfl; clear q HM; intro g14 u14 HM)) | (refine wl_load rfl _ _ rfl rfl (by exact arrOf) HM (by exact memOf) (by exact lenOf) ?_) | (refine wl_storeM rfl _ _ _ rfl rfl rfl (by exact arrOf) HM (by exact idxOf) (by exact lenOf) (by exact lenOf) ?_; clear HM; intro us HM; dsimp only [List.set] at HM) | (refine wl_zero rfl _ rfl (by exact arrOf) (by kernel_rfl) ?_))
        go_loopw [48] (fun vi wr => ∃ k : Nat, k ≤ 16 ∧ vi = .int .i64 (k : Int) ∧ Hid (Mem w [(g6, 29, tab 16 (part2 k (fun k => -(q.getD k 0)) (fun k => q.getD k 0))), (g5, 34, A), (g4, 29, q), (g3, 30, X), (g2, 32, l), (g1, 29, q)] wr)) (fun vi _ => 16 - (intOf vi).toNat)
        case atStart => exact ⟨0, by omega, rfl, Lib.hid (by rw [part2_none, TS.out]; exact HM.out)⟩
        case round =>
          clear HM
          obtain ⟨k, hk, rfl, HM⟩ := hrel
          by_cases hlt : k < 16
          · have k16 : (k : Int) < 16 := by omega
            have SS := Lib.hid (part2_set (n := 16) (k := k) (fun k => -(q.getD k 0)) (fun k => q.getD k 0))
            have c1 := HM.out.cell (.head _) (k := k) (by rw [tab_length]; exact hlt)
            rw [part2_at _ _ hlt] at c1
            have f1 := HM.out.free (.head _) k
            have hq := HQ.out k hlt
            obtain ⟨v, hv⟩ : ∃ v, q.getD k 0 = v := ⟨_, rfl⟩
            rw [hv] at c1 hq SS
            have e1 : IntKind.i64.wrap (-v) = -v := i64_w (by omega) (by omega)
            clear hv hq
            go_wp2_with fail
            have HM3 := Lib.hid (HM.out.put 0 rfl k (-v))
            simp only [List.set_cons_zero] at HM3
            rw [SS.out] at HM3
            clear HM c1 f1 e1
            go_roundw
            case rel => exact ⟨k + 1, by omega, by go_num, HM3⟩
            case measure => simp [intOf]; omega
          · obtain rfl : k = 16 := by omega
            rw [part2_all, show tab 16 (fun k => -(q.getD k 0)) = negL q from rfl] at HM
            have L6 := Lib.hid (show (negL q).length = 16 from tab_length _ _)
            go_wp2_with (first | ((first | refine wl_box rfl _ _ rfl rfl HM ?_ | refine wl_alloc rfl _ rfl (by exact arrOf) HM ?_); first | (have q : dL HM = 0 := rfl; clear q HM; intro g1 u1 HM) | (have q : dL HM = 1 := rfl; clear q HM; intro g2 u2 HM) | (have q : dL HM = 2 := rfl; clear q HM; intro g3 u3 HM) | (have q : dL HM = 3 := rfl; clear q HM; intro g4 u4 HM) | (have q : dL HM = 4 := rfl; clear q HM; intro g5 u5 HM) | (have q : dL HM = 5 := rfl; clear q HM; intro g6 u6 HM) | (have q : dL HM = 6 := rfl; clear q HM; intro g7 u7 HM) | (have q : dL HM = 7 := rfl; clear q HM; intro g8 u8 HM) | (have q : dL HM = 8 := rfl; clear q HM; intro g9 u9 HM) | (have q : dL HM = 9 := rfl; clear q HM; intro g10 u10 HM) | (have q : dL HM = 10 := rfl; clear q HM; intro g11 u11 HM) | (have q : dL HM = 11 := rfl; clear q HM; intro g12 u12 HM) | (have q : dL HM = 12 := rfl; clear q HM; intro g13 u13 HM) | (have q : dL HM = 13 := rfl; clear q HM; intro g14 u14 HM)) | (refine wl_load rfl _ _ rfl rfl (by exact arrOf) HM (by exact memOf) (by exact lenOf) ?_) | (refine wl_storeM rfl _ _ _ rfl rfl rfl (by exact arrOf) HM (by exact idxOf) (by exact lenOf) (by exact lenOf) ?_; clear HM; intro us HM; dsimp only [List.set] at HM) | (refine wl_zero rfl _ rfl (by exact arrOf) (by kernel_rfl) ?_))
            refine (F6.out _ (HE.out.mem HM.out)).mono ?_
            rintro e wq ⟨rfl, h1⟩
            have HM2 := Lib.hid (HM.out.below h1)
            clear h1 HM F6
            have HM := HM2
            clear HM2
            go_wp2_with (first | ((first | refine wl_box rfl _ _ rfl rfl HM ?_ | refine wl_alloc rfl _ rfl (by exact arrOf) HM ?_); first | (have q : dL HM = 0 := rfl; clear q HM; intro g1 u1 HM) | (have q : dL HM = 1 := rfl; clear q HM; intro g2 u2 HM) | (have q : dL HM = 2 := rfl; clear q HM; intro g3 u3 HM) | (have q : dL HM = 3 := rfl; clear q HM; intro g4 u4 HM) | (have q : dL HM = 4 := rfl; clear q HM; intro g5 u5 HM) | (have q : dL HM = 5 := rfl; clear q HM; intro g6 u6 HM) | (have q : dL HM = 6 := rfl; clear q HM; intro g7 u7 HM) | (have q : dL HM = 7 := rfl; clear q HM; intro g8 u8 HM) | (have q : dL HM = 8 := rfl; clear q HM; intro g9 u9 HM) | (have q : dL HM = 9 := rfl; clear q HM; intro g10 u10 HM) | (have q : dL HM = 10 := rfl; clear q HM; intro g11 u11 HM) | (have q : dL HM = 11 := rfl; clear q HM; intro g12 u12 HM) | (have q : dL HM = 12 := rfl; clear q HM; intro g13 u13 HM) | (have q : dL HM = 13 := rfl; clear q HM; intro g14 u14 HM)) | (refine wl_load rfl _ _ rfl rfl (by exact arrOf) HM (by exact memOf) (by exact lenOf) ?_) | (refine wl_storeM rfl _ _ _ rfl rfl rfl (by exact arrOf) HM (by exact idxOf) (by exact lenOf) (by exact lenOf) ?_; clear HM; intro us HM; dsimp only [List.set] at HM) | (refine wl_zero rfl _ rfl (by exact arrOf) (by kernel_rfl) ?_))
            go_loopw [79] (fun vi wr => ∃ k : Nat, k ≤ 16 ∧ vi = .int .i64 (k : Int) ∧ Hid (Mem w [(g7, 30, Y), (g3, 30, X)] wr)) (fun vi _ => 16 - (intOf vi).toNat)
            case atStart => exact ⟨0, by omega, rfl, Lib.hid (HM.out.sub (by exact subOf))⟩
            case round =>
              clear HM
              obtain ⟨k, hk, rfl, HM⟩ := hrel
              by_cases hlt : k < 16
              · have k16 : (k : Int) < 16 := by omega
                have H1 := Lib.hid (fun (u : World) (hu : Mem w [(g7, 30, Y), (g3, 30, X)] u) => hu.cell (.head _) (k := k) (by rw [L7.out]; exact hlt))
                have H2 := Lib.hid (fun (u : World) (hu : Mem w [(g7, 30, Y), (g3, 30, X)] u) => hu.cell (.tail _ (.head _)) (k := k) (by rw [L3.out]; exact hlt))
                rw [HG.out k hlt] at H1
                have hx := HX.out k
                generalize X.getD k 0 = v at H1 H2 hx
                have e1 : IntKind.i64.wrap (-v) = -v := i64_w (by omega) (by omega)
                clear hx
                go_wp2
                refine wp_region_held_drew (S := Mem w [(g7, 30, Y), (g3, 30, X)]) (by kernel_rfl) (HM.out.drew.sub (by exact subOf)) (fun hHeld => ?_)
                have HM2 := Lib.hid HM.out.drew
                clear HM
                have HM := HM2
                clear HM2
                generalize World.drew _ = wd at HM hHeld ⊢
                (refine wa_take (i := 0) rfl (by kernel_rfl) (by kernel_rfl) (by kernel_rfl) (fun _ _ _ h => h) (yi_free rfl (fun u => rfl)) hHeld rfl ?_; (try simp only [Act.put, List.setIfInBounds_toArray, List.set_cons_zero, List.set_cons_succ]))
                (refine wa_take (i := 1) (v := .pointer (some ⟨g7, k, none⟩)) rfl (by kernel_rfl) (by kernel_rfl) (by kernel_rfl) (fun _ _ _ h => h) (yi_free rfl (fun u => by go_simp)) hHeld rfl ?_; (try simp only [Act.put, List.setIfInBounds_toArray, List.set_cons_zero, List.set_cons_succ]))
                (refine wa_take (i := 2) rfl (by kernel_rfl) (by kernel_rfl) (by kernel_rfl) (fun _ _ _ h => h) (yi_cell rfl _ rfl rfl (H1).out) hHeld rfl ?_; (try simp only [Act.put, List.setIfInBounds_toArray, List.set_cons_zero, List.set_cons_succ]))
                (refine wa_take (i := 3) rfl (by kernel_rfl) (by kernel_rfl) (by kernel_rfl) (fun _ _ _ h => h) (yi_free rfl (fun u => rfl)) hHeld rfl ?_; (try simp only [Act.put, List.setIfInBounds_toArray, List.set_cons_zero, List.set_cons_succ]))
                (refine wa_take (i := 4) (v := .pointer (some ⟨g3, k, none⟩)) rfl (by kernel_rfl) (by kernel_rfl) (by kernel_rfl) (fun _ _ _ h => h) (yi_free rfl (fun u => by go_simp)) hHeld rfl ?_; (try simp only [Act.put, List.setIfInBounds_toArray, List.set_cons_zero, List.set_cons_succ]))
                (refine wa_take (i := 5) rfl (by kernel_rfl) (by kernel_rfl) (by kernel_rfl) (fun _ _ _ h => h) (yi_cell rfl _ rfl rfl (H2).out) hHeld rfl ?_; (try simp only [Act.put, List.setIfInBounds_toArray, List.set_cons_zero, List.set_cons_succ]))
                (refine wa_take (i := 6) (v := .int .i64 (-v)) rfl (by kernel_rfl) (by kernel_rfl) (by kernel_rfl) (fun _ _ _ h => h) (yi_free rfl (fun u => by go_simp)) hHeld rfl ?_; (try simp only [Act.put, List.setIfInBounds_toArray, List.set_cons_zero, List.set_cons_succ]))
                (refine wa_take (i := 7) (v := .bool false) rfl (by kernel_rfl) (by kernel_rfl) (by kernel_rfl) (fun _ _ _ h => h) (yi_free rfl (fun u => by go_simp)) hHeld rfl ?_; (try simp only [Act.put, List.setIfInBounds_toArray, List.set_cons_zero, List.set_cons_succ]))
                refine wpAnyH_done (by kernel_rfl) ?_ _
                clear H1 H2 e1
                go_wp2
                go_roundw
                case rel => exact ⟨k + 1, by omega, by go_num, HM⟩
                case measure => simp [intOf]; omega
              · obtain rfl : k = 16 := by omega
                go_wp2
                go_ret
                exact ⟨rfl, HM.out.1⟩
    · have d1 : decide (200 < topN l 6) = true := decide_eq_true (by omega)
      generalize topN l 6 = z at F2 d1
      clear ll lq he hc ht
      go_enter Tryd.func6, Tryd.ntmps6
      go_wp2_with (first | ((first | refine wl_box rfl _ _ rfl rfl HM ?_ | refine wl_alloc rfl _ rfl (by exact arrOf) HM ?_); first | (have q : dL HM = 0 := rfl; clear q HM; intro g1 u1 HM) | (have q : dL HM = 1 := rfl; clear q HM; intro g2 u2 HM) | (have q : dL HM = 2 := rfl; clear q HM; intro g3 u3 HM) | (have q : dL HM = 3 := rfl; clear q HM; intro g4 u4 HM) | (have q : dL HM = 4 := rfl; clear q HM; intro g5 u5 HM) | (have q : dL HM = 5 := rfl; clear q HM; intro g6 u6 HM) | (have q : dL HM = 6 := rfl; clear q HM; intro g7 u7 HM) | (have q : dL HM = 7 := rfl; clear q HM; intro g8 u8 HM) | (have q : dL HM = 8 := rfl; clear q HM; intro g9 u9 HM) | (have q : dL HM = 9 := rfl; clear q HM; intro g10 u10 HM) | (have q : dL HM = 10 := rfl; clear q HM; intro g11 u11 HM) | (have q : dL HM = 11 := rfl; clear q HM; intro g12 u12 HM) | (have q : dL HM = 12 := rfl; clear q HM; intro g13 u13 HM) | (have q : dL HM = 13 := rfl; clear q HM; intro g14 u14 HM)) | (refine wl_load rfl _ _ rfl rfl (by exact arrOf) HM (by exact memOf) (by exact lenOf) ?_) | (refine wl_storeM rfl _ _ _ rfl rfl rfl (by exact arrOf) HM (by exact idxOf) (by exact lenOf) (by exact lenOf) ?_; clear HM; intro us HM; dsimp only [List.set] at HM) | (refine wl_zero rfl _ rfl (by exact arrOf) (by kernel_rfl) ?_))
      refine (F0.out _ (HE.out.mem HM.out)).mono ?_
      rintro e wq ⟨rfl, h1⟩
      have HM2 := Lib.hid (HM.out.below h1)
      clear h1 HM F0
      have HM := HM2
      clear HM2
      go_wp2_with (first | ((first | refine wl_box rfl _ _ rfl rfl HM ?_ | refine wl_alloc rfl _ rfl (by exact arrOf) HM ?_); first | (have q : dL HM = 0 := rfl; clear q HM; intro g1 u1 HM) | (have q : dL HM = 1 := rfl; clear q HM; intro g2 u2 HM) | (have q : dL HM = 2 := rfl; clear q HM; intro g3 u3 HM) | (have q : dL HM = 3 := rfl; clear q HM; intro g4 u4 HM) | (have q : dL HM = 4 := rfl; clear q HM; intro g5 u5 HM) | (have q : dL HM = 5 := rfl; clear q HM; intro g6 u6 HM) | (have q : dL HM = 6 := rfl; clear q HM; intro g7 u7 HM) | (have q : dL HM = 7 := rfl; clear q HM; intro g8 u8 HM) | (have q : dL HM = 8 := rfl; clear q HM; intro g9 u9 HM) | (have q : dL HM = 9 := rfl; clear q HM; intro g10 u10 HM) | (have q : dL HM = 10 := rfl; clear q HM; intro g11 u11 HM) | (have q : dL HM = 11 := rfl; clear q HM; intro g12 u12 HM) | (have q : dL HM = 12 := rfl; clear q HM; intro g13 u13 HM) | (have q : dL HM = 13 := rfl; clear q HM; intro g14 u14 HM)) | (refine wl_load rfl _ _ rfl rfl (by exact arrOf) HM (by exact memOf) (by exact lenOf) ?_) | (refine wl_storeM rfl _ _ _ rfl rfl rfl (by exact arrOf) HM (by exact idxOf) (by exact lenOf) (by exact lenOf) ?_; clear HM; intro us HM; dsimp only [List.set] at HM) | (refine wl_zero rfl _ rfl (by exact arrOf) (by kernel_rfl) ?_))
      refine (F1.out _).mono ?_
      rintro e wq ⟨rfl, h1⟩
      have HM2 := Lib.hid (HM.out.below h1)
      clear h1 HM F1
      have HM := HM2
      clear HM2
      go_wp2_with (first | ((first | refine wl_box rfl _ _ rfl rfl HM ?_ | refine wl_alloc rfl _ rfl (by exact arrOf) HM ?_); first | (have q : dL HM = 0 := rfl; clear q HM; intro g1 u1 HM) | (have q : dL HM = 1 := rfl; clear q HM; intro g2 u2 HM) | (have q : dL HM = 2 := rfl; clear q HM; intro g3 u3 HM) | (have q : dL HM = 3 := rfl; clear q HM; intro g4 u4 HM) | (have q : dL HM = 4 := rfl; clear q HM; intro g5 u5 HM) | (have q : dL HM = 5 := rfl; clear q HM; intro g6 u6 HM) | (have q : dL HM = 6 := rfl; clear q HM; intro g7 u7 HM) | (have q : dL HM = 7 := rfl; clear q HM; intro g8 u8 HM) | (have q : dL HM = 8 := rfl; clear q HM; intro g9 u9 HM) | (have q : dL HM = 9 := rfl; clear q HM; intro g10 u10 HM) | (have q : dL HM = 10 := rfl; clear q HM; intro g11 u11 HM) | (have q : dL HM = 11 := rfl; clear q HM; intro g12 u12 HM) | (have q : dL HM = 12 := rfl; clear q HM; intro g13 u13 HM) | (have q : dL HM = 13 := rfl; clear q HM; intro g14 u14 HM)) | (refine wl_load rfl _ _ rfl rfl (by exact arrOf) HM (by exact memOf) (by exact lenOf) ?_) | (refine wl_storeM rfl _ _ _ rfl rfl rfl (by exact arrOf) HM (by exact idxOf) (by exact lenOf) (by exact lenOf) ?_; clear HM; intro us HM; dsimp only [List.set] at HM) | (refine wl_zero rfl _ rfl (by exact arrOf) (by kernel_rfl) ?_))
      refine (F2.out _).mono ?_
      rintro e wq ⟨rfl, h1⟩
      have HM2 := Lib.hid (HM.out.below h1)
      clear h1 HM F2
      have HM := HM2
      clear HM2
      go_wp2_with (first | ((first | refine wl_box rfl _ _ rfl rfl HM ?_ | refine wl_alloc rfl _ rfl (by exact arrOf) HM ?_); first | (have q : dL HM = 0 := rfl; clear q HM; intro g1 u1 HM) | (have q : dL HM = 1 := rfl; clear q HM; intro g2 u2 HM) | (have q : dL HM = 2 := rfl; clear q HM; intro g3 u3 HM) | (have q : dL HM = 3 := rfl; clear q HM; intro g4 u4 HM) | (have q : dL HM = 4 := rfl; clear q HM; intro g5 u5 HM) | (have q : dL HM = 5 := rfl; clear q HM; intro g6 u6 HM) | (have q : dL HM = 6 := rfl; clear q HM; intro g7 u7 HM) | (have q : dL HM = 7 := rfl; clear q HM; intro g8 u8 HM) | (have q : dL HM = 8 := rfl; clear q HM; intro g9 u9 HM) | (have q : dL HM = 9 := rfl; clear q HM; intro g10 u10 HM) | (have q : dL HM = 10 := rfl; clear q HM; intro g11 u11 HM) | (have q : dL HM = 11 := rfl; clear q HM; intro g12 u12 HM) | (have q : dL HM = 12 := rfl; clear q HM; intro g13 u13 HM) | (have q : dL HM = 13 := rfl; clear q HM; intro g14 u14 HM)) | (refine wl_load rfl _ _ rfl rfl (by exact arrOf) HM (by exact memOf) (by exact lenOf) ?_) | (refine wl_storeM rfl _ _ _ rfl rfl rfl (by exact arrOf) HM (by exact idxOf) (by exact lenOf) (by exact lenOf) ?_; clear HM; intro us HM; dsimp only [List.set] at HM) | (refine wl_zero rfl _ rfl (by exact arrOf) (by kernel_rfl) ?_))
      go_ret
      exact ⟨rfl, HM.out.1⟩
end Go.Proofs.YtcnckamocbaceaaDoor.Lp
