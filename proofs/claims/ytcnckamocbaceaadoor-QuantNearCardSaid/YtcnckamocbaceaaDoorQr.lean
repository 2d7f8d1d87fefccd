/-
  Own texts, laid together: Qr.
-/
import Derived.Test.YtcnckamocbaceaaDoorQo
/- Qr -/
namespace Go.Proofs.YtcnckamocbaceaaDoor.Lp
open Go.RowKit Go.Proofs.YtcnckamocbaceaaDoor.Fx Go.Proofs.YtcnckamocbaceaaDoor.Fq Go.Proofs.YtcnckamocbaceaaDoor.Tb
theorem chk_meas (x : List Int) : chkL (measL x) = true := (inR_iff (measL_length x)).2 fun k hk => by
  rw [show (measL x).getD k 0 = levB x k from tab_getD _ hk]
  exact lvl_bd _
set_option maxRecDepth 100000 in
set_option maxHeartbeats 8000000 in
theorem near_walk (x : List Int) (w : World) (lx : x.length = 16) (he : Edg w) :
    Calls Tryd.prog 5 #[.agg (icells x)] w fun e w' => e = .returned (.bool true) ∧ Below w.heap.size w w' := by
  have LX := Lib.hid lx
  have HE := Lib.hid he
  have HM := Lib.hid (Mem.start w)
  have F0 := Lib.hid (fun u (hu : Edg u) => qlive_any u hu)
  cases hx : okX x with
  | false =>
    have F1 := Lib.hid (fun u => mayX_any x false u lx hx)
    clear lx he hx
    go_enter Tryd.func5, Tryd.ntmps5
    go_wp2_with (first | ((first | refine wl_box rfl _ _ rfl rfl HM ?_ | refine wl_alloc rfl _ rfl (by exact arrOf) HM ?_); first | (have q : dL HM = 0 := rfl; clear q HM; intro g1 u1 HM) | (have q : dL HM = 1 := rfl; clear q HM; intro g2 u2 HM) | (have q : dL HM = 2 := rfl; clear q HM; intro g3 u3 HM) | (have q : dL HM = 3 := rfl; clear q HM; intro g4 u4 HM) | (have q : dL HM = 4 := rfl; clear q HM; intro g5 u5 HM) | (have q : dL HM = 5 := rfl; clear q HM; intro g6 u6 HM) | (have q : dL HM = 6 := rfl; clear q HM; intro g7 u7 HM) | (have q : dL HM = 7 := rfl; clear q HM; intro g8 u8 HM) | (have q : dL HM = 8 := rfl; clear q HM; intro g9 u9 HM) | (have q : dL HM = 9 := rfl; clear q HM; intro g10 u10 HM) | (have q : dL HM = 10 := rfl; clear q HM; intro g11 u11 HM) | (have q : dL HM = 11 := rfl; clear q HM; intro g12 u12 HM) | (have q : dL HM = 12 := rfl; clear q HM; intro g13 u13 HM) | (have q : dL HM = 13 := rfl; clear q HM; intro g14 u14 HM)) | (refine wl_load rfl _ _ rfl rfl (by exact arrOf) HM (by exact memOf) (by exact lenOf) ?_) | (refine wl_storeM rfl _ _ _ rfl rfl rfl (by exact arrOf) HM (by exact idxOf) (by exact lenOf) (by exact lenOf) ?_; clear HM; intro us HM; dsimp only [List.set] at HM) | (refine wl_zero rfl _ rfl (by exact arrOf) (by kernel_rfl) ?_))
    refine (F0.out _ (HE.out.mem HM.out)).mono ?_
    rintro e wq ⟨rfl, h1⟩
    have HM2 := Lib.hid (HM.out.below h1)
    clear h1 HM F0
    have HM := HM2
    clear HM2
    go_wp2_with (first | ((first | refine wl_box rfl _ _ rfl rfl HM ?_ | refine wl_alloc rfl _ rfl (by exact arrOf) HM ?_); first | (have q : dL HM = 0 := rfl; clear q HM; intro g1 u1 HM) | (have q : dL HM = 1 := rfl; clear q HM; intro g2 u2 HM) | (have q : dL HM = 2 := rfl; clear q HM; intro g3 u3 HM) | (have q : dL HM = 3 := rfl; clear q HM; intro g4 u4 HM) | (have q : dL HM = 4 := rfl; clear q HM; intro g5 u5 HM) | (have q : dL HM = 5 := rfl; clear q HM; intro g6 u6 HM) | (have q : dL HM = 6 := rfl; clear q HM; intro g7 u7 HM) | (have q : dL HM = 7 := rfl; clear q HM; intro g8 u8 HM) | (have q : dL HM = 8 := rfl; clear q HM; intro g9 u9 HM) | (have q : dL HM = 9 := rfl; clear q HM; intro g10 u10 HM) | (have q : dL HM = 10 := rfl; clear q HM; intro g11 u11 HM) | (have q : dL HM = 11 := rfl; clear q HM; intro g12 u12 HM) | (have q : dL HM = 12 := rfl; clear q HM; intro g13 u13 HM) | (have q : dL HM = 13 := rfl; clear q HM; intro g14 u14 HM)) | (refine wl_load rfl _ _ rfl rfl (by exact arrOf) HM (by exact memOf) (by exact lenOf) ?_) | (refine wl_storeM rfl _ _ _ rfl rfl rfl (by exact arrOf) HM (by exact idxOf) (by exact lenOf) (by exact lenOf) ?_; clear HM; intro us HM; dsimp only [List.set] at HM) | (refine wl_zero rfl _ rfl (by exact arrOf) (by kernel_rfl) ?_))
    refine (F1.out _).mono ?_
    rintro e wq ⟨rfl, h1⟩
    have HM2 := Lib.hid (HM.out.below h1)
    clear h1 HM F1
    have HM := HM2
    clear HM2
    go_wp2_with (first | ((first | refine wl_box rfl _ _ rfl rfl HM ?_ | refine wl_alloc rfl _ rfl (by exact arrOf) HM ?_); first | (have q : dL HM = 0 := rfl; clear q HM; intro g1 u1 HM) | (have q : dL HM = 1 := rfl; clear q HM; intro g2 u2 HM) | (have q : dL HM = 2 := rfl; clear q HM; intro g3 u3 HM) | (have q : dL HM = 3 := rfl; clear q HM; intro g4 u4 HM) | (have q : dL HM = 4 := rfl; clear q HM; intro g5 u5 HM) | (have q : dL HM = 5 := rfl; clear q HM; intro g6 u6 HM) | (have q : dL HM = 6 := rfl; clear q HM; intro g7 u7 HM) | (have q : dL HM = 7 := rfl; clear q HM; intro g8 u8 HM) | (have q : dL HM = 8 := rfl; clear q HM; intro g9 u9 HM) | (have q : dL HM = 9 := rfl; clear q HM; intro g10 u10 HM) | (have q : dL HM = 10 := rfl; clear q HM; intro g11 u11 HM) | (have q : dL HM = 11 := rfl; clear q HM; intro g12 u12 HM) | (have q : dL HM = 12 := rfl; clear q HM; intro g13 u13 HM) | (have q : dL HM = 13 := rfl; clear q HM; intro g14 u14 HM)) | (refine wl_load rfl _ _ rfl rfl (by exact arrOf) HM (by exact memOf) (by exact lenOf) ?_) | (refine wl_storeM rfl _ _ _ rfl rfl rfl (by exact arrOf) HM (by exact idxOf) (by exact lenOf) (by exact lenOf) ?_; clear HM; intro us HM; dsimp only [List.set] at HM) | (refine wl_zero rfl _ rfl (by exact arrOf) (by kernel_rfl) ?_))
    go_ret
    exact ⟨rfl, HM.out.1⟩
  | true =>
    have hc := chk_meas x
    have F1 := Lib.hid (fun u => mayX_any x true u lx hx)
    have F2 := Lib.hid (fun u (hu : Edg u) => meas_any x u lx hu)
    rw [show measV x = .tuple #[.agg (icells (measL x)), .int .i64 0] by unfold measV; rw [if_pos hx]] at F2
    have N0 := Lib.hid (fun (k : Nat) (hk : k < 16) => near_none (x := x) hc hk)
    have N1 := Lib.hid (fun (k : Nat) (hk : k < 16) (y z : Nat) => near_some hx hc hk (y := y) (z := z))
    have L2 := Lib.hid (measL_length x)
    have HL := Lib.hid (fun k => inR_bd hc (by omega) (by omega) k)
    have HX := Lib.hid (fun k => inR_bd hx (by omega) (by omega) k)
    generalize measL x = l at F2 N0 N1 L2 HL hc
    have F3 := Lib.hid (fun u (hu : Edg u) => qsmall_any x l u lx L2.out hu)
    rw [show smallV x l = .tuple #[.agg (icells (smallL x l)), .agg (icells (shareL l 120)), .int .i64 0] by unfold smallV; rw [if_pos ⟨hc, hx⟩, asL_pos hc]] at F3
    have F4 := Lib.hid (fun u (hu : Edg u) => qgreat_any (smallL x l) l u (smallL_length x l) L2.out hu)
    rw [show greatV (smallL x l) l = .tuple #[.agg (icells (greatL (smallL x l) l)), .int .i64 0] by unfold greatV; rw [if_pos (small_may hc)]] at F4
    have F5 := Lib.hid (fun u (hu : Edg u) => qmay_any (smallL x l) l u (smallL_length x l) L2.out hu)
    rw [small_may hc] at F5
    have F6 := Lib.hid (fun u => mayX_any (greatL (smallL x l) l) true u (greatL_length _ _) (great_okX _ _))
    have HY := Lib.hid (fun k => inR_bd (great_okX (smallL x l) l) (by omega) (by omega) k)
    have L3 := Lib.hid (smallL_length x l)
    have L5 := Lib.hid (greatL_length (smallL x l) l)
    generalize greatL (smallL x l) l = Y at F4 F6 HY L5 N0 N1
    generalize smallL x l = Q at F3 F4 F5 L3 N0 N1
    have hok := share_ok l (B := 120) (by decide)
    generalize shareL l 120 = A at F3 N0 N1 hok
    have L4 := Lib.hid hok.1.1
    have HA := Lib.hid hok.1.2
    have F7 := Lib.hid (fun u (hu : Edg u) => cost_any A u hok.1 hu)
    have hcost := hok.2
    generalize costL A = cst at F7 hcost
    have d0 : decide (120 < cst) = false := decide_eq_false (by omega)
    clear lx he hx hc hok hcost
    go_enter Tryd.func5, Tryd.ntmps5
    go_wp2_with (first | ((first | refine wl_box rfl _ _ rfl rfl HM ?_ | refine wl_alloc rfl _ rfl (by exact arrOf) HM ?_); first | (have q : dL HM = 0 := rfl; clear q HM; intro g1 u1 HM) | (have q : dL HM = 1 := rfl; clear q HM; intro g2 u2 HM) | (have q : dL HM = 2 := rfl; clear q HM; intro g3 u3 HM) | (have q : dL HM = 3 := rfl; clear q HM; intro g4 u4 HM) | (have q : dL HM = 4 := rfl; clear q HM; intro g5 u5 HM) | (have q : dL HM = 5 := rfl; clear q HM; intro g6 u6 HM) | (have q : dL HM = 6 := rfl; clear q HM; intro g7 u7 HM) | (have q : dL HM = 7 := rfl; clear q HM; intro g8 u8 HM) | (have q : dL HM = 8 := rfl; clear q HM; intro g9 u9 HM) | (have q : dL HM = 9 := rfl; clear q HM; intro g10 u10 HM) | (have q : dL HM = 10 := rfl; clear q HM; intro g11 u11 HM) | (have q : dL HM = 11 := rfl; clear q HM; intro g12 u12 HM) | (have q : dL HM = 12 := rfl; clear q HM; intro g13 u13 HM) | (have q : dL HM = 13 := rfl; clear q HM; intro g14 u14 HM)) | (refine wl_load rfl _ _ rfl rfl (by exact arrOf) HM (by exact memOf) (by exact lenOf) ?_) | (refine wl_storeM rfl _ _ _ rfl rfl rfl (by exact arrOf) HM (by exact idxOf) (by exact lenOf) (by exact lenOf) ?_; clear HM; intro us HM; dsimp only [List.set] at HM) | (refine wl_zero rfl _ rfl (by exact arrOf) (by kernel_rfl) ?_))
    refine (F0.out _ (HE.out.mem HM.out)).mono ?_
    rintro e wq ⟨rfl, h1⟩
    have HM2 := Lib.hid (HM.out.below h1)
    clear h1 HM F0
    have HM := HM2
    clear HM2
    go_wp2_with (first | ((first | refine wl_box rfl _ _ rfl rfl HM ?_ | refine wl_alloc rfl _ rfl (by exact arrOf) HM ?_); first | (have q : dL HM = 0 := rfl; clear q HM; intro g1 u1 HM) | (have q : dL HM = 1 := rfl; clear q HM; intro g2 u2 HM) | (have q : dL HM = 2 := rfl; clear q HM; intro g3 u3 HM) | (have q : dL HM = 3 := rfl; clear q HM; intro g4 u4 HM) | (have q : dL HM = 4 := rfl; clear q HM; intro g5 u5 HM) | (have q : dL HM = 5 := rfl; clear q HM; intro g6 u6 HM) | (have q : dL HM = 6 := rfl; clear q HM; intro g7 u7 HM) | (have q : dL HM = 7 := rfl; clear q HM; intro g8 u8 HM) | (have q : dL HM = 8 := rfl; clear q HM; intro g9 u9 HM) | (have q : dL HM = 9 := rfl; clear q HM; intro g10 u10 HM) | (have q : dL HM = 10 := rfl; clear q HM; intro g11 u11 HM) | (have q : dL HM = 11 := rfl; clear q HM; intro g12 u12 HM) | (have q : dL HM = 12 := rfl; clear q HM; intro g13 u13 HM) | (have q : dL HM = 13 := rfl; clear q HM; intro g14 u14 HM)) | (refine wl_load rfl _ _ rfl rfl (by exact arrOf) HM (by exact memOf) (by exact lenOf) ?_) | (refine wl_storeM rfl _ _ _ rfl rfl rfl (by exact arrOf) HM (by exact idxOf) (by exact lenOf) (by exact lenOf) ?_; clear HM; intro us HM; dsimp only [List.set] at HM) | (refine wl_zero rfl _ rfl (by exact arrOf) (by kernel_rfl) ?_))
    refine (F1.out _).mono ?_
    rintro e wq ⟨rfl, h1⟩
    have HM2 := Lib.hid (HM.out.below h1)
    clear h1 HM F1
    have HM := HM2
    clear HM2
    go_wp2_with (first | ((first | refine wl_box rfl _ _ rfl rfl HM ?_ | refine wl_alloc rfl _ rfl (by exact arrOf) HM ?_); first | (have q : dL HM = 0 := rfl; clear q HM; intro g1 u1 HM) | (have q : dL HM = 1 := rfl; clear q HM; intro g2 u2 HM) | (have q : dL HM = 2 := rfl; clear q HM; intro g3 u3 HM) | (have q : dL HM = 3 := rfl; clear q HM; intro g4 u4 HM) | (have q : dL HM = 4 := rfl; clear q HM; intro g5 u5 HM) | (have q : dL HM = 5 := rfl; clear q HM; intro g6 u6 HM) | (have q : dL HM = 6 := rfl; clear q HM; intro g7 u7 HM) | (have q : dL HM = 7 := rfl; clear q HM; intro g8 u8 HM) | (have q : dL HM = 8 := rfl; clear q HM; intro g9 u9 HM) | (have q : dL HM = 9 := rfl; clear q HM; intro g10 u10 HM) | (have q : dL HM = 10 := rfl; clear q HM; intro g11 u11 HM) | (have q : dL HM = 11 := rfl; clear q HM; intro g12 u12 HM) | (have q : dL HM = 12 := rfl; clear q HM; intro g13 u13 HM) | (have q : dL HM = 13 := rfl; clear q HM; intro g14 u14 HM)) | (refine wl_load rfl _ _ rfl rfl (by exact arrOf) HM (by exact memOf) (by exact lenOf) ?_) | (refine wl_storeM rfl _ _ _ rfl rfl rfl (by exact arrOf) HM (by exact idxOf) (by exact lenOf) (by exact lenOf) ?_; clear HM; intro us HM; dsimp only [List.set] at HM) | (refine wl_zero rfl _ rfl (by exact arrOf) (by kernel_rfl) ?_))
    refine (F2.out _ (HE.out.mem HM.out)).mono ?_
    rintro e wq ⟨rfl, h1⟩
    have HM2 := Lib.hid (HM.out.below h1)
    clear h1 HM F2
    have HM := HM2
    clear HM2
    go_wp2_with (first | ((first | refine wl_box rfl _ _ rfl rfl HM ?_ | refine wl_alloc rfl _ rfl (by exact arrOf) HM ?_); first | (have q : dL HM = 0 := rfl; clear q HM; intro g1 u1 HM) | (have q : dL HM = 1 := rfl; clear q HM; intro g2 u2 HM) | (have q : dL HM = 2 := rfl; clear q HM; intro g3 u3 HM) | (have q : dL HM = 3 := rfl; clear q HM; intro g4 u4 HM) | (have q : dL HM = 4 := rfl; clear q HM; intro g5 u5 HM) | (have q : dL HM = 5 := rfl; clear q HM; intro g6 u6 HM) | (have q : dL HM = 6 := rfl; clear q HM; intro g7 u7 HM) | (have q : dL HM = 7 := rfl; clear q HM; intro g8 u8 HM) | (have q : dL HM = 8 := rfl; clear q HM; intro g9 u9 HM) | (have q : dL HM = 9 := rfl; clear q HM; intro g10 u10 HM) | (have q : dL HM = 10 := rfl; clear q HM; intro g11 u11 HM) | (have q : dL HM = 11 := rfl; clear q HM; intro g12 u12 HM) | (have q : dL HM = 12 := rfl; clear q HM; intro g13 u13 HM) | (have q : dL HM = 13 := rfl; clear q HM; intro g14 u14 HM)) | (refine wl_load rfl _ _ rfl rfl (by exact arrOf) HM (by exact memOf) (by exact lenOf) ?_) | (refine wl_storeM rfl _ _ _ rfl rfl rfl (by exact arrOf) HM (by exact idxOf) (by exact lenOf) (by exact lenOf) ?_; clear HM; intro us HM; dsimp only [List.set] at HM) | (refine wl_zero rfl _ rfl (by exact arrOf) (by kernel_rfl) ?_))
    refine (F3.out _ (HE.out.mem HM.out)).mono ?_
    rintro e wq ⟨rfl, h1⟩
    have HM2 := Lib.hid (HM.out.below h1)
    clear h1 HM F3
    have HM := HM2
    clear HM2
    go_wp2_with (first | ((first | refine wl_box rfl _ _ rfl rfl HM ?_ | refine wl_alloc rfl _ rfl (by exact arrOf) HM ?_); first | (have q : dL HM = 0 := rfl; clear q HM; intro g1 u1 HM) | (have q : dL HM = 1 := rfl; clear q HM; intro g2 u2 HM) | (have q : dL HM = 2 := rfl; clear q HM; intro g3 u3 HM) | (have q : dL HM = 3 := rfl; clear q HM; intro g4 u4 HM) | (have q : dL HM = 4 := rfl; clear q HM; intro g5 u5 HM) | (have q : dL HM = 5 := rfl; clear q HM; intro g6 u6 HM) | (have q : dL HM = 6 := rfl; clear q HM; intro g7 u7 HM) | (have q : dL HM = 7 := rfl; clear q HM; intro g8 u8 HM) | (have q : dL HM = 8 := rfl; clear q HM; intro g9 u9 HM) | (have q : dL HM = 9 := rfl; clear q HM; intro g10 u10 HM) | (have q : dL HM = 10 := rfl; clear q HM; intro g11 u11 HM) | (have q : dL HM = 11 := rfl; clear q HM; intro g12 u12 HM) | (have q : dL HM = 12 := rfl; clear q HM; intro g13 u13 HM) | (have q : dL HM = 13 := rfl; clear q HM; intro g14 u14 HM)) | (refine wl_load rfl _ _ rfl rfl (by exact arrOf) HM (by exact memOf) (by exact lenOf) ?_) | (refine wl_storeM rfl _ _ _ rfl rfl rfl (by exact arrOf) HM (by exact idxOf) (by exact lenOf) (by exact lenOf) ?_; clear HM; intro us HM; dsimp only [List.set] at HM) | (refine wl_zero rfl _ rfl (by exact arrOf) (by kernel_rfl) ?_))
    refine (F4.out _ (HE.out.mem HM.out)).mono ?_
    rintro e wq ⟨rfl, h1⟩
    have HM2 := Lib.hid (HM.out.below h1)
    clear h1 HM F4
    have HM := HM2
    clear HM2
    go_wp2_with (first | ((first | refine wl_box rfl _ _ rfl rfl HM ?_ | refine wl_alloc rfl _ rfl (by exact arrOf) HM ?_); first | (have q : dL HM = 0 := rfl; clear q HM; intro g1 u1 HM) | (have q : dL HM = 1 := rfl; clear q HM; intro g2 u2 HM) | (have q : dL HM = 2 := rfl; clear q HM; intro g3 u3 HM) | (have q : dL HM = 3 := rfl; clear q HM; intro g4 u4 HM) | (have q : dL HM = 4 := rfl; clear q HM; intro g5 u5 HM) | (have q : dL HM = 5 := rfl; clear q HM; intro g6 u6 HM) | (have q : dL HM = 6 := rfl; clear q HM; intro g7 u7 HM) | (have q : dL HM = 7 := rfl; clear q HM; intro g8 u8 HM) | (have q : dL HM = 8 := rfl; clear q HM; intro g9 u9 HM) | (have q : dL HM = 9 := rfl; clear q HM; intro g10 u10 HM) | (have q : dL HM = 10 := rfl; clear q HM; intro g11 u11 HM) | (have q : dL HM = 11 := rfl; clear q HM; intro g12 u12 HM) | (have q : dL HM = 12 := rfl; clear q HM; intro g13 u13 HM) | (have q : dL HM = 13 := rfl; clear q HM; intro g14 u14 HM)) | (refine wl_load rfl _ _ rfl rfl (by exact arrOf) HM (by exact memOf) (by exact lenOf) ?_) | (refine wl_storeM rfl _ _ _ rfl rfl rfl (by exact arrOf) HM (by exact idxOf) (by exact lenOf) (by exact lenOf) ?_; clear HM; intro us HM; dsimp only [List.set] at HM) | (refine wl_zero rfl _ rfl (by exact arrOf) (by kernel_rfl) ?_))
    refine (F5.out _ (HE.out.mem HM.out)).mono ?_
    rintro e wq ⟨rfl, h1⟩
    have HM2 := Lib.hid (HM.out.below h1)
    clear h1 HM F5
    have HM := HM2
    clear HM2
    go_wp2_with (first | ((first | refine wl_box rfl _ _ rfl rfl HM ?_ | refine wl_alloc rfl _ rfl (by exact arrOf) HM ?_); first | (have q : dL HM = 0 := rfl; clear q HM; intro g1 u1 HM) | (have q : dL HM = 1 := rfl; clear q HM; intro g2 u2 HM) | (have q : dL HM = 2 := rfl; clear q HM; intro g3 u3 HM) | (have q : dL HM = 3 := rfl; clear q HM; intro g4 u4 HM) | (have q : dL HM = 4 := rfl; clear q HM; intro g5 u5 HM) | (have q : dL HM = 5 := rfl; clear q HM; intro g6 u6 HM) | (have q : dL HM = 6 := rfl; clear q HM; intro g7 u7 HM) | (have q : dL HM = 7 := rfl; clear q HM; intro g8 u8 HM) | (have q : dL HM = 8 := rfl; clear q HM; intro g9 u9 HM) | (have q : dL HM = 9 := rfl; clear q HM; intro g10 u10 HM) | (have q : dL HM = 10 := rfl; clear q HM; intro g11 u11 HM) | (have q : dL HM = 11 := rfl; clear q HM; intro g12 u12 HM) | (have q : dL HM = 12 := rfl; clear q HM; intro g13 u13 HM) | (have q : dL HM = 13 := rfl; clear q HM; intro g14 u14 HM)) | (refine wl_load rfl _ _ rfl rfl (by exact arrOf) HM (by exact memOf) (by exact lenOf) ?_) | (refine wl_storeM rfl _ _ _ rfl rfl rfl (by exact arrOf) HM (by exact idxOf) (by exact lenOf) (by exact lenOf) ?_; clear HM; intro us HM; dsimp only [List.set] at HM) | (refine wl_zero rfl _ rfl (by exact arrOf) (by kernel_rfl) ?_))
    refine (F6.out _).mono ?_
    rintro e wq ⟨rfl, h1⟩
    have HM2 := Lib.hid (HM.out.below h1)
    clear h1 HM F6
    have HM := HM2
    clear HM2
    go_wp2_with (first | ((first | refine wl_box rfl _ _ rfl rfl HM ?_ | refine wl_alloc rfl _ rfl (by exact arrOf) HM ?_); first | (have q : dL HM = 0 := rfl; clear q HM; intro g1 u1 HM) | (have q : dL HM = 1 := rfl; clear q HM; intro g2 u2 HM) | (have q : dL HM = 2 := rfl; clear q HM; intro g3 u3 HM) | (have q : dL HM = 3 := rfl; clear q HM; intro g4 u4 HM) | (have q : dL HM = 4 := rfl; clear q HM; intro g5 u5 HM) | (have q : dL HM = 5 := rfl; clear q HM; intro g6 u6 HM) | (have q : dL HM = 6 := rfl; clear q HM; intro g7 u7 HM) | (have q : dL HM = 7 := rfl; clear q HM; intro g8 u8 HM) | (have q : dL HM = 8 := rfl; clear q HM; intro g9 u9 HM) | (have q : dL HM = 9 := rfl; clear q HM; intro g10 u10 HM) | (have q : dL HM = 10 := rfl; clear q HM; intro g11 u11 HM) | (have q : dL HM = 11 := rfl; clear q HM; intro g12 u12 HM) | (have q : dL HM = 12 := rfl; clear q HM; intro g13 u13 HM) | (have q : dL HM = 13 := rfl; clear q HM; intro g14 u14 HM)) | (refine wl_load rfl _ _ rfl rfl (by exact arrOf) HM (by exact memOf) (by exact lenOf) ?_) | (refine wl_storeM rfl _ _ _ rfl rfl rfl (by exact arrOf) HM (by exact idxOf) (by exact lenOf) (by exact lenOf) ?_; clear HM; intro us HM; dsimp only [List.set] at HM) | (refine wl_zero rfl _ rfl (by exact arrOf) (by kernel_rfl) ?_))
    refine (F7.out _ (HE.out.mem HM.out)).mono ?_
    rintro e wq ⟨rfl, h1⟩
    have HM2 := Lib.hid (HM.out.below h1)
    clear h1 HM F7
    have HM := HM2
    clear HM2
    go_wp2_with (first | ((first | refine wl_box rfl _ _ rfl rfl HM ?_ | refine wl_alloc rfl _ rfl (by exact arrOf) HM ?_); first | (have q : dL HM = 0 := rfl; clear q HM; intro g1 u1 HM) | (have q : dL HM = 1 := rfl; clear q HM; intro g2 u2 HM) | (have q : dL HM = 2 := rfl; clear q HM; intro g3 u3 HM) | (have q : dL HM = 3 := rfl; clear q HM; intro g4 u4 HM) | (have q : dL HM = 4 := rfl; clear q HM; intro g5 u5 HM) | (have q : dL HM = 5 := rfl; clear q HM; intro g6 u6 HM) | (have q : dL HM = 6 := rfl; clear q HM; intro g7 u7 HM) | (have q : dL HM = 7 := rfl; clear q HM; intro g8 u8 HM) | (have q : dL HM = 8 := rfl; clear q HM; intro g9 u9 HM) | (have q : dL HM = 9 := rfl; clear q HM; intro g10 u10 HM) | (have q : dL HM = 10 := rfl; clear q HM; intro g11 u11 HM) | (have q : dL HM = 11 := rfl; clear q HM; intro g12 u12 HM) | (have q : dL HM = 12 := rfl; clear q HM; intro g13 u13 HM) | (have q : dL HM = 13 := rfl; clear q HM; intro g14 u14 HM)) | (refine wl_load rfl _ _ rfl rfl (by exact arrOf) HM (by exact memOf) (by exact lenOf) ?_) | (refine wl_storeM rfl _ _ _ rfl rfl rfl (by exact arrOf) HM (by exact idxOf) (by exact lenOf) (by exact lenOf) ?_; clear HM; intro us HM; dsimp only [List.set] at HM) | (refine wl_zero rfl _ rfl (by exact arrOf) (by kernel_rfl) ?_))
    go_loopw [66] (fun vi wr => ∃ k : Nat, k ≤ 16 ∧ vi = .int .i64 (k : Int) ∧ Hid (Mem w [(g5, 30, Y), (g4, 34, A), (g3, 29, Q), (g2, 32, l), (g1, 30, x)] wr)) (fun vi _ => 16 - (intOf vi).toNat)
    case atStart => exact ⟨0, by omega, rfl, HM⟩
    case round =>
      clear HM
      obtain ⟨k, hk, rfl, HM⟩ := hrel
      by_cases hlt : k < 16
      · have k16 : (k : Int) < 16 := by omega
        have HO := Lib.hid (fun u (hu : Edg u) => of_good k u hlt hu)
        have hb6 := (bnd_all k hlt).1
        have n0 := N0.out k hlt
        have n1 := N1.out k hlt
        obtain ⟨b, hbb⟩ : ∃ b, bnd k = b := ⟨_, rfl⟩
        rw [hbb] at HO hb6 n0 n1
        clear hbb
        have b6 : (b : Int) < 6 := by omega
        have hl := HL.out b
        have ha := HA.out b hb6
        have hv := HX.out k
        have hyv := HY.out k
        have CY := Lib.hid (fun (u : World) (hu : Mem w [(g5, 30, Y), (g4, 34, A), (g3, 29, Q), (g2, 32, l), (g1, 30, x)] u) => hu.cell (.head _) (k := k) (by rw [L5.out]; first | exact hlt | exact hb6))
        have CA := Lib.hid (fun (u : World) (hu : Mem w [(g5, 30, Y), (g4, 34, A), (g3, 29, Q), (g2, 32, l), (g1, 30, x)] u) => hu.cell (.tail _ (.head _)) (k := b) (by rw [L4.out]; first | exact hlt | exact hb6))
        have CQ := Lib.hid (fun (u : World) (hu : Mem w [(g5, 30, Y), (g4, 34, A), (g3, 29, Q), (g2, 32, l), (g1, 30, x)] u) => hu.cell (.tail _ (.tail _ (.head _))) (k := k) (by rw [L3.out]; first | exact hlt | exact hb6))
        have CL := Lib.hid (fun (u : World) (hu : Mem w [(g5, 30, Y), (g4, 34, A), (g3, 29, Q), (g2, 32, l), (g1, 30, x)] u) => hu.cell (.tail _ (.tail _ (.tail _ (.head _)))) (k := b) (by rw [L2.out]; first | exact hlt | exact hb6))
        have CX := Lib.hid (fun (u : World) (hu : Mem w [(g5, 30, Y), (g4, 34, A), (g3, 29, Q), (g2, 32, l), (g1, 30, x)] u) => hu.cell (.tail _ (.tail _ (.tail _ (.tail _ (.head _))))) (k := k) (by rw [LX.out]; first | exact hlt | exact hb6))
        obtain ⟨y, hy⟩ : ∃ y : Nat, l.getD b 0 = (y : Int) := ⟨(l.getD b 0).toNat, by omega⟩
        obtain ⟨z, hz⟩ : ∃ z : Nat, A.getD b 0 = (z : Int) := ⟨(A.getD b 0).toNat, by omega⟩
        rw [hy] at CL hl
        rw [hz] at CA ha n0
        have n2 := n1 y z hy hz
        clear n1 hy hz
        generalize x.getD k 0 = v at CX hv n2
        generalize Y.getD k 0 = yv at CY hyv n2 n0
        generalize Q.getD k 0 = qv at CQ n2 n0
        have y256 : y < 256 := by omega
        have z7 : z ≤ 7 := by omega
        have c1 := CA.out _ HM.out
        have c2 := CQ.out _ HM.out
        have c3 := CY.out _ HM.out
        go_wp2_with fail
        refine (HO.out _ (HE.out.mem HM.out)).mono ?_
        rintro e wb ⟨rfl, rfl⟩
        by_cases h0 : z = 0
        · obtain ⟨q0, y0⟩ := n0 (by rw [h0]; rfl)
          have d3 : ((z : Int) == 0) = true := by rw [h0]; rfl
          have d4 : decide ((z : Int) = 0) = true := by rw [h0]; rfl
          have d5 : (qv != 0) = false := by rw [q0]; rfl
          have d6 : (yv != 0) = false := by rw [y0]; rfl
          have d7 : decide (z = 0) = true := decide_eq_true h0
          have d8 : decide (qv = 0) = true := by rw [q0]; rfl
          have d9 : decide (yv = 0) = true := by rw [y0]; rfl
          clear n0 n2 h0 q0 y0 hl ha hv hyv CY CA CQ CL CX y256 z7
          go_wp2_with fail
          clear c1 c2 c3 d3 d4 d5 d6 d7 d8 d9
          go_roundw
          case rel => exact ⟨k + 1, by omega, by go_num, HM⟩
          case measure => simp [intOf]; omega
        · have z1 : 1 ≤ z := by omega
          obtain ⟨m1, m2, m3, m4⟩ := n2 z1
          have sb := stepN_bd (l := y) (k := z) y256 z1 z7
          have mb := mostN_bd z z7
          have FS := Lib.hid (fun u => qstep_good y z u y256 z1 z7)
          have FQ := Lib.hid (fun u => qmost_is (z : Int) u)
          rw [show mostV (z : Int) = mostN z by unfold mostV; congr 1; omega] at FQ
          have d3 : ((z : Int) == 0) = false := by simpa using h0
          have d4 : decide ((z : Int) = 0) = false := by simpa using h0
          have d7 : decide (z = 0) = false := decide_eq_false h0
          obtain ⟨s, hs⟩ : ∃ s : Int, ((stepN y z : Nat) : Int) = s := ⟨_, rfl⟩
          obtain ⟨m, hm⟩ : ∃ m : Int, ((mostN z : Nat) : Int) = m := ⟨_, rfl⟩
          have s1 : s ≤ 4026531967 := by omega
          have s0 : 1 ≤ s := by omega
          have mm1 : m ≤ 127 := by omega
          have mm0 : 0 ≤ m := by omega
          rw [hs] at m1 m2
          rw [hm] at m3 m4
          simp only [hs] at FS
          simp only [hm] at FQ
          clear sb mb hs hm n0 n2
          obtain ⟨d, hd⟩ : ∃ d, yv - v = d := ⟨_, rfl⟩
          rw [hd] at m1 m2
          have w1 : IntKind.i64.wrap (yv - v) = d := by rw [← hd]; exact i64_w (by omega) (by omega)
          obtain ⟨t, ht⟩ : ∃ t, 2 * d = t := ⟨_, rfl⟩
          rw [ht] at m1 m2
          have w2 : IntKind.i64.wrap (2 * d) = t := by rw [← ht]; exact i64_w (by omega) (by omega)
          have w3 : IntKind.i64.wrap (-s) = -s := i64_w (by omega) (by omega)
          have w4 : IntKind.i64.wrap (-m) = -m := i64_w (by omega) (by omega)
          have q1 : decide (s < t) = false := decide_eq_false (by omega)
          have q2 : decide (t < -s) = false := decide_eq_false (by omega)
          have q3 : decide (m < qv) = false := decide_eq_false (by omega)
          have q4 : decide (qv < -m) = false := decide_eq_false (by omega)
          have c4 := CL.out _ HM.out
          have b0 : 0 ≤ (b : Int) := by omega
          clear hd ht s1 s0 mm1 mm0 m1 m2 m3 m4 hl ha hv hyv h0 y256 z1 z7 c2 c3
          go_wp2_with fail
          go_quiet ((go_at_call 12; exact Calls.quiet_of_same ((FS.out _).mono fun _ _ ⟨h1, h2⟩ => ⟨h1, h2.symm⟩)))
          have HM2 := Lib.hid (HM.out.drewN nq)
          clear HM c1 c4 FS
          have HM := HM2
          clear HM2
          generalize World.drewN _ _ = wd at HM ⊢
          have c3 := CY.out _ HM.out
          have c5 := CX.out _ HM.out
          go_wp2_with fail
          go_quiet (fail)
          have HM2 := Lib.hid (HM.out.drewN nq)
          clear HM c3 c5 w1
          have HM := HM2
          clear HM2
          generalize World.drewN _ _ = wd2 at HM ⊢
          have c1 := CA.out _ HM.out
          have c2 := CQ.out _ HM.out
          go_wp2_with fail
          clear w2 w3 q1 q2
          go_quiet ((go_at_call 14; exact Calls.quiet_of_same ((FQ.out _).mono fun _ _ ⟨h1, h2⟩ => ⟨h1, h2.symm⟩)))
          have HM2 := Lib.hid (HM.out.drewN nq)
          clear HM c1 c2 w4 q3 q4 FQ
          have HM := HM2
          clear HM2
          generalize World.drewN _ _ = wd3 at HM ⊢
          go_wp2_with fail
          go_roundw
          case rel => exact ⟨k + 1, by omega, by go_num, HM⟩
          case measure => simp [intOf]; omega
      · obtain rfl : k = 16 := by omega
        go_wp2
        go_ret
        exact ⟨rfl, HM.out.1⟩
end Go.Proofs.YtcnckamocbaceaaDoor.Lp
