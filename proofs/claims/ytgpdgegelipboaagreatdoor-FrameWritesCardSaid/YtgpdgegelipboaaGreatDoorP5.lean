/-
  Own texts, laid together: Ed, Ek, El, Eo, Ep, Ia, Ib, Eq, Pa, Er, Es, Et, Ev, Eu, Yq, Yu, Ja.
-/
import Derived.Test.YtgpdgegelipboaaGreatDoorP4
set_option linter.unusedSimpArgs false
set_option linter.unusedVariables false
set_option maxRecDepth 100000
namespace Go.Proofs.YtgpdgegelipboaaGreatDoor.Lp
open Go.RowKit Fx Fq Tb
open Yr (nearN nearB chkB Fr nearN_succ chkB_iff)
set_option maxHeartbeats 4000000 in
theorem fc_p (F : List Int) (K : Int) (l q p : List Int) (w : World) (hF : FrS F K l q) (lp : p.length = 6) (he : Edg w) (hp : chkL p = false) :
    Calls Tryz.prog 11 #[.agg (icells F), .agg (icells p)] w (ValQ w (.int .i64 1)) := by
  have LF := Lib.hid hF.len
  have LL := Lib.hid hF.ll
  have LQ := Lib.hid hF.lq
  have LP := Lib.hid lp
  have CK := Lib.hid (show 0 < F.length ∧ F.getD 0 0 = K from ⟨by rw [hF.len]; decide, hF.k0⟩)
  have SL := Lib.hid hF.lev
  have SQ := Lib.hid hF.num
  have HM := Lib.hid (Mem.start w)
  have HE := Lib.hid he
  have HC := Lib.hid (fun u => bcheck_any p false 1 u lp hp rfl)
  clear hF lp he hp
  go_enter Tryz.func11, Tryz.ntmps11
  go_wp2_with (first | (refine wl_skip (by rfl) ?_) | (first | (first | ((first | refine wl_box rfl _ _ rfl rfl HM ?_ | refine wl_alloc rfl _ rfl (by exact arrOf) HM ?_); first | (have q:dL HM = 0:=rfl;clear q HM;intro g1 u1 HM) | (have q:dL HM = 1:=rfl;clear q HM;intro g2 u2 HM) | (have q:dL HM = 2:=rfl;clear q HM;intro g3 u3 HM) | (have q:dL HM = 3:=rfl;clear q HM;intro g4 u4 HM)) | (refine wl_load rfl _ _ rfl rfl (by exact arrOf) HM (by exact memOf) (by exact lenOf) ?_) | (refine wl_storeM rfl _ _ _ rfl rfl rfl (by exact arrOf) HM (by exact idxOf) (by exact lenOf) (by exact lenOf) ?_; clear HM; intro us HM; dsimp only [List.set] at HM) | (refine wl_zero rfl _ rfl (by exact arrOf) (by kernel_rfl) ?_)) | (refine wl_loadS rfl _ _ rfl rfl (by exact arrOf) HM (by exact memOf) (by exact subF) (by exact lenOf) ?_) | (refine wl_cellF rfl _ rfl rfl HM (by exact memOf) (by exact celF) ?_)))
  refine (HC.out _).mono ?_
  rintro e w2 ⟨rfl, h1⟩
  have HM2 := Lib.hid (HM.out.below h1)
  clear h1 HM HC
  have HM := HM2
  clear HM2
  go_wp2_with (first | (refine wl_skip (by rfl) ?_) | (first | (first | ((first | refine wl_box rfl _ _ rfl rfl HM ?_ | refine wl_alloc rfl _ rfl (by exact arrOf) HM ?_); first | (have q:dL HM = 0:=rfl;clear q HM;intro g1 u1 HM) | (have q:dL HM = 1:=rfl;clear q HM;intro g2 u2 HM) | (have q:dL HM = 2:=rfl;clear q HM;intro g3 u3 HM) | (have q:dL HM = 3:=rfl;clear q HM;intro g4 u4 HM)) | (refine wl_load rfl _ _ rfl rfl (by exact arrOf) HM (by exact memOf) (by exact lenOf) ?_) | (refine wl_storeM rfl _ _ _ rfl rfl rfl (by exact arrOf) HM (by exact idxOf) (by exact lenOf) (by exact lenOf) ?_; clear HM; intro us HM; dsimp only [List.set] at HM) | (refine wl_zero rfl _ rfl (by exact arrOf) (by kernel_rfl) ?_)) | (refine wl_loadS rfl _ _ rfl rfl (by exact arrOf) HM (by exact memOf) (by exact subF) (by exact lenOf) ?_) | (refine wl_cellF rfl _ rfl rfl HM (by exact memOf) (by exact celF) ?_)))
  go_ret
  exact ⟨rfl, HM.out.1⟩
set_option maxHeartbeats 4000000 in
theorem fc_kind (F : List Int) (K : Int) (l q p : List Int) (w : World) (hF : FrS F K l q) (lp : p.length = 6) (he : Edg w) (hp : chkL p = true) (hK : ¬ (0 ≤ K ∧ K ≤ 2)) :
    Calls Tryz.prog 11 #[.agg (icells F), .agg (icells p)] w (ValQ w (.int .i64 1)) := by
  have LF := Lib.hid hF.len
  have LL := Lib.hid hF.ll
  have LQ := Lib.hid hF.lq
  have LP := Lib.hid lp
  have CK := Lib.hid (show 0 < F.length ∧ F.getD 0 0 = K from ⟨by rw [hF.len]; decide, hF.k0⟩)
  have SL := Lib.hid hF.lev
  have SQ := Lib.hid hF.num
  have HM := Lib.hid (Mem.start w)
  have HE := Lib.hid he
  have HC := Lib.hid (fun u => bcheck_any p true 0 u lp hp rfl)
  have HK := Lib.hid (fun u => isKind_no K u hK)
  clear hF lp he hp hK
  go_enter Tryz.func11, Tryz.ntmps11
  go_wp2_with (first | (refine wl_skip (by rfl) ?_) | (first | (first | ((first | refine wl_box rfl _ _ rfl rfl HM ?_ | refine wl_alloc rfl _ rfl (by exact arrOf) HM ?_); first | (have q:dL HM = 0:=rfl;clear q HM;intro g1 u1 HM) | (have q:dL HM = 1:=rfl;clear q HM;intro g2 u2 HM) | (have q:dL HM = 2:=rfl;clear q HM;intro g3 u3 HM) | (have q:dL HM = 3:=rfl;clear q HM;intro g4 u4 HM)) | (refine wl_load rfl _ _ rfl rfl (by exact arrOf) HM (by exact memOf) (by exact lenOf) ?_) | (refine wl_storeM rfl _ _ _ rfl rfl rfl (by exact arrOf) HM (by exact idxOf) (by exact lenOf) (by exact lenOf) ?_; clear HM; intro us HM; dsimp only [List.set] at HM) | (refine wl_zero rfl _ rfl (by exact arrOf) (by kernel_rfl) ?_)) | (refine wl_loadS rfl _ _ rfl rfl (by exact arrOf) HM (by exact memOf) (by exact subF) (by exact lenOf) ?_) | (refine wl_cellF rfl _ rfl rfl HM (by exact memOf) (by exact celF) ?_)))
  refine (HC.out _).mono ?_
  rintro e w2 ⟨rfl, h1⟩
  have HM2 := Lib.hid (HM.out.below h1)
  clear h1 HM HC
  have HM := HM2
  clear HM2
  go_wp2_with (first | (refine wl_skip (by rfl) ?_) | (first | (first | ((first | refine wl_box rfl _ _ rfl rfl HM ?_ | refine wl_alloc rfl _ rfl (by exact arrOf) HM ?_); first | (have q:dL HM = 0:=rfl;clear q HM;intro g1 u1 HM) | (have q:dL HM = 1:=rfl;clear q HM;intro g2 u2 HM) | (have q:dL HM = 2:=rfl;clear q HM;intro g3 u3 HM) | (have q:dL HM = 3:=rfl;clear q HM;intro g4 u4 HM)) | (refine wl_load rfl _ _ rfl rfl (by exact arrOf) HM (by exact memOf) (by exact lenOf) ?_) | (refine wl_storeM rfl _ _ _ rfl rfl rfl (by exact arrOf) HM (by exact idxOf) (by exact lenOf) (by exact lenOf) ?_; clear HM; intro us HM; dsimp only [List.set] at HM) | (refine wl_zero rfl _ rfl (by exact arrOf) (by kernel_rfl) ?_)) | (refine wl_loadS rfl _ _ rfl rfl (by exact arrOf) HM (by exact memOf) (by exact subF) (by exact lenOf) ?_) | (refine wl_cellF rfl _ rfl rfl HM (by exact memOf) (by exact celF) ?_)))
  refine (HK.out _).mono ?_
  rintro e w2 ⟨rfl, h1⟩
  have HM2 := Lib.hid (HM.out.below h1)
  clear h1 HM HK
  have HM := HM2
  clear HM2
  go_wp2_with (first | (refine wl_skip (by rfl) ?_) | (first | (first | ((first | refine wl_box rfl _ _ rfl rfl HM ?_ | refine wl_alloc rfl _ rfl (by exact arrOf) HM ?_); first | (have q:dL HM = 0:=rfl;clear q HM;intro g1 u1 HM) | (have q:dL HM = 1:=rfl;clear q HM;intro g2 u2 HM) | (have q:dL HM = 2:=rfl;clear q HM;intro g3 u3 HM) | (have q:dL HM = 3:=rfl;clear q HM;intro g4 u4 HM)) | (refine wl_load rfl _ _ rfl rfl (by exact arrOf) HM (by exact memOf) (by exact lenOf) ?_) | (refine wl_storeM rfl _ _ _ rfl rfl rfl (by exact arrOf) HM (by exact idxOf) (by exact lenOf) (by exact lenOf) ?_; clear HM; intro us HM; dsimp only [List.set] at HM) | (refine wl_zero rfl _ rfl (by exact arrOf) (by kernel_rfl) ?_)) | (refine wl_loadS rfl _ _ rfl rfl (by exact arrOf) HM (by exact memOf) (by exact subF) (by exact lenOf) ?_) | (refine wl_cellF rfl _ rfl rfl HM (by exact memOf) (by exact celF) ?_)))
  go_ret
  exact ⟨rfl, HM.out.1⟩
set_option maxHeartbeats 4000000 in
theorem fc_may (F : List Int) (K : Int) (l q p : List Int) (w : World) (hF : FrS F K l q) (lp : p.length = 6) (he : Edg w) (hp : chkL p = true) (hK : 0 ≤ K ∧ K ≤ 2) (hm : mayB q l = false) :
    Calls Tryz.prog 11 #[.agg (icells F), .agg (icells p)] w (ValQ w (.int .i64 1)) := by
  have LF := Lib.hid hF.len
  have LL := Lib.hid hF.ll
  have LQ := Lib.hid hF.lq
  have LP := Lib.hid lp
  have CK := Lib.hid (show 0 < F.length ∧ F.getD 0 0 = K from ⟨by rw [hF.len]; decide, hF.k0⟩)
  have SL := Lib.hid hF.lev
  have SQ := Lib.hid hF.num
  have HM := Lib.hid (Mem.start w)
  have HE := Lib.hid he
  have HC := Lib.hid (fun u => bcheck_any p true 0 u lp hp rfl)
  have HK := Lib.hid (fun u => isKind_yes K u hK)
  have HY := Lib.hid (fun u (hu : Edg u) => qmay_any q l u hF.lq hF.ll hu); rw [hm] at HY
  clear hF lp he hp hK hm
  go_enter Tryz.func11, Tryz.ntmps11
  go_wp2_with (first | (refine wl_skip (by rfl) ?_) | (first | (first | ((first | refine wl_box rfl _ _ rfl rfl HM ?_ | refine wl_alloc rfl _ rfl (by exact arrOf) HM ?_); first | (have q:dL HM = 0:=rfl;clear q HM;intro g1 u1 HM) | (have q:dL HM = 1:=rfl;clear q HM;intro g2 u2 HM) | (have q:dL HM = 2:=rfl;clear q HM;intro g3 u3 HM) | (have q:dL HM = 3:=rfl;clear q HM;intro g4 u4 HM)) | (refine wl_load rfl _ _ rfl rfl (by exact arrOf) HM (by exact memOf) (by exact lenOf) ?_) | (refine wl_storeM rfl _ _ _ rfl rfl rfl (by exact arrOf) HM (by exact idxOf) (by exact lenOf) (by exact lenOf) ?_; clear HM; intro us HM; dsimp only [List.set] at HM) | (refine wl_zero rfl _ rfl (by exact arrOf) (by kernel_rfl) ?_)) | (refine wl_loadS rfl _ _ rfl rfl (by exact arrOf) HM (by exact memOf) (by exact subF) (by exact lenOf) ?_) | (refine wl_cellF rfl _ rfl rfl HM (by exact memOf) (by exact celF) ?_)))
  refine (HC.out _).mono ?_
  rintro e w2 ⟨rfl, h1⟩
  have HM2 := Lib.hid (HM.out.below h1)
  clear h1 HM HC
  have HM := HM2
  clear HM2
  go_wp2_with (first | (refine wl_skip (by rfl) ?_) | (first | (first | ((first | refine wl_box rfl _ _ rfl rfl HM ?_ | refine wl_alloc rfl _ rfl (by exact arrOf) HM ?_); first | (have q:dL HM = 0:=rfl;clear q HM;intro g1 u1 HM) | (have q:dL HM = 1:=rfl;clear q HM;intro g2 u2 HM) | (have q:dL HM = 2:=rfl;clear q HM;intro g3 u3 HM) | (have q:dL HM = 3:=rfl;clear q HM;intro g4 u4 HM)) | (refine wl_load rfl _ _ rfl rfl (by exact arrOf) HM (by exact memOf) (by exact lenOf) ?_) | (refine wl_storeM rfl _ _ _ rfl rfl rfl (by exact arrOf) HM (by exact idxOf) (by exact lenOf) (by exact lenOf) ?_; clear HM; intro us HM; dsimp only [List.set] at HM) | (refine wl_zero rfl _ rfl (by exact arrOf) (by kernel_rfl) ?_)) | (refine wl_loadS rfl _ _ rfl rfl (by exact arrOf) HM (by exact memOf) (by exact subF) (by exact lenOf) ?_) | (refine wl_cellF rfl _ rfl rfl HM (by exact memOf) (by exact celF) ?_)))
  refine (HK.out _).mono ?_
  rintro e w2 ⟨rfl, h1⟩
  have HM2 := Lib.hid (HM.out.below h1)
  clear h1 HM HK
  have HM := HM2
  clear HM2
  go_wp2_with (first | (refine wl_skip (by rfl) ?_) | (first | (first | ((first | refine wl_box rfl _ _ rfl rfl HM ?_ | refine wl_alloc rfl _ rfl (by exact arrOf) HM ?_); first | (have q:dL HM = 0:=rfl;clear q HM;intro g1 u1 HM) | (have q:dL HM = 1:=rfl;clear q HM;intro g2 u2 HM) | (have q:dL HM = 2:=rfl;clear q HM;intro g3 u3 HM) | (have q:dL HM = 3:=rfl;clear q HM;intro g4 u4 HM)) | (refine wl_load rfl _ _ rfl rfl (by exact arrOf) HM (by exact memOf) (by exact lenOf) ?_) | (refine wl_storeM rfl _ _ _ rfl rfl rfl (by exact arrOf) HM (by exact idxOf) (by exact lenOf) (by exact lenOf) ?_; clear HM; intro us HM; dsimp only [List.set] at HM) | (refine wl_zero rfl _ rfl (by exact arrOf) (by kernel_rfl) ?_)) | (refine wl_loadS rfl _ _ rfl rfl (by exact arrOf) HM (by exact memOf) (by exact subF) (by exact lenOf) ?_) | (refine wl_cellF rfl _ rfl rfl HM (by exact memOf) (by exact celF) ?_)))
  refine (HY.out _ (HE.out.mem HM.out)).mono ?_
  rintro e w2 ⟨rfl, h1⟩
  have HM2 := Lib.hid (HM.out.below h1)
  clear h1 HM HY
  have HM := HM2
  clear HM2
  go_wp2_with (first | (refine wl_skip (by rfl) ?_) | (first | (first | ((first | refine wl_box rfl _ _ rfl rfl HM ?_ | refine wl_alloc rfl _ rfl (by exact arrOf) HM ?_); first | (have q:dL HM = 0:=rfl;clear q HM;intro g1 u1 HM) | (have q:dL HM = 1:=rfl;clear q HM;intro g2 u2 HM) | (have q:dL HM = 2:=rfl;clear q HM;intro g3 u3 HM) | (have q:dL HM = 3:=rfl;clear q HM;intro g4 u4 HM)) | (refine wl_load rfl _ _ rfl rfl (by exact arrOf) HM (by exact memOf) (by exact lenOf) ?_) | (refine wl_storeM rfl _ _ _ rfl rfl rfl (by exact arrOf) HM (by exact idxOf) (by exact lenOf) (by exact lenOf) ?_; clear HM; intro us HM; dsimp only [List.set] at HM) | (refine wl_zero rfl _ rfl (by exact arrOf) (by kernel_rfl) ?_)) | (refine wl_loadS rfl _ _ rfl rfl (by exact arrOf) HM (by exact memOf) (by exact subF) (by exact lenOf) ?_) | (refine wl_cellF rfl _ rfl rfl HM (by exact memOf) (by exact celF) ?_)))
  go_ret
  exact ⟨rfl, HM.out.1⟩
set_option maxHeartbeats 4000000 in
theorem fc_zero (F : List Int) (K : Int) (l q p : List Int) (w : World) (hF : FrS F K l q) (lp : p.length = 6) (he : Edg w) (hp : chkL p = true) (hK : 0 ≤ K ∧ K ≤ 2) (hm : mayB q l = true) (hk : K = 0) :
    Calls Tryz.prog 11 #[.agg (icells F), .agg (icells p)] w (ValQ w (.int .i64 0)) := by
  have LF := Lib.hid hF.len
  have LL := Lib.hid hF.ll
  have LQ := Lib.hid hF.lq
  have LP := Lib.hid lp
  have CK := Lib.hid (show 0 < F.length ∧ F.getD 0 0 = K from ⟨by rw [hF.len]; decide, hF.k0⟩)
  have SL := Lib.hid hF.lev
  have SQ := Lib.hid hF.num
  have HM := Lib.hid (Mem.start w)
  have HE := Lib.hid he
  have HC := Lib.hid (fun u => bcheck_any p true 0 u lp hp rfl)
  have HK := Lib.hid (fun u => isKind_yes K u hK)
  have HY := Lib.hid (fun u (hu : Edg u) => qmay_any q l u hF.lq hF.ll hu); rw [hm] at HY
  have a1 : (K == 1) = false := by rw [hk]; rfl
  have a2 : (K == 2) = false := by rw [hk]; rfl
  have t3 : decide (K = 1) = false := decide_eq_false (by omega)
  have t4 : decide (K = 2) = false := decide_eq_false (by omega)
  clear hk
  clear hF lp he hp hK hm
  go_enter Tryz.func11, Tryz.ntmps11
  go_wp2_with (first | (refine wl_skip (by rfl) ?_) | (first | (first | ((first | refine wl_box rfl _ _ rfl rfl HM ?_ | refine wl_alloc rfl _ rfl (by exact arrOf) HM ?_); first | (have q:dL HM = 0:=rfl;clear q HM;intro g1 u1 HM) | (have q:dL HM = 1:=rfl;clear q HM;intro g2 u2 HM) | (have q:dL HM = 2:=rfl;clear q HM;intro g3 u3 HM) | (have q:dL HM = 3:=rfl;clear q HM;intro g4 u4 HM)) | (refine wl_load rfl _ _ rfl rfl (by exact arrOf) HM (by exact memOf) (by exact lenOf) ?_) | (refine wl_storeM rfl _ _ _ rfl rfl rfl (by exact arrOf) HM (by exact idxOf) (by exact lenOf) (by exact lenOf) ?_; clear HM; intro us HM; dsimp only [List.set] at HM) | (refine wl_zero rfl _ rfl (by exact arrOf) (by kernel_rfl) ?_)) | (refine wl_loadS rfl _ _ rfl rfl (by exact arrOf) HM (by exact memOf) (by exact subF) (by exact lenOf) ?_) | (refine wl_cellF rfl _ rfl rfl HM (by exact memOf) (by exact celF) ?_)))
  refine (HC.out _).mono ?_
  rintro e w2 ⟨rfl, h1⟩
  have HM2 := Lib.hid (HM.out.below h1)
  clear h1 HM HC
  have HM := HM2
  clear HM2
  go_wp2_with (first | (refine wl_skip (by rfl) ?_) | (first | (first | ((first | refine wl_box rfl _ _ rfl rfl HM ?_ | refine wl_alloc rfl _ rfl (by exact arrOf) HM ?_); first | (have q:dL HM = 0:=rfl;clear q HM;intro g1 u1 HM) | (have q:dL HM = 1:=rfl;clear q HM;intro g2 u2 HM) | (have q:dL HM = 2:=rfl;clear q HM;intro g3 u3 HM) | (have q:dL HM = 3:=rfl;clear q HM;intro g4 u4 HM)) | (refine wl_load rfl _ _ rfl rfl (by exact arrOf) HM (by exact memOf) (by exact lenOf) ?_) | (refine wl_storeM rfl _ _ _ rfl rfl rfl (by exact arrOf) HM (by exact idxOf) (by exact lenOf) (by exact lenOf) ?_; clear HM; intro us HM; dsimp only [List.set] at HM) | (refine wl_zero rfl _ rfl (by exact arrOf) (by kernel_rfl) ?_)) | (refine wl_loadS rfl _ _ rfl rfl (by exact arrOf) HM (by exact memOf) (by exact subF) (by exact lenOf) ?_) | (refine wl_cellF rfl _ rfl rfl HM (by exact memOf) (by exact celF) ?_)))
  refine (HK.out _).mono ?_
  rintro e w2 ⟨rfl, h1⟩
  have HM2 := Lib.hid (HM.out.below h1)
  clear h1 HM HK
  have HM := HM2
  clear HM2
  go_wp2_with (first | (refine wl_skip (by rfl) ?_) | (first | (first | ((first | refine wl_box rfl _ _ rfl rfl HM ?_ | refine wl_alloc rfl _ rfl (by exact arrOf) HM ?_); first | (have q:dL HM = 0:=rfl;clear q HM;intro g1 u1 HM) | (have q:dL HM = 1:=rfl;clear q HM;intro g2 u2 HM) | (have q:dL HM = 2:=rfl;clear q HM;intro g3 u3 HM) | (have q:dL HM = 3:=rfl;clear q HM;intro g4 u4 HM)) | (refine wl_load rfl _ _ rfl rfl (by exact arrOf) HM (by exact memOf) (by exact lenOf) ?_) | (refine wl_storeM rfl _ _ _ rfl rfl rfl (by exact arrOf) HM (by exact idxOf) (by exact lenOf) (by exact lenOf) ?_; clear HM; intro us HM; dsimp only [List.set] at HM) | (refine wl_zero rfl _ rfl (by exact arrOf) (by kernel_rfl) ?_)) | (refine wl_loadS rfl _ _ rfl rfl (by exact arrOf) HM (by exact memOf) (by exact subF) (by exact lenOf) ?_) | (refine wl_cellF rfl _ rfl rfl HM (by exact memOf) (by exact celF) ?_)))
  refine (HY.out _ (HE.out.mem HM.out)).mono ?_
  rintro e w2 ⟨rfl, h1⟩
  have HM2 := Lib.hid (HM.out.below h1)
  clear h1 HM HY
  have HM := HM2
  clear HM2
  go_wp2_with (first | (refine wl_skip (by rfl) ?_) | (first | (first | ((first | refine wl_box rfl _ _ rfl rfl HM ?_ | refine wl_alloc rfl _ rfl (by exact arrOf) HM ?_); first | (have q:dL HM = 0:=rfl;clear q HM;intro g1 u1 HM) | (have q:dL HM = 1:=rfl;clear q HM;intro g2 u2 HM) | (have q:dL HM = 2:=rfl;clear q HM;intro g3 u3 HM) | (have q:dL HM = 3:=rfl;clear q HM;intro g4 u4 HM)) | (refine wl_load rfl _ _ rfl rfl (by exact arrOf) HM (by exact memOf) (by exact lenOf) ?_) | (refine wl_storeM rfl _ _ _ rfl rfl rfl (by exact arrOf) HM (by exact idxOf) (by exact lenOf) (by exact lenOf) ?_; clear HM; intro us HM; dsimp only [List.set] at HM) | (refine wl_zero rfl _ rfl (by exact arrOf) (by kernel_rfl) ?_)) | (refine wl_loadS rfl _ _ rfl rfl (by exact arrOf) HM (by exact memOf) (by exact subF) (by exact lenOf) ?_) | (refine wl_cellF rfl _ rfl rfl HM (by exact memOf) (by exact celF) ?_)))
  go_ret
  exact ⟨rfl, HM.out.1⟩
end Go.Proofs.YtgpdgegelipboaaGreatDoor.Lp
namespace Go.Proofs.YtgpdgegelipboaaGreatDoor.Lp
open Go.RowKit Fx Fq Tb
open Yr (nearN nearB chkB Fr nearN_succ chkB_iff)
set_option maxHeartbeats 4000000 in
theorem fc_near (F : List Int) (K : Int) (l q p : List Int) (w : World) (hF : FrS F K l q) (lp : p.length = 6) (he : Edg w) (hp : chkL p = true) (hK : 0 ≤ K ∧ K ≤ 2) (hm : mayB q l = true) (hn : nearB l p = true) (hk : K = 1) :
    Calls Tryz.prog 11 #[.agg (icells F), .agg (icells p)] w (ValQ w (.int .i64 0)) := by
  have LF := Lib.hid hF.len
  have LL := Lib.hid hF.ll
  have LQ := Lib.hid hF.lq
  have LP := Lib.hid lp
  have CK := Lib.hid (show 0 < F.length ∧ F.getD 0 0 = K from ⟨by rw [hF.len]; decide, hF.k0⟩)
  have SL := Lib.hid hF.lev
  have SQ := Lib.hid hF.num
  have HM := Lib.hid (Mem.start w)
  have HE := Lib.hid he
  have HC := Lib.hid (fun u => bcheck_any p true 0 u lp hp rfl)
  have HK := Lib.hid (fun u => isKind_yes K u hK)
  have HY := Lib.hid (fun u (hu : Edg u) => qmay_any q l u hF.lq hF.ll hu); rw [hm] at HY
  have HN := Lib.hid (fun u => fnear_any l p u hF.ll lp); rw [hn] at HN
  have a1 : (K == 1) = true := by rw [hk]; rfl
  have a2 : (K == 2) = false := by rw [hk]; rfl
  have t3 : decide (K = 1) = true := decide_eq_true (by omega)
  have t4 : decide (K = 2) = false := decide_eq_false (by omega)
  clear hk
  clear hF lp he hp hK hm hn
  go_enter Tryz.func11, Tryz.ntmps11
  go_wp2_with (first | (refine wl_skip (by rfl) ?_) | (first | (first | ((first | refine wl_box rfl _ _ rfl rfl HM ?_ | refine wl_alloc rfl _ rfl (by exact arrOf) HM ?_); first | (have q:dL HM = 0:=rfl;clear q HM;intro g1 u1 HM) | (have q:dL HM = 1:=rfl;clear q HM;intro g2 u2 HM) | (have q:dL HM = 2:=rfl;clear q HM;intro g3 u3 HM) | (have q:dL HM = 3:=rfl;clear q HM;intro g4 u4 HM)) | (refine wl_load rfl _ _ rfl rfl (by exact arrOf) HM (by exact memOf) (by exact lenOf) ?_) | (refine wl_storeM rfl _ _ _ rfl rfl rfl (by exact arrOf) HM (by exact idxOf) (by exact lenOf) (by exact lenOf) ?_; clear HM; intro us HM; dsimp only [List.set] at HM) | (refine wl_zero rfl _ rfl (by exact arrOf) (by kernel_rfl) ?_)) | (refine wl_loadS rfl _ _ rfl rfl (by exact arrOf) HM (by exact memOf) (by exact subF) (by exact lenOf) ?_) | (refine wl_cellF rfl _ rfl rfl HM (by exact memOf) (by exact celF) ?_)))
  refine (HC.out _).mono ?_
  rintro e w2 ⟨rfl, h1⟩
  have HM2 := Lib.hid (HM.out.below h1)
  clear h1 HM HC
  have HM := HM2
  clear HM2
  go_wp2_with (first | (refine wl_skip (by rfl) ?_) | (first | (first | ((first | refine wl_box rfl _ _ rfl rfl HM ?_ | refine wl_alloc rfl _ rfl (by exact arrOf) HM ?_); first | (have q:dL HM = 0:=rfl;clear q HM;intro g1 u1 HM) | (have q:dL HM = 1:=rfl;clear q HM;intro g2 u2 HM) | (have q:dL HM = 2:=rfl;clear q HM;intro g3 u3 HM) | (have q:dL HM = 3:=rfl;clear q HM;intro g4 u4 HM)) | (refine wl_load rfl _ _ rfl rfl (by exact arrOf) HM (by exact memOf) (by exact lenOf) ?_) | (refine wl_storeM rfl _ _ _ rfl rfl rfl (by exact arrOf) HM (by exact idxOf) (by exact lenOf) (by exact lenOf) ?_; clear HM; intro us HM; dsimp only [List.set] at HM) | (refine wl_zero rfl _ rfl (by exact arrOf) (by kernel_rfl) ?_)) | (refine wl_loadS rfl _ _ rfl rfl (by exact arrOf) HM (by exact memOf) (by exact subF) (by exact lenOf) ?_) | (refine wl_cellF rfl _ rfl rfl HM (by exact memOf) (by exact celF) ?_)))
  refine (HK.out _).mono ?_
  rintro e w2 ⟨rfl, h1⟩
  have HM2 := Lib.hid (HM.out.below h1)
  clear h1 HM HK
  have HM := HM2
  clear HM2
  go_wp2_with (first | (refine wl_skip (by rfl) ?_) | (first | (first | ((first | refine wl_box rfl _ _ rfl rfl HM ?_ | refine wl_alloc rfl _ rfl (by exact arrOf) HM ?_); first | (have q:dL HM = 0:=rfl;clear q HM;intro g1 u1 HM) | (have q:dL HM = 1:=rfl;clear q HM;intro g2 u2 HM) | (have q:dL HM = 2:=rfl;clear q HM;intro g3 u3 HM) | (have q:dL HM = 3:=rfl;clear q HM;intro g4 u4 HM)) | (refine wl_load rfl _ _ rfl rfl (by exact arrOf) HM (by exact memOf) (by exact lenOf) ?_) | (refine wl_storeM rfl _ _ _ rfl rfl rfl (by exact arrOf) HM (by exact idxOf) (by exact lenOf) (by exact lenOf) ?_; clear HM; intro us HM; dsimp only [List.set] at HM) | (refine wl_zero rfl _ rfl (by exact arrOf) (by kernel_rfl) ?_)) | (refine wl_loadS rfl _ _ rfl rfl (by exact arrOf) HM (by exact memOf) (by exact subF) (by exact lenOf) ?_) | (refine wl_cellF rfl _ rfl rfl HM (by exact memOf) (by exact celF) ?_)))
  refine (HY.out _ (HE.out.mem HM.out)).mono ?_
  rintro e w2 ⟨rfl, h1⟩
  have HM2 := Lib.hid (HM.out.below h1)
  clear h1 HM HY
  have HM := HM2
  clear HM2
  go_wp2_with (first | (refine wl_skip (by rfl) ?_) | (first | (first | ((first | refine wl_box rfl _ _ rfl rfl HM ?_ | refine wl_alloc rfl _ rfl (by exact arrOf) HM ?_); first | (have q:dL HM = 0:=rfl;clear q HM;intro g1 u1 HM) | (have q:dL HM = 1:=rfl;clear q HM;intro g2 u2 HM) | (have q:dL HM = 2:=rfl;clear q HM;intro g3 u3 HM) | (have q:dL HM = 3:=rfl;clear q HM;intro g4 u4 HM)) | (refine wl_load rfl _ _ rfl rfl (by exact arrOf) HM (by exact memOf) (by exact lenOf) ?_) | (refine wl_storeM rfl _ _ _ rfl rfl rfl (by exact arrOf) HM (by exact idxOf) (by exact lenOf) (by exact lenOf) ?_; clear HM; intro us HM; dsimp only [List.set] at HM) | (refine wl_zero rfl _ rfl (by exact arrOf) (by kernel_rfl) ?_)) | (refine wl_loadS rfl _ _ rfl rfl (by exact arrOf) HM (by exact memOf) (by exact subF) (by exact lenOf) ?_) | (refine wl_cellF rfl _ rfl rfl HM (by exact memOf) (by exact celF) ?_)))
  refine (HN.out _).mono ?_
  rintro e w2 ⟨rfl, h1⟩
  have HM2 := Lib.hid (HM.out.below h1)
  clear h1 HM HN
  have HM := HM2
  clear HM2
  go_wp2_with (first | (refine wl_skip (by rfl) ?_) | (first | (first | ((first | refine wl_box rfl _ _ rfl rfl HM ?_ | refine wl_alloc rfl _ rfl (by exact arrOf) HM ?_); first | (have q:dL HM = 0:=rfl;clear q HM;intro g1 u1 HM) | (have q:dL HM = 1:=rfl;clear q HM;intro g2 u2 HM) | (have q:dL HM = 2:=rfl;clear q HM;intro g3 u3 HM) | (have q:dL HM = 3:=rfl;clear q HM;intro g4 u4 HM)) | (refine wl_load rfl _ _ rfl rfl (by exact arrOf) HM (by exact memOf) (by exact lenOf) ?_) | (refine wl_storeM rfl _ _ _ rfl rfl rfl (by exact arrOf) HM (by exact idxOf) (by exact lenOf) (by exact lenOf) ?_; clear HM; intro us HM; dsimp only [List.set] at HM) | (refine wl_zero rfl _ rfl (by exact arrOf) (by kernel_rfl) ?_)) | (refine wl_loadS rfl _ _ rfl rfl (by exact arrOf) HM (by exact memOf) (by exact subF) (by exact lenOf) ?_) | (refine wl_cellF rfl _ rfl rfl HM (by exact memOf) (by exact celF) ?_)))
  go_ret
  exact ⟨rfl, HM.out.1⟩
set_option maxHeartbeats 4000000 in
theorem fc_far (F : List Int) (K : Int) (l q p : List Int) (w : World) (hF : FrS F K l q) (lp : p.length = 6) (he : Edg w) (hp : chkL p = true) (hK : 0 ≤ K ∧ K ≤ 2) (hm : mayB q l = true) (hn : nearB l p = false) (hk : K = 1) :
    Calls Tryz.prog 11 #[.agg (icells F), .agg (icells p)] w (ValQ w (.int .i64 1)) := by
  have LF := Lib.hid hF.len
  have LL := Lib.hid hF.ll
  have LQ := Lib.hid hF.lq
  have LP := Lib.hid lp
  have CK := Lib.hid (show 0 < F.length ∧ F.getD 0 0 = K from ⟨by rw [hF.len]; decide, hF.k0⟩)
  have SL := Lib.hid hF.lev
  have SQ := Lib.hid hF.num
  have HM := Lib.hid (Mem.start w)
  have HE := Lib.hid he
  have HC := Lib.hid (fun u => bcheck_any p true 0 u lp hp rfl)
  have HK := Lib.hid (fun u => isKind_yes K u hK)
  have HY := Lib.hid (fun u (hu : Edg u) => qmay_any q l u hF.lq hF.ll hu); rw [hm] at HY
  have HN := Lib.hid (fun u => fnear_any l p u hF.ll lp); rw [hn] at HN
  have a1 : (K == 1) = true := by rw [hk]; rfl
  have a2 : (K == 2) = false := by rw [hk]; rfl
  have t3 : decide (K = 1) = true := decide_eq_true (by omega)
  have t4 : decide (K = 2) = false := decide_eq_false (by omega)
  clear hk
  clear hF lp he hp hK hm hn
  go_enter Tryz.func11, Tryz.ntmps11
  go_wp2_with (first | (refine wl_skip (by rfl) ?_) | (first | (first | ((first | refine wl_box rfl _ _ rfl rfl HM ?_ | refine wl_alloc rfl _ rfl (by exact arrOf) HM ?_); first | (have q:dL HM = 0:=rfl;clear q HM;intro g1 u1 HM) | (have q:dL HM = 1:=rfl;clear q HM;intro g2 u2 HM) | (have q:dL HM = 2:=rfl;clear q HM;intro g3 u3 HM) | (have q:dL HM = 3:=rfl;clear q HM;intro g4 u4 HM)) | (refine wl_load rfl _ _ rfl rfl (by exact arrOf) HM (by exact memOf) (by exact lenOf) ?_) | (refine wl_storeM rfl _ _ _ rfl rfl rfl (by exact arrOf) HM (by exact idxOf) (by exact lenOf) (by exact lenOf) ?_; clear HM; intro us HM; dsimp only [List.set] at HM) | (refine wl_zero rfl _ rfl (by exact arrOf) (by kernel_rfl) ?_)) | (refine wl_loadS rfl _ _ rfl rfl (by exact arrOf) HM (by exact memOf) (by exact subF) (by exact lenOf) ?_) | (refine wl_cellF rfl _ rfl rfl HM (by exact memOf) (by exact celF) ?_)))
  refine (HC.out _).mono ?_
  rintro e w2 ⟨rfl, h1⟩
  have HM2 := Lib.hid (HM.out.below h1)
  clear h1 HM HC
  have HM := HM2
  clear HM2
  go_wp2_with (first | (refine wl_skip (by rfl) ?_) | (first | (first | ((first | refine wl_box rfl _ _ rfl rfl HM ?_ | refine wl_alloc rfl _ rfl (by exact arrOf) HM ?_); first | (have q:dL HM = 0:=rfl;clear q HM;intro g1 u1 HM) | (have q:dL HM = 1:=rfl;clear q HM;intro g2 u2 HM) | (have q:dL HM = 2:=rfl;clear q HM;intro g3 u3 HM) | (have q:dL HM = 3:=rfl;clear q HM;intro g4 u4 HM)) | (refine wl_load rfl _ _ rfl rfl (by exact arrOf) HM (by exact memOf) (by exact lenOf) ?_) | (refine wl_storeM rfl _ _ _ rfl rfl rfl (by exact arrOf) HM (by exact idxOf) (by exact lenOf) (by exact lenOf) ?_; clear HM; intro us HM; dsimp only [List.set] at HM) | (refine wl_zero rfl _ rfl (by exact arrOf) (by kernel_rfl) ?_)) | (refine wl_loadS rfl _ _ rfl rfl (by exact arrOf) HM (by exact memOf) (by exact subF) (by exact lenOf) ?_) | (refine wl_cellF rfl _ rfl rfl HM (by exact memOf) (by exact celF) ?_)))
  refine (HK.out _).mono ?_
  rintro e w2 ⟨rfl, h1⟩
  have HM2 := Lib.hid (HM.out.below h1)
  clear h1 HM HK
  have HM := HM2
  clear HM2
  go_wp2_with (first | (refine wl_skip (by rfl) ?_) | (first | (first | ((first | refine wl_box rfl _ _ rfl rfl HM ?_ | refine wl_alloc rfl _ rfl (by exact arrOf) HM ?_); first | (have q:dL HM = 0:=rfl;clear q HM;intro g1 u1 HM) | (have q:dL HM = 1:=rfl;clear q HM;intro g2 u2 HM) | (have q:dL HM = 2:=rfl;clear q HM;intro g3 u3 HM) | (have q:dL HM = 3:=rfl;clear q HM;intro g4 u4 HM)) | (refine wl_load rfl _ _ rfl rfl (by exact arrOf) HM (by exact memOf) (by exact lenOf) ?_) | (refine wl_storeM rfl _ _ _ rfl rfl rfl (by exact arrOf) HM (by exact idxOf) (by exact lenOf) (by exact lenOf) ?_; clear HM; intro us HM; dsimp only [List.set] at HM) | (refine wl_zero rfl _ rfl (by exact arrOf) (by kernel_rfl) ?_)) | (refine wl_loadS rfl _ _ rfl rfl (by exact arrOf) HM (by exact memOf) (by exact subF) (by exact lenOf) ?_) | (refine wl_cellF rfl _ rfl rfl HM (by exact memOf) (by exact celF) ?_)))
  refine (HY.out _ (HE.out.mem HM.out)).mono ?_
  rintro e w2 ⟨rfl, h1⟩
  have HM2 := Lib.hid (HM.out.below h1)
  clear h1 HM HY
  have HM := HM2
  clear HM2
  go_wp2_with (first | (refine wl_skip (by rfl) ?_) | (first | (first | ((first | refine wl_box rfl _ _ rfl rfl HM ?_ | refine wl_alloc rfl _ rfl (by exact arrOf) HM ?_); first | (have q:dL HM = 0:=rfl;clear q HM;intro g1 u1 HM) | (have q:dL HM = 1:=rfl;clear q HM;intro g2 u2 HM) | (have q:dL HM = 2:=rfl;clear q HM;intro g3 u3 HM) | (have q:dL HM = 3:=rfl;clear q HM;intro g4 u4 HM)) | (refine wl_load rfl _ _ rfl rfl (by exact arrOf) HM (by exact memOf) (by exact lenOf) ?_) | (refine wl_storeM rfl _ _ _ rfl rfl rfl (by exact arrOf) HM (by exact idxOf) (by exact lenOf) (by exact lenOf) ?_; clear HM; intro us HM; dsimp only [List.set] at HM) | (refine wl_zero rfl _ rfl (by exact arrOf) (by kernel_rfl) ?_)) | (refine wl_loadS rfl _ _ rfl rfl (by exact arrOf) HM (by exact memOf) (by exact subF) (by exact lenOf) ?_) | (refine wl_cellF rfl _ rfl rfl HM (by exact memOf) (by exact celF) ?_)))
  refine (HN.out _).mono ?_
  rintro e w2 ⟨rfl, h1⟩
  have HM2 := Lib.hid (HM.out.below h1)
  clear h1 HM HN
  have HM := HM2
  clear HM2
  go_wp2
  go_ret
  exact ⟨rfl, HM.out.1⟩
set_option maxHeartbeats 4000000 in
theorem fc_sid (F : List Int) (K : Int) (l q p : List Int) (w : World) (hF : FrS F K l q) (lp : p.length = 6) (he : Edg w) (hp : chkL p = true) (hK : 0 ≤ K ∧ K ≤ 2) (hm : mayB q l = true) (hq : q = zr 16) (hk : K = 2) :
    Calls Tryz.prog 11 #[.agg (icells F), .agg (icells p)] w (ValQ w (.int .i64 0)) := by
  have LF := Lib.hid hF.len
  have LL := Lib.hid hF.ll
  have LQ := Lib.hid hF.lq
  have LP := Lib.hid lp
  have CK := Lib.hid (show 0 < F.length ∧ F.getD 0 0 = K from ⟨by rw [hF.len]; decide, hF.k0⟩)
  have SL := Lib.hid hF.lev
  have SQ := Lib.hid hF.num
  have HM := Lib.hid (Mem.start w)
  have HE := Lib.hid he
  have HC := Lib.hid (fun u => bcheck_any p true 0 u lp hp rfl)
  have HK := Lib.hid (fun u => isKind_yes K u hK)
  have HY := Lib.hid (fun u (hu : Edg u) => qmay_any q l u hF.lq hF.ll hu); rw [hm] at HY
  have hgd := grdHopE; have heq : ∀ u, (Op.equalIn 10000 24 (.agg (icells q)) (.agg (icells (zr 16)))).run Tryz.prog u = .ok true u := fun u => by rw [hq]; exact run_equalIn_same 24 (n := 16) (by kernel_rfl) (zr 16) (zr_length 16) u
  have a1 : (K == 1) = false := by rw [hk]; rfl
  have a2 : (K == 2) = true := by rw [hk]; rfl
  have t3 : decide (K = 1) = false := decide_eq_false (by omega)
  have t4 : decide (K = 2) = true := decide_eq_true (by omega)
  clear hk
  clear hF lp he hp hK hm hq
  go_enter Tryz.func11, Tryz.ntmps11
  go_wp2_with (first | (refine wl_skip (by rfl) ?_) | (first | (first | ((first | refine wl_box rfl _ _ rfl rfl HM ?_ | refine wl_alloc rfl _ rfl (by exact arrOf) HM ?_); first | (have q:dL HM = 0:=rfl;clear q HM;intro g1 u1 HM) | (have q:dL HM = 1:=rfl;clear q HM;intro g2 u2 HM) | (have q:dL HM = 2:=rfl;clear q HM;intro g3 u3 HM) | (have q:dL HM = 3:=rfl;clear q HM;intro g4 u4 HM)) | (refine wl_load rfl _ _ rfl rfl (by exact arrOf) HM (by exact memOf) (by exact lenOf) ?_) | (refine wl_storeM rfl _ _ _ rfl rfl rfl (by exact arrOf) HM (by exact idxOf) (by exact lenOf) (by exact lenOf) ?_; clear HM; intro us HM; dsimp only [List.set] at HM) | (refine wl_zero rfl _ rfl (by exact arrOf) (by kernel_rfl) ?_)) | (refine wl_loadS rfl _ _ rfl rfl (by exact arrOf) HM (by exact memOf) (by exact subF) (by exact lenOf) ?_) | (refine wl_cellF rfl _ rfl rfl HM (by exact memOf) (by exact celF) ?_)))
  refine (HC.out _).mono ?_
  rintro e w2 ⟨rfl, h1⟩
  have HM2 := Lib.hid (HM.out.below h1)
  clear h1 HM HC
  have HM := HM2
  clear HM2
  go_wp2_with (first | (refine wl_skip (by rfl) ?_) | (first | (first | ((first | refine wl_box rfl _ _ rfl rfl HM ?_ | refine wl_alloc rfl _ rfl (by exact arrOf) HM ?_); first | (have q:dL HM = 0:=rfl;clear q HM;intro g1 u1 HM) | (have q:dL HM = 1:=rfl;clear q HM;intro g2 u2 HM) | (have q:dL HM = 2:=rfl;clear q HM;intro g3 u3 HM) | (have q:dL HM = 3:=rfl;clear q HM;intro g4 u4 HM)) | (refine wl_load rfl _ _ rfl rfl (by exact arrOf) HM (by exact memOf) (by exact lenOf) ?_) | (refine wl_storeM rfl _ _ _ rfl rfl rfl (by exact arrOf) HM (by exact idxOf) (by exact lenOf) (by exact lenOf) ?_; clear HM; intro us HM; dsimp only [List.set] at HM) | (refine wl_zero rfl _ rfl (by exact arrOf) (by kernel_rfl) ?_)) | (refine wl_loadS rfl _ _ rfl rfl (by exact arrOf) HM (by exact memOf) (by exact subF) (by exact lenOf) ?_) | (refine wl_cellF rfl _ rfl rfl HM (by exact memOf) (by exact celF) ?_)))
  refine (HK.out _).mono ?_
  rintro e w2 ⟨rfl, h1⟩
  have HM2 := Lib.hid (HM.out.below h1)
  clear h1 HM HK
  have HM := HM2
  clear HM2
  go_wp2_with (first | (refine wl_skip (by rfl) ?_) | (first | (first | ((first | refine wl_box rfl _ _ rfl rfl HM ?_ | refine wl_alloc rfl _ rfl (by exact arrOf) HM ?_); first | (have q:dL HM = 0:=rfl;clear q HM;intro g1 u1 HM) | (have q:dL HM = 1:=rfl;clear q HM;intro g2 u2 HM) | (have q:dL HM = 2:=rfl;clear q HM;intro g3 u3 HM) | (have q:dL HM = 3:=rfl;clear q HM;intro g4 u4 HM)) | (refine wl_load rfl _ _ rfl rfl (by exact arrOf) HM (by exact memOf) (by exact lenOf) ?_) | (refine wl_storeM rfl _ _ _ rfl rfl rfl (by exact arrOf) HM (by exact idxOf) (by exact lenOf) (by exact lenOf) ?_; clear HM; intro us HM; dsimp only [List.set] at HM) | (refine wl_zero rfl _ rfl (by exact arrOf) (by kernel_rfl) ?_)) | (refine wl_loadS rfl _ _ rfl rfl (by exact arrOf) HM (by exact memOf) (by exact subF) (by exact lenOf) ?_) | (refine wl_cellF rfl _ rfl rfl HM (by exact memOf) (by exact celF) ?_)))
  refine (HY.out _ (HE.out.mem HM.out)).mono ?_
  rintro e w2 ⟨rfl, h1⟩
  have HM2 := Lib.hid (HM.out.below h1)
  clear h1 HM HY
  have HM := HM2
  clear HM2
  go_wp2_with (first | (refine wl_skip (by rfl) ?_) | (first | (first | ((first | refine wl_box rfl _ _ rfl rfl HM ?_ | refine wl_alloc rfl _ rfl (by exact arrOf) HM ?_); first | (have q:dL HM = 0:=rfl;clear q HM;intro g1 u1 HM) | (have q:dL HM = 1:=rfl;clear q HM;intro g2 u2 HM) | (have q:dL HM = 2:=rfl;clear q HM;intro g3 u3 HM) | (have q:dL HM = 3:=rfl;clear q HM;intro g4 u4 HM)) | (refine wl_load rfl _ _ rfl rfl (by exact arrOf) HM (by exact memOf) (by exact lenOf) ?_) | (refine wl_storeM rfl _ _ _ rfl rfl rfl (by exact arrOf) HM (by exact idxOf) (by exact lenOf) (by exact lenOf) ?_; clear HM; intro us HM; dsimp only [List.set] at HM) | (refine wl_zero rfl _ rfl (by exact arrOf) (by kernel_rfl) ?_)) | (refine wl_loadS rfl _ _ rfl rfl (by exact arrOf) HM (by exact memOf) (by exact subF) (by exact lenOf) ?_) | (refine wl_cellF rfl _ rfl rfl HM (by exact memOf) (by exact celF) ?_)))
  go_ret
  exact ⟨rfl, HM.out.1⟩
set_option maxHeartbeats 4000000 in
theorem fc_sidno (F : List Int) (K : Int) (l q p : List Int) (w : World) (hF : FrS F K l q) (lp : p.length = 6) (he : Edg w) (hp : chkL p = true) (hK : 0 ≤ K ∧ K ≤ 2) (hm : mayB q l = true) (hq : q ≠ zr 16) (hk : K = 2) :
    Calls Tryz.prog 11 #[.agg (icells F), .agg (icells p)] w (ValQ w (.int .i64 1)) := by
  have LF := Lib.hid hF.len
  have LL := Lib.hid hF.ll
  have LQ := Lib.hid hF.lq
  have LP := Lib.hid lp
  have CK := Lib.hid (show 0 < F.length ∧ F.getD 0 0 = K from ⟨by rw [hF.len]; decide, hF.k0⟩)
  have SL := Lib.hid hF.lev
  have SQ := Lib.hid hF.num
  have HM := Lib.hid (Mem.start w)
  have HE := Lib.hid he
  have HC := Lib.hid (fun u => bcheck_any p true 0 u lp hp rfl)
  have HK := Lib.hid (fun u => isKind_yes K u hK)
  have HY := Lib.hid (fun u (hu : Edg u) => qmay_any q l u hF.lq hF.ll hu); rw [hm] at HY
  have hgd := grdHopE; have heq := fun u => run_equalIn_diff 24 (n := 16) (by kernel_rfl) q (zr 16) hF.lq (zr_length 16) hq u
  have a1 : (K == 1) = false := by rw [hk]; rfl
  have a2 : (K == 2) = true := by rw [hk]; rfl
  have t3 : decide (K = 1) = false := decide_eq_false (by omega)
  have t4 : decide (K = 2) = true := decide_eq_true (by omega)
  clear hk
  clear hF lp he hp hK hm hq
  go_enter Tryz.func11, Tryz.ntmps11
  go_wp2_with (first | (refine wl_skip (by rfl) ?_) | (first | (first | ((first | refine wl_box rfl _ _ rfl rfl HM ?_ | refine wl_alloc rfl _ rfl (by exact arrOf) HM ?_); first | (have q:dL HM = 0:=rfl;clear q HM;intro g1 u1 HM) | (have q:dL HM = 1:=rfl;clear q HM;intro g2 u2 HM) | (have q:dL HM = 2:=rfl;clear q HM;intro g3 u3 HM) | (have q:dL HM = 3:=rfl;clear q HM;intro g4 u4 HM)) | (refine wl_load rfl _ _ rfl rfl (by exact arrOf) HM (by exact memOf) (by exact lenOf) ?_) | (refine wl_storeM rfl _ _ _ rfl rfl rfl (by exact arrOf) HM (by exact idxOf) (by exact lenOf) (by exact lenOf) ?_; clear HM; intro us HM; dsimp only [List.set] at HM) | (refine wl_zero rfl _ rfl (by exact arrOf) (by kernel_rfl) ?_)) | (refine wl_loadS rfl _ _ rfl rfl (by exact arrOf) HM (by exact memOf) (by exact subF) (by exact lenOf) ?_) | (refine wl_cellF rfl _ rfl rfl HM (by exact memOf) (by exact celF) ?_)))
  refine (HC.out _).mono ?_
  rintro e w2 ⟨rfl, h1⟩
  have HM2 := Lib.hid (HM.out.below h1)
  clear h1 HM HC
  have HM := HM2
  clear HM2
  go_wp2_with (first | (refine wl_skip (by rfl) ?_) | (first | (first | ((first | refine wl_box rfl _ _ rfl rfl HM ?_ | refine wl_alloc rfl _ rfl (by exact arrOf) HM ?_); first | (have q:dL HM = 0:=rfl;clear q HM;intro g1 u1 HM) | (have q:dL HM = 1:=rfl;clear q HM;intro g2 u2 HM) | (have q:dL HM = 2:=rfl;clear q HM;intro g3 u3 HM) | (have q:dL HM = 3:=rfl;clear q HM;intro g4 u4 HM)) | (refine wl_load rfl _ _ rfl rfl (by exact arrOf) HM (by exact memOf) (by exact lenOf) ?_) | (refine wl_storeM rfl _ _ _ rfl rfl rfl (by exact arrOf) HM (by exact idxOf) (by exact lenOf) (by exact lenOf) ?_; clear HM; intro us HM; dsimp only [List.set] at HM) | (refine wl_zero rfl _ rfl (by exact arrOf) (by kernel_rfl) ?_)) | (refine wl_loadS rfl _ _ rfl rfl (by exact arrOf) HM (by exact memOf) (by exact subF) (by exact lenOf) ?_) | (refine wl_cellF rfl _ rfl rfl HM (by exact memOf) (by exact celF) ?_)))
  refine (HK.out _).mono ?_
  rintro e w2 ⟨rfl, h1⟩
  have HM2 := Lib.hid (HM.out.below h1)
  clear h1 HM HK
  have HM := HM2
  clear HM2
  go_wp2_with (first | (refine wl_skip (by rfl) ?_) | (first | (first | ((first | refine wl_box rfl _ _ rfl rfl HM ?_ | refine wl_alloc rfl _ rfl (by exact arrOf) HM ?_); first | (have q:dL HM = 0:=rfl;clear q HM;intro g1 u1 HM) | (have q:dL HM = 1:=rfl;clear q HM;intro g2 u2 HM) | (have q:dL HM = 2:=rfl;clear q HM;intro g3 u3 HM) | (have q:dL HM = 3:=rfl;clear q HM;intro g4 u4 HM)) | (refine wl_load rfl _ _ rfl rfl (by exact arrOf) HM (by exact memOf) (by exact lenOf) ?_) | (refine wl_storeM rfl _ _ _ rfl rfl rfl (by exact arrOf) HM (by exact idxOf) (by exact lenOf) (by exact lenOf) ?_; clear HM; intro us HM; dsimp only [List.set] at HM) | (refine wl_zero rfl _ rfl (by exact arrOf) (by kernel_rfl) ?_)) | (refine wl_loadS rfl _ _ rfl rfl (by exact arrOf) HM (by exact memOf) (by exact subF) (by exact lenOf) ?_) | (refine wl_cellF rfl _ rfl rfl HM (by exact memOf) (by exact celF) ?_)))
  refine (HY.out _ (HE.out.mem HM.out)).mono ?_
  rintro e w2 ⟨rfl, h1⟩
  have HM2 := Lib.hid (HM.out.below h1)
  clear h1 HM HY
  have HM := HM2
  clear HM2
  go_wp2_with (first | (refine wl_skip (by rfl) ?_) | (first | (first | ((first | refine wl_box rfl _ _ rfl rfl HM ?_ | refine wl_alloc rfl _ rfl (by exact arrOf) HM ?_); first | (have q:dL HM = 0:=rfl;clear q HM;intro g1 u1 HM) | (have q:dL HM = 1:=rfl;clear q HM;intro g2 u2 HM) | (have q:dL HM = 2:=rfl;clear q HM;intro g3 u3 HM) | (have q:dL HM = 3:=rfl;clear q HM;intro g4 u4 HM)) | (refine wl_load rfl _ _ rfl rfl (by exact arrOf) HM (by exact memOf) (by exact lenOf) ?_) | (refine wl_storeM rfl _ _ _ rfl rfl rfl (by exact arrOf) HM (by exact idxOf) (by exact lenOf) (by exact lenOf) ?_; clear HM; intro us HM; dsimp only [List.set] at HM) | (refine wl_zero rfl _ rfl (by exact arrOf) (by kernel_rfl) ?_)) | (refine wl_loadS rfl _ _ rfl rfl (by exact arrOf) HM (by exact memOf) (by exact subF) (by exact lenOf) ?_) | (refine wl_cellF rfl _ rfl rfl HM (by exact memOf) (by exact celF) ?_)))
  go_ret
  exact ⟨rfl, HM.out.1⟩
end Go.Proofs.YtgpdgegelipboaaGreatDoor.Lp
namespace Go.Proofs.YtgpdgegelipboaaGreatDoor.Lp
open Go.RowKit Fx Fq Tb
open Yr (nearN nearB chkB Fr nearN_succ chkB_iff)
theorem may_chk {q l : List Int} (h : mayB q l = true) : chkL l = true := by
  unfold mayB at h
  rw [Bool.and_eq_true] at h
  exact h.1
theorem fcheck_any (F : List Int) (K : Int) (l q p : List Int) (w : World) (hF : FrS F K l q) (lp : p.length = 6) (he : Edg w) :
    Calls Tryz.prog 11 #[.agg (icells F), .agg (icells p)] w (ValQ w (.int .i64 (errC K l q p))) := by
  unfold errC
  cases hp : chkL p with
  | false => rw [if_neg (fun h => by have := ((chkB_iff _ _ _ _).1 h).ahead; rw [hp] at this; cases this)]; exact fc_p F K l q p w hF lp he hp
  | true =>
    by_cases hK : 0 ≤ K ∧ K ≤ 2
    · cases hm : mayB q l with
      | false => rw [if_neg (fun h => by have := ((chkB_iff _ _ _ _).1 h).may; rw [hm] at this; cases this)]; exact fc_may F K l q p w hF lp he hp hK hm
      | true =>
        have hl := may_chk hm
        by_cases k1 : K = 1
        · cases hn : nearN l p 6 with
          | false => rw [if_neg (fun h => by have := ((chkB_iff _ _ _ _).1 h).near k1; rw [hn] at this; cases this)]; exact fc_far F K l q p w hF lp he hp hK hm (by unfold nearB; rw [hl, hp, hn]; rfl) k1
          | true => rw [if_pos ((chkB_iff _ _ _ _).2 ⟨hK, hl, hp, fun _ => hn, fun k => by omega, hm⟩)]; exact fc_near F K l q p w hF lp he hp hK hm (by unfold nearB; rw [hl, hp, hn]; rfl) k1
        · by_cases k2 : K = 2
          · by_cases hq : q = zr 16
            · rw [if_pos ((chkB_iff _ _ _ _).2 ⟨hK, hl, hp, fun k => absurd k k1, fun _ => hq, hm⟩)]; exact fc_sid F K l q p w hF lp he hp hK hm hq k2
            · rw [if_neg (fun h => hq (((chkB_iff _ _ _ _).1 h).sid k2))]; exact fc_sidno F K l q p w hF lp he hp hK hm hq k2
          · rw [if_pos ((chkB_iff _ _ _ _).2 ⟨hK, hl, hp, fun k => absurd k k1, fun k => absurd k k2, hm⟩)]; exact fc_zero F K l q p w hF lp he hp hK hm (by omega)
    · rw [if_neg (fun h => hK ((chkB_iff _ _ _ _).1 h).kind)]; exact fc_kind F K l q p w hF lp he hp hK
end Go.Proofs.YtgpdgegelipboaaGreatDoor.Lp
namespace Go.Proofs.YtgpdgegelipboaaGreatDoor.Lp
open Go.RowKit Fx Fq Tb
open Cd (Pr Tb RdT tbs own_far row_neC)
open Yr (stW Fr chkB chkB_iff symsP thru thru_list FrR lvO nmO frR_of)
theorem telList {w : World} {gF gP gT gS B : Nat} {F p : List Int} (G : LsG w gF gP gT gS B) (LF : F.length = 23) (hF : ∀ i, -1099511627776 ≤ F.getD i 0 ∧ F.getD i 0 ≤ 1099511627776) :
    TelOk w 38 #[] #[.pointer (some ⟨gT, 0, none⟩), .pointer (some ⟨gS, 0, none⟩)] gF 23 26 (stW F) (fun _ => F) (fun ps => ps.length) (LsI w gF gP gT gS B F p) where
  enters := enters_of Tryz.func38 (by kernel_rfl) rfl
  add := fun ⟨v6, v7, h⟩ hb hL => ⟨v6, v7, h.add hb hL⟩
  sub := fun ⟨v6, v7, h⟩ hs => ⟨v6, v7, h.sy, h.bT, h.bS, fun e he => h.ks e (hs.mem he)⟩
  get := fun ⟨_, _, h⟩ he => (h.ks _ he).1
  row := fun ⟨_, _, h⟩ => ⟨h.sy.fr, LF, h.sy.blw⟩
  keeps := fun _ _ _ => rfl
  fwd := fun {s xs i fst s'} h e => by
    unfold stW at e
    injection e with e
    subst e
    rw [List.length_append, List.length_singleton]
    omega
  tells := fun s K u gt xs i fst hi hin hok hl hN h1 h2 hp => by
    have h := list1_any (n := xs.length) (Lib.hid G) hi LF (hF i) hin rfl hl hN h1 h2 hp
    exact h.mono fun e u' hr => hr
def ListOut (w : World) (ps : List Pr) (e : Ending) (w' : World) : Prop :=
  ∃ A n c L d ts, e = .returned (.tuple #[.slice L n d, .slice A n c, .int .i64 0]) ∧ ps.length = n ∧ RdI w' A n (ps.map (·.1)) ∧ RdT w' L n ts ∧ tbs ts = ps.map (·.2) ∧ Below w.heap.size w w'
theorem fr_in {F : List Int} {K : Int} {l q p : List Int} (hF : FrS F K l q) (h : Fr K l q p) (i : Nat) : -1099511627776 ≤ F.getD i 0 ∧ F.getD i 0 ≤ 1099511627776 := by
  by_cases h0 : i = 0
  · rw [h0, hF.k0]
    have := h.kind
    omega
  · by_cases h7 : i < 7
    · obtain ⟨b, rfl⟩ : ∃ b, i = 1 + b := ⟨i - 1, by omega⟩
      have e : F.getD (1 + b) 0 = l.getD b 0 := by
        rw [← hF.lev]
        simp only [List.getD_eq_getElem?_getD, List.getElem?_take, show b < 6 by omega, if_true, List.getElem?_drop]
      have := inR_bd (lo := 0) (hi := 255) h.lev (by omega) (by omega) b
      omega
    · by_cases h23 : i < 23
      · obtain ⟨n, rfl⟩ : ∃ n, i = 7 + n := ⟨i - 7, by omega⟩
        have e : F.getD (7 + n) 0 = q.getD n 0 := by
          rw [← hF.num]
          simp only [List.getD_eq_getElem?_getD, List.getElem?_take, show n < 16 by omega, if_true, List.getElem?_drop]
        have h1 := h.may
        unfold mayB at h1
        rw [Bool.and_eq_true] at h1
        have h2 := mayN_at 16 n (by omega) h1.2
        have h3 := msL_bd l (k := n) (by omega)
        omega
      · rw [List.getD_eq_getElem?_getD, List.getElem?_eq_none (by rw [hF.len]; omega)]
        exact ⟨by decide, by decide⟩
theorem frS_R {F : List Int} {K : Int} {l q : List Int} (h : FrS F K l q) : FrR F K l q := by
  have h0 := frR_of h.len
  have e1 : lvO F = l := h.lev
  have e2 : nmO F = q := h.num
  rw [h.k0, e1, e2] at h0
  exact h0
set_option maxHeartbeats 4000000 in
theorem list_any (F : List Int) (K : Int) (l q p : List Int) (w : World) (hF : FrS F K l q) (lp : p.length = 6) (hfr : Fr K l q p) (he : Edg w) :
    Calls Tryz.prog 19 #[.agg (icells F), .agg (icells p)] w (ListOut w (symsP K l q p)) := by
  have LF := Lib.hid hF.len
  have LP := Lib.hid lp
  have HFI := Lib.hid (fr_in hF hfr)
  have HTL := Lib.hid (thru_list (p := p) (frS_R hF) hfr.lev)
  have HP := Lib.hid hfr.ahead
  have HE := Lib.hid he
  have hmf : ∀ (fn : Fn) (first cap : Array Value) (w : World), (Instr.makeFunc fn first cap).run Tryz.prog w = .ok (.func fn first cap) w := fun _ _ _ _ => rfl
  generalize symsP K l q p = ps at HTL ⊢
  have HM := Lib.hid (MV.start w)
  clear hF lp hfr he
  go_enter Tryz.func19, Tryz.ntmps19
  go_wp2_with (first | (refine wv_loadE rfl _ _ rfl rfl (Lib.hid (run_load_blk arrLev.row (((HM.out.get (by exact vmemOf (e := (g2, 23, icells p)))).alloc _).alloc _) ((icells_size p).trans LP.out))) ?_) | (first | ((first | refine wv_box rfl _ _ rfl rfl HM ?_ | refine wv_alloc rfl _ rfl (by exact rowOf) HM ?_); first | (have q:dV HM = 0:=rfl;clear q HM;intro g1 u1 HG1 HM) | (have q:dV HM = 1:=rfl;clear q HM;intro g2 u2 HG2 HM) | (have q:dV HM = 2:=rfl;clear q HM;intro g3 u3 HG3 HM) | (have q:dV HM = 3:=rfl;clear q HM;intro g4 u4 HG4 HM)) | (refine wv_load rfl _ _ rfl rfl (by exact rowOf) HM (by exact vmemOf) (by exact vsizOf) ?_) | (refine wv_store rfl _ _ _ rfl rfl rfl (by exact rowOf) HM (by exact vidxOf) (by exact vsizOf) (by exact vsizOf) (by exact voneOf) ?_; clear HM; intro us HM; dsimp only [List.set] at HM) | (refine wl_zero rfl _ rfl (by exact arrOf) (by kernel_rfl) ?_)))
  have b1 := HM.out.get (by exact vmemOf (e := (g1, 26, icells F)))
  have b2 := HM.out.get (by exact vmemOf (e := (g2, 23, icells p)))
  have l1 := b1.lt
  have l2 := b2.lt
  have n1 := HM.out.2.2.1 _ (by exact vmemOf (e := (g1, 26, icells F)))
  have n2 := HM.out.2.2.1 _ (by exact vmemOf (e := (g2, 23, icells p)))
  have hb0 := HM.out.1
  have hz := hb0.size
  have HI := Lib.hid (show LsI w g1 g2 u2.heap.size (u2.heap.size + 1) (u2.heap.size + 2) F p [] [] ((u2.alloc (.cells #[.slice none 0 0] 32)).alloc (.cells #[.slice none 0 0] 33)) from by
    refine ⟨.slice none 0 0, .slice none 0 0, ⟨(b1.alloc _).alloc _, (b2.alloc _).alloc _, World.ownsRow_nil _ _ _ _, ⟨[], rfl, World.ownsRow_nil _ _ _ _, fun t ht => absurd ht (by simp)⟩, by omega, by omega, n1, n2, by simp, (hb0.alloc hz _).alloc (by simp; omega) _⟩, (Blk.new u2 _ _).alloc _, Blk.newAt (by simp), fun e he => absurd he (by simp)⟩)
  have HG := Lib.hid (show LsG w g1 g2 u2.heap.size (u2.heap.size + 1) (u2.heap.size + 2) from ⟨by omega, by omega, hz, by omega, by omega, by omega, by omega, by omega, by omega⟩)
  clear b1 b2 l1 l2 n1 n2 hb0 hz HM
  generalize (u2.alloc (.cells #[.slice none 0 0] 32)).alloc (.cells #[.slice none 0 0] 33) = w3 at HI ⊢
  have hsz : (u2.alloc (.cells #[.slice none 0 0] 32)).heap.size = u2.heap.size + 1 := by simp
  try rw [hsz]
  generalize u2.heap.size = gT at HI HG ⊢
  refine (thru_any (S := List Pr) [] [] w3 p (Lib.hid (telList HG.out LF.out HFI.out)) HI HE LP.out HP.out rfl).mono ?_
  intro e u hr
  rw [HTL.out] at hr
  obtain ⟨rfl, v6, v7, hs⟩ := hr
  obtain ⟨A6, c6, rfl, r6⟩ := hs.sy.rd6
  obtain ⟨A7, c7, ts, rfl, r7, t7⟩ := hs.sy.rd7
  have H6 := Lib.hid r6
  have H7 := Lib.hid r7
  have HT7 := Lib.hid t7
  have HB := Lib.hid hs.sy.blw
  have cT := hs.bT.cell 0
  have cS := hs.bS.cell 0
  simp at cT cS
  clear hs r6 r7 t7 HI HG
  go_wp2_with fail
  go_quiet (fail)
  clear cT cS
  go_wp2_with fail
  refine bodyPost_ret (v := .tuple #[.slice A7 ps.length c7, .slice A6 ps.length c6, .int .i64 0]) (by simp [results, Tryz.results19, go_sem]) rfl ⟨A6, ps.length, c6, A7, c7, ts, rfl, rfl, H6.out.below (below_drewN (Below.refl _ _) nq), H7.out.below (below_drewN (Below.refl _ _) nq), HT7.out, below_drewN HB.out nq⟩
end Go.Proofs.YtgpdgegelipboaaGreatDoor.Lp
namespace Go.Proofs.YtgpdgegelipboaaGreatDoor.Lp
open Go.RowKit Fx Fq Tb
open Cd (Pr Tb RdT tbs prs AllOut allErr e0 stE endBits isB_parts)
open Yr (Fr chkB chkB_iff symsP fr_bits wrB nearB)
def WrC (w : World) (K : Int) (l q p : List Int) (e : Ending) (w' : World) : Prop :=
  if chkB K l q p = true then ∃ A n c, e = .returned (.tuple #[.slice A n c, .int .i64 0]) ∧ n ≤ c ∧ Rd w' A n (wrB K l q p) ∧ Below w.heap.size w w'
  else e = .returned (.tuple #[.slice none 0 0, .int .i64 1]) ∧ Below w.heap.size w w'
theorem WrC.wr {w : World} {K : Int} {l q p : List Int} {e : Ending} {w' : World} (h : WrC w K l q p e w') : WrOut w K l q p e w' := by
  unfold WrC at h
  unfold WrOut
  split at h
  · rename_i hc
    rw [if_pos hc]
    obtain ⟨A, n, c, h1, -, h2, h3⟩ := h
    exact ⟨A, n, c, h1, h2, h3⟩
  · rename_i hc
    rw [if_neg hc]
    exact h
theorem all_frameN {w w' : World} {K : Int} {l q p : List Int} {e : Ending} (hfr : Fr K l q p) (h : AllOut w (symsP K l q p) e w') : ∃ A n c N, e = .returned (.tuple #[.agg #[.slice A n c, .int .i64 N], .int .i64 0]) ∧ n ≤ c ∧ Rd w' A n (wrB K l q p) ∧ Below w.heap.size w w' := by
  obtain ⟨h1, h2, -⟩ := fr_bits hfr
  rcases h with ⟨_, A, n, c, N, er, rfl, hb, h⟩ | ⟨h, _⟩
  · rcases h with ⟨_, rfl, hn⟩ | ⟨h, _⟩
    · have hB := hn.isB
      obtain ⟨g, hv, _, _, _⟩ := hn
      simp only [Value.agg.injEq, Array.mk.injEq, List.cons.injEq, Value.slice.injEq, and_true] at hv
      obtain ⟨⟨rfl, rfl, rfl⟩, -⟩ := hv
      exact ⟨_, _, _, N, rfl, Nat.le_refl _, (isB_parts hB).2.2.1, hb⟩
    · omega
  · exact absurd h1 h
set_option maxHeartbeats 4000000 in
theorem fwrite_no (F : List Int) (K : Int) (l q p : List Int) (w : World) (hF : FrS F K l q) (lp : p.length = 6) (he : Edg w) (h : chkB K l q p = false) :
    Calls Tryz.prog 6 #[.agg (icells F), .agg (icells p)] w fun e w' => e = .returned (.tuple #[.slice none 0 0, .int .i64 1]) ∧ Below w.heap.size w w' := by
  have LF := Lib.hid hF.len
  have LP := Lib.hid lp
  have HM := Lib.hid (Mem.start w)
  have HE := Lib.hid he
  have HC := Lib.hid (fun u (hu : Edg u) => fcheck_any F K l q p u hF lp hu)
  unfold errC at HC
  rw [h, if_neg Bool.false_ne_true] at HC
  clear hF lp h he
  go_enter Tryz.func6, Tryz.ntmps6
  go_wp2_with (first | (first | ((first | refine wl_box rfl _ _ rfl rfl HM ?_ | refine wl_alloc rfl _ rfl (by exact arrOf) HM ?_); first | (have q:dL HM = 0:=rfl;clear q HM;intro g1 u1 HM) | (have q:dL HM = 1:=rfl;clear q HM;intro g2 u2 HM) | (have q:dL HM = 2:=rfl;clear q HM;intro g3 u3 HM) | (have q:dL HM = 3:=rfl;clear q HM;intro g4 u4 HM)) | (refine wl_load rfl _ _ rfl rfl (by exact arrOf) HM (by exact memOf) (by exact lenOf) ?_) | (refine wl_storeM rfl _ _ _ rfl rfl rfl (by exact arrOf) HM (by exact idxOf) (by exact lenOf) (by exact lenOf) ?_; clear HM; intro us HM; dsimp only [List.set] at HM) | (refine wl_zero rfl _ rfl (by exact arrOf) (by kernel_rfl) ?_)) | (refine wl_loadS rfl _ _ rfl rfl (by exact arrOf) HM (by exact memOf) (by exact subF) (by exact lenOf) ?_) | (refine wl_cellF rfl _ rfl rfl HM (by exact memOf) (by exact celF) ?_))
  refine (HC.out _ (HE.out.mem HM.out)).mono ?_
  rintro e w2 ⟨rfl, h1⟩
  have HM2 := Lib.hid (HM.out.below h1)
  clear h1 HM HC
  have HM := HM2
  clear HM2
  go_wp2
  go_ret2
  exact ⟨rfl, HM.out.1⟩
set_option maxHeartbeats 4000000 in
theorem fwrite_yes (F : List Int) (K : Int) (l q p : List Int) (w : World) (hF : FrS F K l q) (lp : p.length = 6) (he : Edg w) (h : chkB K l q p = true) :
    Calls Tryz.prog 6 #[.agg (icells F), .agg (icells p)] w fun e w' => ∃ A n c, e = .returned (.tuple #[.slice A n c, .int .i64 0]) ∧ n ≤ c ∧ Rd w' A n (wrB K l q p) ∧ Below w.heap.size w w' := by
  have LF := Lib.hid hF.len
  have LP := Lib.hid lp
  have HM := Lib.hid (Mem.start w)
  have HE := Lib.hid he
  have HC := Lib.hid (fun u (hu : Edg u) => fcheck_any F K l q p u hF lp hu)
  unfold errC at HC
  rw [h, if_pos rfl] at HC
  have HFR := Lib.hid ((chkB_iff K l q p).1 h)
  have HS := Lib.hid (fun u (hu : Edg u) => list_any F K l q p u hF lp HFR.out hu)
  obtain ⟨ps, hps⟩ : ∃ ps, ps = symsP K l q p := ⟨_, rfl⟩
  have HPS := Lib.hid hps
  have HLN := Lib.hid (show ps.length ≤ 40 from by rw [hps]; exact syms_len K l q p)
  rw [← hps] at HS
  clear hF lp h hps he
  go_enter Tryz.func6, Tryz.ntmps6
  go_wp2_with (first | (first | ((first | refine wl_box rfl _ _ rfl rfl HM ?_ | refine wl_alloc rfl _ rfl (by exact arrOf) HM ?_); first | (have q:dL HM = 0:=rfl;clear q HM;intro g1 u1 HM) | (have q:dL HM = 1:=rfl;clear q HM;intro g2 u2 HM) | (have q:dL HM = 2:=rfl;clear q HM;intro g3 u3 HM) | (have q:dL HM = 3:=rfl;clear q HM;intro g4 u4 HM)) | (refine wl_load rfl _ _ rfl rfl (by exact arrOf) HM (by exact memOf) (by exact lenOf) ?_) | (refine wl_storeM rfl _ _ _ rfl rfl rfl (by exact arrOf) HM (by exact idxOf) (by exact lenOf) (by exact lenOf) ?_; clear HM; intro us HM; dsimp only [List.set] at HM) | (refine wl_zero rfl _ rfl (by exact arrOf) (by kernel_rfl) ?_)) | (refine wl_loadS rfl _ _ rfl rfl (by exact arrOf) HM (by exact memOf) (by exact subF) (by exact lenOf) ?_) | (refine wl_cellF rfl _ rfl rfl HM (by exact memOf) (by exact celF) ?_))
  refine (HC.out _ (HE.out.mem HM.out)).mono ?_
  rintro e w2 ⟨rfl, h1⟩
  have HM2 := Lib.hid (HM.out.below h1)
  clear h1 HM HC
  have HM := HM2
  clear HM2
  go_wp2_with (first | (first | ((first | refine wl_box rfl _ _ rfl rfl HM ?_ | refine wl_alloc rfl _ rfl (by exact arrOf) HM ?_); first | (have q:dL HM = 0:=rfl;clear q HM;intro g1 u1 HM) | (have q:dL HM = 1:=rfl;clear q HM;intro g2 u2 HM) | (have q:dL HM = 2:=rfl;clear q HM;intro g3 u3 HM) | (have q:dL HM = 3:=rfl;clear q HM;intro g4 u4 HM)) | (refine wl_load rfl _ _ rfl rfl (by exact arrOf) HM (by exact memOf) (by exact lenOf) ?_) | (refine wl_storeM rfl _ _ _ rfl rfl rfl (by exact arrOf) HM (by exact idxOf) (by exact lenOf) (by exact lenOf) ?_; clear HM; intro us HM; dsimp only [List.set] at HM) | (refine wl_zero rfl _ rfl (by exact arrOf) (by kernel_rfl) ?_)) | (refine wl_loadS rfl _ _ rfl rfl (by exact arrOf) HM (by exact memOf) (by exact subF) (by exact lenOf) ?_) | (refine wl_cellF rfl _ rfl rfl HM (by exact memOf) (by exact celF) ?_))
  refine (HS.out _ (HE.out.mem HM.out)).mono ?_
  rintro e w3 ⟨A, n, c, L, d, ts, rfl, hn, h2, h3, h4, h5⟩
  have HB3 := Lib.hid (HM.out.1.trans (h5.mono HM.out.1.size))
  have H2 := Lib.hid h2
  have H3 := Lib.hid h3
  have H4 := Lib.hid h4
  have hn2 : n ≤ 40 := by rw [← hn]; exact HLN.out
  clear HM HS h2 h3 h4 h5 hn
  go_wp2_with fail
  refine (Cd.all_walk A n c L d (ps.map (·.1)) ts w3 (Lib.hid (by unfold maxLen; omega)) H2 H3).mono ?_
  intro e w4 ho
  rw [prs_is H4.out, HPS.out] at ho
  obtain ⟨A5, n5, c5, N5, rfl, hc5, hr5, hb5⟩ := all_frameN HFR.out ho
  have HR5 := Lib.hid hr5
  have HC5 := Lib.hid hc5
  have HB4 := Lib.hid (HB3.out.trans (hb5.mono HB3.out.size))
  clear ho hr5 hb5 hc5 H2 H3 H4 HB3
  have HM := Lib.hid (MV.start w4)
  go_wp2_with (first | (refine wv_bytes rfl _ rfl rfl HM (by exact vmemOf) rfl ?_) | (first | ((first | refine wv_box rfl _ _ rfl rfl HM ?_ | refine wv_alloc rfl _ rfl (by exact rowOf) HM ?_); first | (have q:dV HM = 0:=rfl;clear q HM;intro g1 u1 HG1 HM) | (have q:dV HM = 1:=rfl;clear q HM;intro g2 u2 HG2 HM) | (have q:dV HM = 2:=rfl;clear q HM;intro g3 u3 HG3 HM) | (have q:dV HM = 3:=rfl;clear q HM;intro g4 u4 HG4 HM)) | (refine wv_load rfl _ _ rfl rfl (by exact rowOf) HM (by exact vmemOf) (by exact vsizOf) ?_) | (refine wv_store rfl _ _ _ rfl rfl rfl (by exact rowOf) HM (by exact vidxOf) (by exact vsizOf) (by exact vsizOf) (by exact voneOf) ?_; clear HM; intro us HM; dsimp only [List.set] at HM) | (refine wl_zero rfl _ rfl (by exact arrOf) (by kernel_rfl) ?_)))
  go_ret2
  exact ⟨A5, n5, c5, rfl, HC5.out, HR5.out.below HM.out.1, HB4.out.trans (HM.out.1.mono HB4.out.size)⟩
theorem fwriteC_any (F : List Int) (K : Int) (l q p : List Int) (w : World) (hF : FrS F K l q) (lp : p.length = 6) (he : Edg w) :
    Calls Tryz.prog 6 #[.agg (icells F), .agg (icells p)] w (WrC w K l q p) := by
  cases h : chkB K l q p with
  | false => exact (fwrite_no F K l q p w hF lp he h).mono fun e w' h2 => by unfold WrC; rw [h, if_neg Bool.false_ne_true]; exact h2
  | true => exact (fwrite_yes F K l q p w hF lp he h).mono fun e w' h2 => by unfold WrC; rw [h, if_pos rfl]; exact h2
theorem fwrite_any (F : List Int) (K : Int) (l q p : List Int) (w : World) (hF : FrS F K l q) (lp : p.length = 6) (he : Edg w) :
    Calls Tryz.prog 6 #[.agg (icells F), .agg (icells p)] w (WrOut w K l q p) := (fwriteC_any F K l q p w hF lp he).mono fun _ _ h => h.wr
set_option maxHeartbeats 4000000 in
theorem ftables_inter (F : List Int) (K : Int) (l q : List Int) (w : World) (hF : FrS F K l q) (hK : K = 1) :
    Calls Tryz.prog 8 #[.agg (icells F)] w fun e w' => e = .returned (.tuple #[.slice none 0 0, .slice none 0 0, .int .i64 1]) ∧ Below w.heap.size w w' := by
  have LF := Lib.hid hF.len
  have CK := Lib.hid (show 0 < F.length ∧ F.getD 0 0 = K from ⟨by rw [hF.len]; decide, hF.k0⟩)
  have HM := Lib.hid (Mem.start w)
  have a1 : (K == 1) = true := by rw [hK]; rfl
  clear hF hK
  go_enter Tryz.func8, Tryz.ntmps8
  go_wp2_with (first | (refine wl_skip (by rfl) ?_) | (first | (first | ((first | refine wl_box rfl _ _ rfl rfl HM ?_ | refine wl_alloc rfl _ rfl (by exact arrOf) HM ?_); first | (have q:dL HM = 0:=rfl;clear q HM;intro g1 u1 HM) | (have q:dL HM = 1:=rfl;clear q HM;intro g2 u2 HM) | (have q:dL HM = 2:=rfl;clear q HM;intro g3 u3 HM) | (have q:dL HM = 3:=rfl;clear q HM;intro g4 u4 HM)) | (refine wl_load rfl _ _ rfl rfl (by exact arrOf) HM (by exact memOf) (by exact lenOf) ?_) | (refine wl_storeM rfl _ _ _ rfl rfl rfl (by exact arrOf) HM (by exact idxOf) (by exact lenOf) (by exact lenOf) ?_; clear HM; intro us HM; dsimp only [List.set] at HM) | (refine wl_zero rfl _ rfl (by exact arrOf) (by kernel_rfl) ?_)) | (refine wl_loadS rfl _ _ rfl rfl (by exact arrOf) HM (by exact memOf) (by exact subF) (by exact lenOf) ?_) | (refine wl_cellF rfl _ rfl rfl HM (by exact memOf) (by exact celF) ?_)))
  exact bodyPost_ret (v := .tuple #[.slice none 0 0, .slice none 0 0, .int .i64 1]) (by simp [results, Tryz.results8, go_sem]) rfl ⟨rfl, HM.out.1⟩
set_option maxHeartbeats 4000000 in
theorem ftables_no (F : List Int) (K : Int) (l q : List Int) (w : World) (hF : FrS F K l q) (he : Edg w) (hK : ¬ K = 1) (h : chkB K l q (zr 6) = false) :
    Calls Tryz.prog 8 #[.agg (icells F)] w fun e w' => e = .returned (.tuple #[.slice none 0 0, .slice none 0 0, .int .i64 1]) ∧ Below w.heap.size w w' := by
  have LF := Lib.hid hF.len
  have CK := Lib.hid (show 0 < F.length ∧ F.getD 0 0 = K from ⟨by rw [hF.len]; decide, hF.k0⟩)
  have HM := Lib.hid (Mem.start w)
  have HE := Lib.hid he
  have a1 : (K == 1) = false := by simpa using hK
  have HC := Lib.hid (fun u (hu : Edg u) => fcheck_any F K l q (zr 6) u hF (zr_length 6) hu)
  unfold errC at HC
  rw [h, if_neg Bool.false_ne_true] at HC
  clear hF hK h he
  go_enter Tryz.func8, Tryz.ntmps8
  go_wp2_with (first | (first | ((first | refine wl_box rfl _ _ rfl rfl HM ?_ | refine wl_alloc rfl _ rfl (by exact arrOf) HM ?_); first | (have q:dL HM = 0:=rfl;clear q HM;intro g1 u1 HM) | (have q:dL HM = 1:=rfl;clear q HM;intro g2 u2 HM) | (have q:dL HM = 2:=rfl;clear q HM;intro g3 u3 HM) | (have q:dL HM = 3:=rfl;clear q HM;intro g4 u4 HM)) | (refine wl_load rfl _ _ rfl rfl (by exact arrOf) HM (by exact memOf) (by exact lenOf) ?_) | (refine wl_storeM rfl _ _ _ rfl rfl rfl (by exact arrOf) HM (by exact idxOf) (by exact lenOf) (by exact lenOf) ?_; clear HM; intro us HM; dsimp only [List.set] at HM) | (refine wl_zero rfl _ rfl (by exact arrOf) (by kernel_rfl) ?_)) | (refine wl_loadS rfl _ _ rfl rfl (by exact arrOf) HM (by exact memOf) (by exact subF) (by exact lenOf) ?_) | (refine wl_cellF rfl _ rfl rfl HM (by exact memOf) (by exact celF) ?_))
  refine (HC.out _ (HE.out.mem HM.out)).mono ?_
  rintro e w2 ⟨rfl, h1⟩
  have HM2 := Lib.hid (HM.out.below h1)
  clear h1 HM HC
  have HM := HM2
  clear HM2
  go_wp2
  exact bodyPost_ret (v := .tuple #[.slice none 0 0, .slice none 0 0, .int .i64 1]) (by simp [results, Tryz.results8, go_sem]) rfl ⟨rfl, HM.out.1⟩
set_option maxHeartbeats 4000000 in
theorem ftables_yes (F : List Int) (K : Int) (l q : List Int) (w : World) (hF : FrS F K l q) (he : Edg w) (hK : ¬ K = 1) (h : chkB K l q (zr 6) = true) :
    Calls Tryz.prog 8 #[.agg (icells F)] w (ListOut w (symsP K l q (zr 6))) := by
  have LF := Lib.hid hF.len
  have CK := Lib.hid (show 0 < F.length ∧ F.getD 0 0 = K from ⟨by rw [hF.len]; decide, hF.k0⟩)
  have HM := Lib.hid (Mem.start w)
  have HE := Lib.hid he
  have a1 : (K == 1) = false := by simpa using hK
  have HC := Lib.hid (fun u (hu : Edg u) => fcheck_any F K l q (zr 6) u hF (zr_length 6) hu)
  have HS := Lib.hid (fun u (hu : Edg u) => list_any F K l q (zr 6) u hF (zr_length 6) ((chkB_iff K l q (zr 6)).1 h) hu)
  unfold errC at HC
  rw [h, if_pos rfl] at HC
  generalize symsP K l q (zr 6) = ps at HS ⊢
  clear hF hK h he
  go_enter Tryz.func8, Tryz.ntmps8
  go_wp2_with (first | (first | ((first | refine wl_box rfl _ _ rfl rfl HM ?_ | refine wl_alloc rfl _ rfl (by exact arrOf) HM ?_); first | (have q:dL HM = 0:=rfl;clear q HM;intro g1 u1 HM) | (have q:dL HM = 1:=rfl;clear q HM;intro g2 u2 HM) | (have q:dL HM = 2:=rfl;clear q HM;intro g3 u3 HM) | (have q:dL HM = 3:=rfl;clear q HM;intro g4 u4 HM)) | (refine wl_load rfl _ _ rfl rfl (by exact arrOf) HM (by exact memOf) (by exact lenOf) ?_) | (refine wl_storeM rfl _ _ _ rfl rfl rfl (by exact arrOf) HM (by exact idxOf) (by exact lenOf) (by exact lenOf) ?_; clear HM; intro us HM; dsimp only [List.set] at HM) | (refine wl_zero rfl _ rfl (by exact arrOf) (by kernel_rfl) ?_)) | (refine wl_loadS rfl _ _ rfl rfl (by exact arrOf) HM (by exact memOf) (by exact subF) (by exact lenOf) ?_) | (refine wl_cellF rfl _ rfl rfl HM (by exact memOf) (by exact celF) ?_))
  refine (HC.out _ (HE.out.mem HM.out)).mono ?_
  rintro e w2 ⟨rfl, h1⟩
  have HM2 := Lib.hid (HM.out.below h1)
  clear h1 HM HC
  have HM := HM2
  clear HM2
  go_wp2_with (first | (first | ((first | refine wl_box rfl _ _ rfl rfl HM ?_ | refine wl_alloc rfl _ rfl (by exact arrOf) HM ?_); first | (have q:dL HM = 0:=rfl;clear q HM;intro g1 u1 HM) | (have q:dL HM = 1:=rfl;clear q HM;intro g2 u2 HM) | (have q:dL HM = 2:=rfl;clear q HM;intro g3 u3 HM) | (have q:dL HM = 3:=rfl;clear q HM;intro g4 u4 HM)) | (refine wl_load rfl _ _ rfl rfl (by exact arrOf) HM (by exact memOf) (by exact lenOf) ?_) | (refine wl_storeM rfl _ _ _ rfl rfl rfl (by exact arrOf) HM (by exact idxOf) (by exact lenOf) (by exact lenOf) ?_; clear HM; intro us HM; dsimp only [List.set] at HM) | (refine wl_zero rfl _ rfl (by exact arrOf) (by kernel_rfl) ?_)) | (refine wl_loadS rfl _ _ rfl rfl (by exact arrOf) HM (by exact memOf) (by exact subF) (by exact lenOf) ?_) | (refine wl_cellF rfl _ rfl rfl HM (by exact memOf) (by exact celF) ?_))
  refine (HS.out _ (HE.out.mem HM.out)).mono ?_
  rintro e w3 ⟨A, n, c, L, d, ts, rfl, hn, h2, h3, h4, h5⟩
  have HB3 := Lib.hid (HM.out.1.trans (h5.mono HM.out.1.size))
  have H2 := Lib.hid h2
  have H3 := Lib.hid h3
  have H4 := Lib.hid h4
  have HN := Lib.hid hn
  clear HM HS h2 h3 h4 h5 hn
  go_wp2
  exact bodyPost_ret (v := .tuple #[.slice L n d, .slice A n c, .int .i64 0]) (by simp [results, Tryz.results8, go_sem]) rfl ⟨A, n, c, L, d, ts, rfl, HN.out, H2.out, H3.out, H4.out, HB3.out⟩
theorem ftables_any (F : List Int) (K : Int) (l q : List Int) (w : World) (hF : FrS F K l q) (he : Edg w) :
    Calls Tryz.prog 8 #[.agg (icells F)] w (TbOut w K l q) := by
  by_cases hK : K = 1
  · exact (ftables_inter F K l q w hF hK).mono fun e w' h2 => by unfold TbOut; rw [if_neg (fun h => h.1 hK)]; exact h2
  · cases h : chkB K l q (zr 6) with
    | false => exact (ftables_no F K l q w hF he hK h).mono fun e w' h2 => by unfold TbOut; rw [if_neg (fun h3 => by rw [h] at h3; exact Bool.false_ne_true h3.2)]; exact h2
    | true => exact (ftables_yes F K l q w hF he hK h).mono fun e w' h2 => by unfold TbOut; rw [if_pos ⟨hK, h⟩]; exact h2
end Go.Proofs.YtgpdgegelipboaaGreatDoor.Lp
namespace Go.Proofs.YtgpdgegelipboaaGreatDoor.Cd
open Go.RowKit
def dcC (d : De) (A : Option Addr) (n c : Nat) (N : Int) : Array Value := #[.int .u32 (d.low : Int), .int .u32 (d.high : Int), .int .u32 (d.code : Int), .slice A n c, .int .i64 N, .int .i64 (d.at_ : Int)]
def NOut (w : World) (lo hi co : Nat) (At N K E : Int) (bs : List Nat) (e : Ending) (w' : World) : Prop :=
  ∃ A n c, e = .returned (.tuple #[decV lo hi co A n c N At, .int .i64 K, .int .i64 E]) ∧ Below w.heap.size w w' ∧ Rd w' A n bs
theorem NOut.err {w w' : World} {E : Int} (hb : Below w.heap.size w w') : NOut w 0 0 0 0 0 0 E [] (.returned (.tuple #[decV 0 0 0 none 0 0 0 0, .int .i64 0, .int .i64 E])) w' := ⟨none, 0, 0, rfl, hb, Rd.none_⟩
structure NeS (w : World) (b : Nat) (cs : Array Value) (C : Option Addr) (m dd : Nat) (xs : List Int) (u : World) : Prop where
  box : Blk u b 68 cs
  fr : Blk u (b + 1) 40 #[.slice C m dd]
  res : Blk u (b + 1 + 1) 68 #[.int .u32 0, .int .u32 0, .int .u32 0, .slice none 0 0, .int .i64 0, .int .i64 0]
  rd : Fq.RdI u C m xs
  hb : w.heap.size ≤ b
  blw : Below w.heap.size w u
section
variable {w : World} {b : Nat} {cs : Array Value} {C : Option Addr} {m dd : Nat} {xs : List Int} {u u' : World}
theorem NeS.next (h : NeS w b cs C m dd xs u) (hb : Below u.heap.size u u') : NeS w b cs C m dd xs u' :=
  ⟨h.box.below hb h.box.lt, h.fr.below hb h.fr.lt, h.res.below hb h.res.lt, h.rd.below hb, h.hb, h.blw.trans (hb.mono h.blw.size)⟩
theorem NeS.drewN (h : NeS w b cs C m dd xs u) (q : Nat) : NeS w b cs C m dd xs (u.drewN q) := ⟨h.box, h.fr, h.res, h.rd, h.hb, below_drewN h.blw q⟩
theorem nes_start (w : World) (cs : Array Value) (C : Option Addr) (m dd : Nat) (xs : List Int) (hx : Fq.RdI w C m xs) :
    NeS w w.heap.size cs C m dd xs (((w.alloc (.cells cs 68)).alloc (.cells #[.slice C m dd] 40)).alloc (.cells #[.int .u32 0, .int .u32 0, .int .u32 0, .slice none 0 0, .int .i64 0, .int .i64 0] 68)) :=
  ⟨((Blk.new w _ _).alloc _).alloc _, (Blk.newAt (by simp)).alloc _, Blk.newAt (by simp), ((hx.alloc _).alloc _).alloc _, Nat.le_refl _, (((Below.refl w.heap.size w).alloc (Nat.le_refl _) _).alloc (by simp) _).alloc (by simp; omega) _⟩
end
theorem okD_mk {d : De} {l : List Bool} (h : FineD d) (hl : l.length ≤ 65536) (h1 : 32 ≤ d.at_) (h2 : d.at_ ≤ 65600) : okD d.low d.high d.code (pack l) (l.length : Int) (d.at_ : Int) = true := by
  unfold okD wideB
  obtain ⟨⟨a1, a2⟩, a3, a4, a5⟩ := h
  have a6 : d.low < d.high := by
    rcases kind_cases d.low d.high with ⟨h, _⟩ | ⟨h, _⟩ | ⟨h, _⟩ | ⟨h, h1, h2, _⟩ <;> omega
  rw [decide_eq_true (show d.low < d.high ∧ d.high < 4294967296 ∧ kind d.low d.high = 3 from ⟨a6, a2, a3⟩), decide_eq_true a4, decide_eq_true a5, okB_pack l hl, decide_eq_true (show (32 : Int) ≤ (d.at_ : Int) by omega), decide_eq_true (show (d.at_ : Int) ≤ 65600 by omega)]
  rfl
set_option maxHeartbeats 2000000 in
theorem rnext_short (d : De) (A : Option Addr) (n c L : Nat) (l : List Bool) (C : Option Addr) (m dd : Nat) (xs : List Int) (w : World) (hI : Hid (IsB w (.agg #[.slice A n c, .int .i64 (L : Int)]) l)) (hd : Hid (FineD d)) (h32 : 32 ≤ d.at_) (hat : d.at_ ≤ 65600) (ha : L + 32 < d.at_) (hx : Hid (Fq.RdI w C m xs)) (hm : Hid (m ≤ maxLen)) (hok : Hid (Fq.okF xs = true)) :
    Calls Tryz.prog 36 #[decV d.low d.high d.code A n c (L : Int) (d.at_ : Int), .agg #[.slice C m dd]] w (NOut w 0 0 0 0 0 0 20 []) := by
  obtain ⟨hn, hN, hr, hl⟩ := isB_parts hI.out
  have HOK := Lib.hid (show okD d.low d.high d.code (pack l) (L : Int) (d.at_ : Int) = true by rw [hN]; exact okD_mk hd.out hl h32 hat)
  have HR := Lib.hid hr
  have o2 := hd.out.1.2
  have k1 := hd.out.2.2.1
  have k2 := hd.out.2.2.2
  have o1 := hd.out.1.1
  have Lb : L ≤ 65536 := by omega
  obtain ⟨L3, hL3⟩ : ∃ L3, L3 = L + 32 := ⟨_, rfl⟩
  have EL := Lib.hid (show (L : Int) + 32 = (L3 : Int) by omega)
  have dd1 : decide (L3 < d.at_) = true := by simp; omega
  clear hn hN hr hl hL3
  have HS0 := Lib.hid (nes_start w #[.int .u32 (d.low : Int), .int .u32 (d.high : Int), .int .u32 (d.code : Int), .slice A n c, .int .i64 (L : Int), .int .i64 (d.at_ : Int)] C m dd xs hx.out)
  unfold decV
  go_enter Tryz.func36, Tryz.ntmps36
  go_wp2_with fail
  generalize ((w.alloc (.cells #[.int .u32 (d.low : Int), .int .u32 (d.high : Int), .int .u32 (d.code : Int), .slice A n c, .int .i64 (L : Int), .int .i64 (d.at_ : Int)] 68)).alloc (.cells #[.slice C m dd] 40)).alloc (.cells #[.int .u32 0, .int .u32 0, .int .u32 0, .slice none 0 0, .int .i64 0, .int .i64 0] 68) = w0 at HS0 ⊢
  obtain ⟨b, hb⟩ : ∃ b, b = w.heap.size := ⟨_, rfl⟩
  rw [← hb] at HS0 ⊢
  have HB := Lib.hid (show w.heap.size ≤ b by omega)
  clear hb
  refine (rcheckDec_any d.low d.high d.code A n c (L : Int) (d.at_ : Int) (pack l) true w0 (by omega) (by omega) (by omega) (Lib.hid (HR.out.below HS0.out.blw)) HOK).mono ?_
  rintro e w2 ⟨rfl, hb2⟩
  have HS2 := Lib.hid (HS0.out.next hb2)
  clear hb2 HS0
  have x3 := Fq.blk0 HS2.out.fr
  go_wp2_with fail
  refine (Fq.rcheck_any C m dd xs true w2 (Lib.hid HS2.out.rd) hm.out hok.out).mono ?_
  rintro e w3 ⟨rfl, hb3⟩
  have HS3 := Lib.hid (HS2.out.next hb3)
  clear hb3 HS2 x3
  rw [show Fq.errN true = 0 from rfl]
  obtain ⟨x1, x2, x3, x4, x5, x6⟩ := blk6 HS3.out.box
  obtain ⟨y1, y2, y3, y4, y5, y6⟩ := blk6 HS3.out.res
  obtain ⟨z1, z2, z3, z4, z5, z6⟩ := frz6 HS3.out.res
  have eL := EL.out
  go_wp2
  exact bodyPost_ret (v := .tuple #[decV 0 0 0 none 0 0 0 0, .int .i64 0, .int .i64 20]) (by simp [results, Tryz.results36, go_sem, decV, y1, y2, y3, y4, y5, y6]) rfl (NOut.err (below6 HS3.out.blw (by have := HB.out; omega) _ _ _ _ _ _))
end Go.Proofs.YtgpdgegelipboaaGreatDoor.Cd
namespace Go.Proofs.YtgpdgegelipboaaGreatDoor.Cd
open Go.RowKit
theorem isB_it1 {w : World} {A : Option Addr} {n c : Nat} {N : Int} {l : List Bool} (h : IsB w (.agg #[.slice A n c, .int .i64 N]) l) : It.ok ⟨A, n, c, N, pack l⟩ = true ∧ It.bits ⟨A, n, c, N, pack l⟩ = l := by
  obtain ⟨_, hN, _, hl⟩ := isB_parts h
  refine ⟨?_, ?_⟩
  · show okB (pack l) N = true
    rw [hN]; exact okB_pack l hl
  · show bitsIn (pack l) N.toNat = l
    rw [hN]; exact bitsIn_pack l
theorem join_one {w : World} {b : Nat} {A1 : Option Addr} {n1 c1 : Nat} {N1 : Int} {l1 : List Bool} (h1 : IsB w (.agg #[.slice A1 n1 c1, .int .i64 N1]) l1) (hb : Blk w b 49 #[.slice A1 n1 c1, .int .i64 N1]) :
    Calls Tryz.prog 76 #[.slice (some ⟨b, 0, none⟩) 1 1] w (BOut w (JQ w.heap.size l1)) := by
  have hall : allBits [⟨A1, n1, c1, N1, pack l1⟩] = l1 := by
    show It.bits _ ++ [] = _
    rw [(isB_it1 h1).2, List.append_nil]
  have := join_out (some ⟨b, 0, none⟩) 1 1 [⟨A1, n1, c1, N1, pack l1⟩] w (by omega) ?_ ?_
  · rw [hall] at this; exact this
  · refine ⟨rfl, fun _ => ⟨_, rfl, fun j x hx => ?_⟩⟩
    rcases (show j = 0 by
      obtain ⟨hk, _⟩ := List.getElem?_eq_some_iff.1 hx
      have hk' : j < 1 := hk
      omega) with rfl
    injection hx with hx
    subst hx
    exact ⟨hb.cell 0, hb.cell 1, (isB_parts h1).2.2.1⟩
  · intro x hx
    have : x = ⟨A1, n1, c1, N1, pack l1⟩ := by simpa using hx
    rw [this]
    exact (isB_it1 h1).1
set_option maxHeartbeats 2000000 in
theorem rstate_any (p : Nat) (d : De) (A : Option Addr) (n c L : Nat) (l : List Bool) (w : World) (hs : Hid (RdS w p d A n c (L : Int))) (hI : Hid (IsB w (.agg #[.slice A n c, .int .i64 (L : Int)]) l)) :
    Calls Tryz.prog 90 #[.pointer (some ⟨p, 0, none⟩)] w (DOut w d.low d.high d.code (d.at_ : Int) (L : Int) 0 (pack l)) := by
  have hL := (isB_parts hI.out).2.1
  have HLL := Lib.hid (show l.length ≤ 65536 ∧ (L : Int) = (l.length : Int) from ⟨(isB_parts hI.out).2.2.2, hL⟩)
  clear hL
  have HK := Lib.hid (show Blk ((w.alloc (.cells #[.int .u32 0, .int .u32 0, .int .u32 0, .slice none 0 0, .int .i64 0, .int .i64 0] 68)).alloc (.cells #[.slice A n c, .int .i64 (L : Int)] 49)) w.heap.size 68 #[.int .u32 0, .int .u32 0, .int .u32 0, .slice none 0 0, .int .i64 0, .int .i64 0] from (Blk.new w _ _).alloc _)
  have HJ := Lib.hid (show Blk ((w.alloc (.cells #[.int .u32 0, .int .u32 0, .int .u32 0, .slice none 0 0, .int .i64 0, .int .i64 0] 68)).alloc (.cells #[.slice A n c, .int .i64 (L : Int)] 49)) (w.heap.size + 1) 49 #[.slice A n c, .int .i64 (L : Int)] from Blk.newAt (by simp))
  have HW := Lib.hid (show Below w.heap.size w ((w.alloc (.cells #[.int .u32 0, .int .u32 0, .int .u32 0, .slice none 0 0, .int .i64 0, .int .i64 0] 68)).alloc (.cells #[.slice A n c, .int .i64 (L : Int)] 49)) from ((Below.refl w.heap.size w).alloc (Nat.le_refl _) _).alloc (by simp) _)
  obtain ⟨-, -, -, c3, c4, -⟩ := hs.out.six
  have lp := Blk.lt hs.out
  go_enter Tryz.func90, Tryz.ntmps90
  go_wp2_with fail
  clear c3 c4 lp
  generalize (w.alloc (.cells #[.int .u32 0, .int .u32 0, .int .u32 0, .slice none 0 0, .int .i64 0, .int .i64 0] 68)).alloc (.cells #[.slice A n c, .int .i64 (L : Int)] 49) = w1 at HK HJ HW ⊢
  obtain ⟨br, hbr⟩ : ∃ br, br = w.heap.size := ⟨_, rfl⟩
  rw [← hbr] at HK HJ ⊢
  have HBR := Lib.hid hbr
  clear hbr
  refine (join_one (hI.out.below HW.out) HJ.out).mono ?_
  rintro e w2 ⟨A2, n2, c2, N2, er, rfl, hb2, hq⟩
  have hq2 : er = 0 ∧ IsN w2 w1.heap.size (.agg #[.slice A2 n2 c2, .int .i64 N2]) l := by
    rcases hq with ⟨_, h1, h2⟩ | ⟨h, _⟩
    · exact ⟨h1, h2⟩
    · have := HLL.out.1; omega
  obtain ⟨rfl, hIN⟩ := hq2
  have hN2 : N2 = (L : Int) := by rw [(isB_parts hIN.isB).2.1, HLL.out.2]
  subst hN2
  have HIN := Lib.hid (show IsB (w2.alloc (.cells #[.slice A2 n2 c2, .int .i64 (L : Int)] 49)) (.agg #[.slice A2 n2 c2, .int .i64 (L : Int)]) l ∧ (∀ ad, A2 = some ad → 0 < n2 → ad.block ≠ br) from ⟨hIN.isB.alloc _, fun ad ha _ => by
    obtain ⟨g, e, hg, _⟩ := hIN
    simp only [Value.agg.injEq, Array.mk.injEq, List.cons.injEq, Value.slice.injEq, and_true] at e
    have e1 := e.1.1
    rw [ha] at e1
    injection e1 with e1
    rw [e1]
    have := HK.out.lt
    show g ≠ br
    omega⟩)
  have HK2 := Lib.hid ((HK.out.below hb2 HK.out.lt).alloc (.cells #[.slice A2 n2 c2, .int .i64 (L : Int)] 49))
  have HX2 := Lib.hid (Blk.new w2 49 #[.slice A2 n2 c2, .int .i64 (L : Int)])
  have HW2 := Lib.hid ((HW.out.trans (hb2.mono HW.out.size)).alloc (HW.out.trans (hb2.mono HW.out.size)).size (.cells #[.slice A2 n2 c2, .int .i64 (L : Int)] 49))
  have HS2 := Lib.hid (hs.out.next HW2.out)
  clear hb2 hq hIN HJ HW HK
  go_wp2_with fail
  generalize w2.alloc (.cells #[.slice A2 n2 c2, .int .i64 (L : Int)] 49) = w3 at HIN HK2 HX2 HW2 HS2 ⊢
  generalize w2.heap.size = b4 at HX2 ⊢
  obtain ⟨x0, x1, x2, -, -, x5⟩ := HS2.out.six
  obtain ⟨j0, j1, -, -⟩ := blk2 HX2.out
  obtain ⟨y1, y2, y3, y4, y5, y6⟩ := blk6 HK2.out
  obtain ⟨z1, z2, z3, z4, z5, z6⟩ := frz6 HK2.out
  go_still_tail 20, (by kernel_rfl)
  change wpList _ _ _ _ _ w3.drew
  have HIN4 := Lib.hid (show IsB w3.drew (.agg #[.slice A2 n2 c2, .int .i64 (L : Int)]) l ∧ (∀ ad, A2 = some ad → 0 < n2 → ad.block ≠ br) from ⟨HIN.out.1, HIN.out.2⟩)
  have HK4 := Lib.hid (HK2.out.drew)
  have HW4 := Lib.hid (Below.drew HW2.out)
  clear x0 x1 x2 x5 j0 j1 y1 y2 y3 y4 y5 y6 z1 z2 z3 z4 z5 z6 HIN HK2 HW2 HX2 HS2
  generalize w3.drew = w4 at HIN4 HK4 HW4 ⊢
  obtain ⟨y1, y2, y3, y4, y5, y6⟩ := blk6 HK4.out
  obtain ⟨z1, z2, z3, z4, z5, z6⟩ := frz6 HK4.out
  go_wp2
  refine bodyPost_ret (v := .tuple #[decV d.low d.high d.code A2 n2 c2 (L : Int) (d.at_ : Int), .int .i64 0]) (by simp [results, Tryz.results90, go_sem, decV, y1, y2, y3, y4, y5, y6]) rfl ⟨A2, n2, c2, rfl, below6 HW4.out (by have := HBR.out; omega) _ _ _ _ _ _, ?_⟩
  obtain ⟨-, -, q3, -⟩ := isB_parts HIN4.out.1
  exact rd_far (rd_far (rd_far (rd_far (rd_far (rd_far q3 HIN4.out.2 _ _) HIN4.out.2 _ _) HIN4.out.2 _ _) HIN4.out.2 _ _) HIN4.out.2 _ _) HIN4.out.2 _ _
end Go.Proofs.YtgpdgegelipboaaGreatDoor.Cd
namespace Go.Proofs.YtgpdgegelipboaaGreatDoor.Cd
open Go.RowKit
def RnR (l : List Bool) (fin : De) (gk : Nat) (q : De) : Prop :=
  widD gk l q = fin ∧ Ok q.low q.high ∧ q.low ≤ q.code ∧ q.code ≤ q.high ∧ 4294967296 < (q.high - q.low + 1) * 2 ^ (gk + 1) ∧ q.at_ + gk ≤ 1000000
theorem RnR.step {l : List Bool} {fin q : De} {m : Nat} (h : RnR l fin (m + 1) q) (hk : kind q.low q.high ≠ 3) : RnR l fin m (stepD l q) := by
  obtain ⟨hf, hok, h1, h2, hw, ha⟩ := h
  obtain ⟨_, b1, b2, b3, b4, b5⟩ := stepD_facts (l := l) hok hk h1 h2
  refine ⟨?_, ⟨b5, b3⟩, b1, b2, ?_, ?_⟩
  · unfold widD at hf; rwa [if_neg hk] at hf
  · rw [b4]
    rw [Nat.pow_succ 2 (m + 1)] at hw
    rw [Nat.mul_comm 2 (q.high - q.low + 1), Nat.mul_assoc, Nat.mul_comm 2]
    exact hw
  · show q.at_ + 1 + m ≤ 1000000; omega
theorem int_eq {k : IntKind} {a b : Int} (h : a = b) : Value.int k a = .int k b := by rw [h]
theorem rfind_lit (A : Option Addr) (n c k : Nat) (zs : List Int) (x y : Int) (w : World) (hr : Hid (Fq.RdI w A n zs)) (hok : Hid (Fq.okF zs = true)) (hk : Hid (Fq.IsSym zs x k)) (h0 : 0 ≤ x) (hy : Hid (Fq.totF true zs = y)) (h1 : x < y) (h2 : y ≤ 16384) :
    Calls Tryz.prog 66 #[.agg #[.slice A n c], .int .i64 x] w fun e w' => e = .returned (.tuple #[.int .i64 (k : Int), .int .i64 0]) ∧ Below w.heap.size w w' := Fq.rfind_yes A n c k zs x y w hr hok hk h0 hy h1 h2
def NOutF (w : World) (lo hi co : Nat) (At N K E : Int) (bs : List Nat) (e : Ending) (w' : World) : Prop :=
  ∃ A n c, e = .returned (.tuple #[decV lo hi co A n c N At, .int .i64 K, .int .i64 E]) ∧ Below w.heap.size w w' ∧ Rd w' A n bs ∧ ∀ ad, A = some ad → 0 < n → w.heap.size ≤ ad.block
set_option maxHeartbeats 8000000 in
theorem rnext_okF (d : De) (A : Option Addr) (n c L : Nat) (l : List Bool) (C : Option Addr) (m dd : Nat) (xs : List Int) (fin : De) (w : World) (hI : Hid (IsB w (.agg #[.slice A n c, .int .i64 (L : Int)]) l)) (hd : Hid (FineD d)) (h32 : 32 ≤ d.at_) (hat : d.at_ ≤ 65600) (ha : d.at_ ≤ L + 32) (hx : Hid (Fq.RdI w C m xs)) (hm : Hid (m ≤ maxLen)) (hok : Hid (Fq.okF xs = true)) (hfin : Hid (nxE l d xs = fin)) :
    Calls Tryz.prog 36 #[decV d.low d.high d.code A n c (L : Int) (d.at_ : Int), .agg #[.slice C m dd]] w (NOutF w fin.low fin.high fin.code (fin.at_ : Int) (L : Int) (nxK d xs : Int) 0 (pack l)) := by
  obtain ⟨hn, hN, hr, hl⟩ := isB_parts hI.out
  have HOK := Lib.hid (show okD d.low d.high d.code (pack l) (L : Int) (d.at_ : Int) = true by rw [hN]; exact okD_mk hd.out hl h32 hat)
  have HR := Lib.hid hr
  have hn2 : n ≤ 8192 := by rw [hn, pack_length]; omega
  obtain ⟨T, hT⟩ : ∃ T, T = spT xs := ⟨_, rfl⟩
  obtain ⟨X, hX⟩ : ∃ X, X = symX d T := ⟨_, rfl⟩
  obtain ⟨K, hK⟩ : ∃ K, K = nxK d xs := ⟨_, rfl⟩
  rw [← hK]
  obtain ⟨t1, t2, t3⟩ := okF_tot hok.out
  obtain ⟨y1, y2, y3, y4, y5⟩ := next_sym hd.out hok.out
  have hxl := symX_lt hd.out (T := T) (by omega)
  rw [← hT] at t1 t2 t3 y1 y3 y4
  rw [← hX] at hxl y1 y3 y4
  obtain ⟨a, hav⟩ : ∃ a, a = spA (nxQ d xs) := ⟨_, rfl⟩
  obtain ⟨b, hbv⟩ : ∃ b, b = spB (nxQ d xs) := ⟨_, rfl⟩
  have HSY := Lib.hid (show symP xs (K : Int) a b T from by have := symP_of y2; rw [hav, hbv, hT, hK]; exact this)
  have HY1 := Lib.hid (show Fq.IsSym xs (X : Int) K by rw [hK]; exact y1)
  rw [← hav] at y3
  rw [← hbv] at y4
  obtain ⟨n1, n2, n3, n4⟩ := narD_in hd.out HSY.out.2.2.2 (show a ≤ symX d T by rw [← hX]; exact y3) (show symX d T < b by rw [← hX]; exact y4)
  obtain ⟨lo, hlo⟩ : ∃ lo, lo = d.low + (d.high - d.low + 1) * a / T := ⟨_, rfl⟩
  obtain ⟨hi, hhi⟩ : ∃ hi, hi = d.low + (d.high - d.low + 1) * b / T - 1 := ⟨_, rfl⟩
  have HN1 := Lib.hid (show lo ≤ d.code ∧ d.code ≤ hi ∧ lo ≤ hi ∧ hi < 4294967296 by rw [hlo, hhi]; exact ⟨n1, n2, n3.1, n3.2⟩)
  have HRN := Lib.hid (show RnR l fin 40 ⟨lo, hi, d.code, d.at_⟩ from by
    refine ⟨?_, ⟨HN1.out.2.2.1, HN1.out.2.2.2⟩, HN1.out.1, HN1.out.2.1, by rw [pow41]; omega, by show d.at_ + 40 ≤ 1000000; omega⟩
    rw [← hfin.out]
    unfold nxE nxD narD
    rw [← hav, ← hbv, ← hT, ← hlo, ← hhi])
  have HLO := Lib.hid hlo
  have HHI := Lib.hid hhi
  have HB1 := Lib.hid n4
  obtain ⟨S1, S2, S3⟩ := HSY.out.2.2.2
  obtain ⟨o1, o2⟩ := hd.out.1
  have k1 := hd.out.2.2.1
  have k2 := hd.out.2.2.2
  obtain ⟨w1', w2'⟩ := fineD_wid hd.out
  obtain ⟨W0, hW0⟩ : ∃ W0, W0 = d.high - d.low := ⟨_, rfl⟩
  obtain ⟨W, hW⟩ : ∃ W, W = W0 + 1 := ⟨_, rfl⟩
  obtain ⟨c1, hc1⟩ : ∃ c1, c1 = d.code - d.low := ⟨_, rfl⟩
  obtain ⟨c2, hc2⟩ : ∃ c2, c2 = c1 + 1 := ⟨_, rfl⟩
  obtain ⟨pr, hpr⟩ : ∃ pr, pr = c2 * T := ⟨_, rfl⟩
  obtain ⟨pq, hpq⟩ : ∃ pq, pq = pr - 1 := ⟨_, rfl⟩
  have c2b : c2 ≤ 4294967296 := by omega
  have prb : pr ≤ 70368744177664 := by rw [hpr]; exact Nat.le_trans (Nat.mul_le_mul c2b t2) (by omega)
  have pr1 : 1 ≤ pr := by rw [hpr]; exact Nat.mul_pos (by omega) (by omega)
  have hXq : X = pq / W := by rw [hX, hpq, hpr, hc2, hc1, hW, hW0]; rfl
  have E1 := Lib.hid (show (d.code : Int) - (d.low : Int) = (c1 : Int) by omega)
  have E2 := Lib.hid (show (c1 : Int) + 1 = (c2 : Int) by omega)
  have E3 := Lib.hid (show (c2 : Int) * (T : Int) = (pr : Int) by rw [hpr]; simp)
  have E4 := Lib.hid (show (pr : Int) - 1 = (pq : Int) by omega)
  have E5 := Lib.hid (show (pq : Int) / (W : Int) = (X : Int) by rw [hXq]; simp)
  have E6 := Lib.hid (show (d.high : Int) - (d.low : Int) = (W0 : Int) by omega)
  have E7 := Lib.hid (show (W0 : Int) + 1 = (W : Int) by omega)
  have c1b : c1 < 4294967296 := by omega
  have Wb : W ≤ 4294967296 := by omega
  have W0b : W0 < 4294967296 := by omega
  have X2 : X < 16384 := by omega
  have XT : X < T := hxl
  have K2 : K ≤ 300 := by have := HY1.out.1; have := (Fq.okF_parts hok.out).2.1; omega
  have pqb : pq ≤ 70368744177664 := by omega
  have Z1 : ¬ (W : Int) = 0 := by omega
  have Z2 : ((W : Int) == 0) = false := by simp; omega
  have Z3 : ¬ W = 0 := by omega
  have Z4 : (W == 0) = false := by simp; omega
  have Lb : L ≤ 65536 := by omega
  obtain ⟨L3, hL3⟩ : ∃ L3, L3 = L + 32 := ⟨_, rfl⟩
  have EL := Lib.hid (show (L : Int) + 32 = (L3 : Int) by omega)
  have dd1 : decide (L3 < d.at_) = false := by simp; omega
  have HT := Lib.hid t3
  clear hn hN hr hl hL3 hT hX hK y1 y2 y3 y4 y5 hav hbv hlo hhi n1 n2 n3 n4 hW hW0 hc1 hc2 hpr hpq hXq t3 hxl
  have HS0 := Lib.hid (nes_start w #[.int .u32 (d.low : Int), .int .u32 (d.high : Int), .int .u32 (d.code : Int), .slice A n c, .int .i64 (L : Int), .int .i64 (d.at_ : Int)] C m dd xs hx.out)
  unfold decV
  go_enter Tryz.func36, Tryz.ntmps36
  go_wp2_with fail
  generalize ((w.alloc (.cells #[.int .u32 (d.low : Int), .int .u32 (d.high : Int), .int .u32 (d.code : Int), .slice A n c, .int .i64 (L : Int), .int .i64 (d.at_ : Int)] 68)).alloc (.cells #[.slice C m dd] 40)).alloc (.cells #[.int .u32 0, .int .u32 0, .int .u32 0, .slice none 0 0, .int .i64 0, .int .i64 0] 68) = w0 at HS0 ⊢
  obtain ⟨bb, hbb⟩ : ∃ bb, bb = w.heap.size := ⟨_, rfl⟩
  rw [← hbb] at HS0 ⊢
  have HB := Lib.hid (show w.heap.size ≤ bb by omega)
  clear hbb
  refine (rcheckDec_any d.low d.high d.code A n c (L : Int) (d.at_ : Int) (pack l) true w0 (by omega) (by omega) (by omega) (Lib.hid (HR.out.below HS0.out.blw)) HOK).mono ?_
  rintro e w2 ⟨rfl, hb2⟩
  have HS2 := Lib.hid (HS0.out.next hb2)
  clear hb2 HS0
  have x3 := Fq.blk0 HS2.out.fr
  go_wp2_with fail
  refine (Fq.rcheck_any C m dd xs true w2 (Lib.hid HS2.out.rd) hm.out hok.out).mono ?_
  rintro e w3 ⟨rfl, hb3⟩
  have HS3 := Lib.hid (HS2.out.next hb3)
  clear hb3 HS2 x3
  rw [show Fq.errN true = 0 from rfl]
  obtain ⟨x1, x2, x3, x4, x5, x6⟩ := blk6 HS3.out.box
  have x7 := Fq.blk0 HS3.out.fr
  have eL := EL.out
  go_wp2_with fail
  clear eL x1 x2 x3 x4 x5 x6 x7
  refine (Fq.rtotal_any C m dd xs true (T : Int) w3 (Lib.hid HS3.out.rd) hm.out hok.out HT.out).mono ?_
  rintro e w4 ⟨rfl, hb4⟩
  have HS4 := Lib.hid (HS3.out.next hb4)
  clear hb4 HS3
  have x7 := Fq.blk0 HS4.out.fr
  go_wp2_with fail
  have e1 := E1.out
  have e2 := E2.out
  have e3 := E3.out
  have e4 := E4.out
  have e5 := E5.out
  have e6 := E6.out
  have e7 := E7.out
  have e8 : Int.tdiv (pq : Int) (W : Int) = (X : Int) := by rw [Int.tdiv_eq_ediv_of_nonneg (by omega)]; exact e5
  have v1 : IntKind.u64.wrap (c1 : Int) = (c1 : Int) := IntWalk.u64_in _ (by omega)
  have v2 : IntKind.u64.wrap (c2 : Int) = (c2 : Int) := IntWalk.u64_in _ (by omega)
  have v3 : IntKind.u64.wrap (T : Int) = (T : Int) := IntWalk.u64_in _ (by omega)
  have v4 : IntKind.u64.wrap (pr : Int) = (pr : Int) := IntWalk.u64_in _ (by omega)
  have v5 : IntKind.u64.wrap (pq : Int) = (pq : Int) := IntWalk.u64_in _ (by omega)
  have v6 : IntKind.u64.wrap (W0 : Int) = (W0 : Int) := IntWalk.u64_in _ (by omega)
  have v7 : IntKind.u64.wrap (W : Int) = (W : Int) := IntWalk.u64_in _ (by omega)
  have v8 : IntKind.u64.wrap (X : Int) = (X : Int) := IntWalk.u64_in _ (by omega)
  have v9 : IntKind.i64.wrap (X : Int) = (X : Int) := IntWalk.i64_in _ (by omega)
  go_region_with (go_at_call 66; refine (rfind_lit C m dd K xs (X : Int) (T : Int) w4.drew (Lib.hid HS4.out.rd) hok HY1 (by omega) HT (by omega) (by omega)).mono ?_; rintro e w5 ⟨rfl, hb5⟩)
  have HS5 := Lib.hid (HS4.out.next (show Below w4.heap.size w4 w5 from ⟨hb5.os, hb5.tape, hb5.output, hb5.size, hb5.block⟩))
  clear hb5 HS4 x7 e1 e2 e3 e4 e5 e6 e7 e8 v1 v2 v3 v4 v5 v6 v7 v8 v9
  have x7 := Fq.blk0 HS5.out.fr
  go_wp2_with fail
  have hcon := Fq.rspan_any C m dd xs (K : Int) w5 (Lib.hid HS5.out.rd) hm.out
  rw [HSY.out.1] at hcon
  refine hcon.mono ?_
  clear hcon
  rintro e w6 ⟨rfl, hb6⟩
  have HS6 := Lib.hid (HS5.out.next hb6)
  clear hb6 HS5 x7
  unfold Fq.spanT
  go_wp2_with fail
  refine (rnarrow_any d.low d.high a b T lo hi w6 o1 o2 (by omega) (by omega) (by omega) S3 HLO HHI HB1).mono ?_
  rintro e w7 ⟨rfl, q7, rfl⟩
  have HS7 := Lib.hid (HS6.out.drewN q7)
  generalize w6.drewN q7 = w7 at HS7 ⊢
  clear HS6
  obtain ⟨-, -, -, -, -, x6⟩ := blk6 HS7.out.box
  go_wp2
  clear x6
  go_loopg [7, 8, 9, 16] 40 (fun gk v7 v8 v9 v16 wr => ∃ q : De, v7 = .int .u64 (q.low : Int) ∧ v8 = .int .u64 (q.high : Int) ∧ v9 = .int .u64 (q.code : Int) ∧ v16 = .int .i64 (q.at_ : Int) ∧ Hid (RnR l fin gk q ∧ NeS w bb #[.int .u32 (d.low : Int), .int .u32 (d.high : Int), .int .u32 (d.code : Int), .slice A n c, .int .i64 (L : Int), .int .i64 (d.at_ : Int)] C m dd xs wr))
  case atStart => exact ⟨⟨lo, hi, d.code, d.at_⟩, rfl, rfl, rfl, rfl, Lib.hid ⟨HRN.out, HS7.out⟩⟩
  case round =>
    obtain ⟨q, rfl, rfl, rfl, rfl, HZ⟩ := hrel
    clear HRN HS7
    obtain ⟨⟨hf, ⟨g1, g2⟩, g3, g4, hw, g5⟩, hne⟩ := HZ.out
    have HF := Lib.hid hf
    have HW := Lib.hid hw
    have HNE := Lib.hid hne
    clear hf hw hne
    have g5' : q.at_ ≤ 1000000 := by omega
    obtain ⟨t, ht⟩ : ∃ t, t = (bitF l q.at_).toNat := ⟨_, rfl⟩
    have ht2 : t < 2 := by have := toNat_le (bitF l q.at_); omega
    have HTB := Lib.hid ht
    clear ht
    obtain ⟨-, -, -, x4, x5, -⟩ := blk6 HNE.out.box
    rcases kind_cases q.low q.high with ⟨hk, k1⟩ | ⟨hk, k1, k2⟩ | ⟨hk, k1, k2, k3, k4⟩ | ⟨hk, k1, k2, k3⟩
    · have HKK := Lib.hid hk
      have d1 : decide ((q.high : Int) < 2147483648) = true := by simp; omega
      clear hk
      cases gk with
      | zero => exact absurd (widS_zero ⟨g1, g2⟩ HW.out) (by rw [HKK.out]; decide)
      | succ p =>
        go_wp2_with fail
        refine (rbitAt_any A n c q.at_ t (L : Int) l _ (Lib.hid (hI.out.below HNE.out.blw)) HTB ht2 g5').mono ?_
        rintro e w8 ⟨rfl, hb8⟩
        have HN8 := Lib.hid (HNE.out.next hb8)
        have HSD := Lib.hid (show stepD l q = ⟨2 * (q.low - 0), 2 * (q.high - 0) + 1, 2 * (q.code - 0) + t, q.at_ + 1⟩ by unfold stepD; rw [HKK.out, HTB.out]; rfl)
        have HRS := Lib.hid (RnR.step HZ.out.1 (by rw [HKK.out]; decide))
        rw [HSD.out] at HRS
        clear hb8 HNE x4 x5
        go_wp2
        go_roundg p
        case rel => exact ⟨⟨2 * (q.low - 0), 2 * (q.high - 0) + 1, 2 * (q.code - 0) + t, q.at_ + 1⟩, int_eq (by dsimp only; omega), int_eq (by dsimp only; omega), int_eq (by dsimp only; omega), int_eq (by dsimp only; omega), Lib.hid ⟨HRS.out, HN8.out⟩⟩
        case measure => omega
    · have HKK := Lib.hid hk
      have d1 : decide ((q.high : Int) < 2147483648) = false := by simp; omega
      have d2 : decide (2147483648 ≤ (q.low : Int)) = true := by simp; omega
      clear hk
      cases gk with
      | zero => exact absurd (widS_zero ⟨g1, g2⟩ HW.out) (by rw [HKK.out]; decide)
      | succ p =>
        go_wp2_with fail
        refine (rbitAt_any A n c q.at_ t (L : Int) l _ (Lib.hid (hI.out.below HNE.out.blw)) HTB ht2 g5').mono ?_
        rintro e w8 ⟨rfl, hb8⟩
        have HN8 := Lib.hid (HNE.out.next hb8)
        have HSD := Lib.hid (show stepD l q = ⟨2 * (q.low - 2147483648), 2 * (q.high - 2147483648) + 1, 2 * (q.code - 2147483648) + t, q.at_ + 1⟩ by unfold stepD; rw [HKK.out, HTB.out]; rfl)
        have HRS := Lib.hid (RnR.step HZ.out.1 (by rw [HKK.out]; decide))
        rw [HSD.out] at HRS
        clear hb8 HNE x4 x5
        go_wp2
        go_roundg p
        case rel => exact ⟨⟨2 * (q.low - 2147483648), 2 * (q.high - 2147483648) + 1, 2 * (q.code - 2147483648) + t, q.at_ + 1⟩, int_eq (by dsimp only; omega), int_eq (by dsimp only; omega), int_eq (by dsimp only; omega), int_eq (by dsimp only; omega), Lib.hid ⟨HRS.out, HN8.out⟩⟩
        case measure => omega
    · have HKK := Lib.hid hk
      have d1 : decide ((q.high : Int) < 2147483648) = false := by simp; omega
      have d2 : decide (2147483648 ≤ (q.low : Int)) = false := by simp; omega
      have d3 : decide (1073741824 ≤ (q.low : Int)) = true := by simp; omega
      have d4 : decide ((q.high : Int) < 3221225472) = true := by simp; omega
      clear hk
      cases gk with
      | zero => exact absurd (widS_zero ⟨g1, g2⟩ HW.out) (by rw [HKK.out]; decide)
      | succ p =>
        go_wp2_with fail
        refine (rbitAt_any A n c q.at_ t (L : Int) l _ (Lib.hid (hI.out.below HNE.out.blw)) HTB ht2 g5').mono ?_
        rintro e w8 ⟨rfl, hb8⟩
        have HN8 := Lib.hid (HNE.out.next hb8)
        have HSD := Lib.hid (show stepD l q = ⟨2 * (q.low - 1073741824), 2 * (q.high - 1073741824) + 1, 2 * (q.code - 1073741824) + t, q.at_ + 1⟩ by unfold stepD; rw [HKK.out, HTB.out]; rfl)
        have HRS := Lib.hid (RnR.step HZ.out.1 (by rw [HKK.out]; decide))
        rw [HSD.out] at HRS
        clear hb8 HNE x4 x5
        go_wp2
        go_roundg p
        case rel => exact ⟨⟨2 * (q.low - 1073741824), 2 * (q.high - 1073741824) + 1, 2 * (q.code - 1073741824) + t, q.at_ + 1⟩, int_eq (by dsimp only; omega), int_eq (by dsimp only; omega), int_eq (by dsimp only; omega), int_eq (by dsimp only; omega), Lib.hid ⟨HRS.out, HN8.out⟩⟩
        case measure => omega
    · have HKK := Lib.hid hk
      have HE := Lib.hid (show q = fin from by
        have := HF.out
        cases gk with
        | zero => exact this
        | succ p => unfold widD at this; rwa [if_pos hk] at this)
      have d1 : decide ((q.high : Int) < 2147483648) = false := by simp; omega
      have d2 : decide (2147483648 ≤ (q.low : Int)) = false := by simp; omega
      clear hk
      have u1 : (q.low : Int) < 4294967296 := by omega
      have u2 : (q.high : Int) < 4294967296 := by omega
      have u3 : (q.code : Int) < 4294967296 := by omega
      by_cases h3 : 1073741824 ≤ q.low
      · have d3 : decide (1073741824 ≤ (q.low : Int)) = true := by simp; omega
        have d4 : decide ((q.high : Int) < 3221225472) = false := by simp; omega
        go_wp2_with fail
        refine (rcopy_any A n c (L : Int) (pack l) _ (HR.out.below HNE.out.blw) (by omega)).mono ?_
        rintro e w8 ⟨A8, n8, c8, rfl, ho8, hb8⟩
        have HN8 := Lib.hid (HNE.out.next hb8)
        have HI8 := Lib.hid (copy_isB (isB_parts hI.out).2.2.2 ho8)
        have HO8 := Lib.hid ho8
        have HLT := Lib.hid (show bb + 1 + 1 < wr.heap.size from HNE.out.res.lt)
        clear hb8 ho8 x4 x5
        obtain ⟨y1, y2, y3, y4, y5, y6⟩ := blk6 HN8.out.res
        obtain ⟨z1, z2, z3, z4, z5, z6⟩ := frz6 HN8.out.res
        go_wp2
        have hfar : ∀ ad, A8 = some ad → 0 < n8 → ad.block ≠ bb + 1 + 1 := fun ad ha _ => by
          have h1 := own_block HO8.out ad ha
          have h2 := HLT.out
          omega
        obtain ⟨-, -, q3, -⟩ := isB_parts HI8.out
        refine bodyPost_ret (v := .tuple #[decV q.low q.high q.code A8 n8 c8 (L : Int) (q.at_ : Int), .int .i64 (K : Int), .int .i64 0]) (by simp [results, Tryz.results36, go_sem, decV, y1, y2, y3, y4, y5, y6]) rfl ⟨A8, n8, c8, by rw [HE.out], below6 HN8.out.blw (by have := HB.out; omega) _ _ _ _ _ _, ?_, fun ad ha _ => by have h1 := own_block HO8.out ad ha; have h2 := HLT.out; have h3 := HB.out; omega⟩
        exact rd_far (rd_far (rd_far (rd_far (rd_far (rd_far q3 hfar _ _) hfar _ _) hfar _ _) hfar _ _) hfar _ _) hfar _ _
      · have d3 : decide (1073741824 ≤ (q.low : Int)) = false := by simp; omega
        go_wp2_with fail
        refine (rcopy_any A n c (L : Int) (pack l) _ (HR.out.below HNE.out.blw) (by omega)).mono ?_
        rintro e w8 ⟨A8, n8, c8, rfl, ho8, hb8⟩
        have HN8 := Lib.hid (HNE.out.next hb8)
        have HI8 := Lib.hid (copy_isB (isB_parts hI.out).2.2.2 ho8)
        have HO8 := Lib.hid ho8
        have HLT := Lib.hid (show bb + 1 + 1 < wr.heap.size from HNE.out.res.lt)
        clear hb8 ho8 x4 x5
        obtain ⟨y1, y2, y3, y4, y5, y6⟩ := blk6 HN8.out.res
        obtain ⟨z1, z2, z3, z4, z5, z6⟩ := frz6 HN8.out.res
        go_wp2
        have hfar : ∀ ad, A8 = some ad → 0 < n8 → ad.block ≠ bb + 1 + 1 := fun ad ha _ => by
          have h1 := own_block HO8.out ad ha
          have h2 := HLT.out
          omega
        obtain ⟨-, -, q3, -⟩ := isB_parts HI8.out
        refine bodyPost_ret (v := .tuple #[decV q.low q.high q.code A8 n8 c8 (L : Int) (q.at_ : Int), .int .i64 (K : Int), .int .i64 0]) (by simp [results, Tryz.results36, go_sem, decV, y1, y2, y3, y4, y5, y6]) rfl ⟨A8, n8, c8, by rw [HE.out], below6 HN8.out.blw (by have := HB.out; omega) _ _ _ _ _ _, ?_, fun ad ha _ => by have h1 := own_block HO8.out ad ha; have h2 := HLT.out; have h3 := HB.out; omega⟩
        exact rd_far (rd_far (rd_far (rd_far (rd_far (rd_far q3 hfar _ _) hfar _ _) hfar _ _) hfar _ _) hfar _ _) hfar _ _
end Go.Proofs.YtgpdgegelipboaaGreatDoor.Cd
namespace Go.Proofs.YtgpdgegelipboaaGreatDoor.Cd
open Go.RowKit
def RoW (w : World) (low high code : Nat) (A : Option Addr) (n c : Nat) (N At : Int) : World := (w.alloc (.cells #[.int .u32 (low : Int), .int .u32 (high : Int), .int .u32 (code : Int), .slice A n c, .int .i64 N, .int .i64 At] 68)).alloc (.cells #[.int .u32 (low : Int), .int .u32 (high : Int), .int .u32 (code : Int), .slice A n c, .int .i64 N, .int .i64 At] 159)
def RoOk (w : World) (low high code : Nat) (A : Option Addr) (n c : Nat) (N At : Int) (e : Ending) (w' : World) : Prop :=
  ∃ p, e = .returned (.tuple #[.pointer (some ⟨p, 0, none⟩), .int .i64 0]) ∧ w.heap.size ≤ p ∧ Blk w' p 159 #[.int .u32 (low : Int), .int .u32 (high : Int), .int .u32 (code : Int), .slice A n c, .int .i64 N, .int .i64 At] ∧ Below w.heap.size w w'
set_option maxHeartbeats 2000000 in
theorem reopen_any (low high code : Nat) (A : Option Addr) (n c : Nat) (N At : Int) (bs : List Nat) (r : Bool) (w : World) (_hl : low < 4294967296) (hh : high < 4294967296) (_hc : code < 4294967296) (hr : Hid (Rd w A n bs)) (hok : Hid (okD low high code bs N At = r)) :
    Calls Tryz.prog 96 #[decV low high code A n c N At] w fun e w' => (r = true ∧ RoOk w low high code A n c N At e w') ∨ (r = false ∧ OpNo w e w') := by
  have HK := Lib.hid (show Blk (RoW w low high code A n c N At) (w.heap.size + 1) 159 #[.int .u32 (low : Int), .int .u32 (high : Int), .int .u32 (code : Int), .slice A n c, .int .i64 N, .int .i64 At] from Blk.newAt (by simp))
  have HW := Lib.hid (show Below w.heap.size w (RoW w low high code A n c N At) from ((Below.refl w.heap.size w).alloc (Nat.le_refl _) _).alloc (by simp) _)
  unfold RoW at HK HW
  unfold decV
  go_enter Tryz.func96, Tryz.ntmps96
  go_wp2_with fail
  generalize (w.alloc (.cells #[.int .u32 (low : Int), .int .u32 (high : Int), .int .u32 (code : Int), .slice A n c, .int .i64 N, .int .i64 At] 68)).alloc (.cells #[.int .u32 (low : Int), .int .u32 (high : Int), .int .u32 (code : Int), .slice A n c, .int .i64 N, .int .i64 At] 159) = w1 at HK HW ⊢
  obtain ⟨p, hp⟩ : ∃ p, p = w.heap.size + 1 := ⟨_, rfl⟩
  rw [← hp] at HK ⊢
  have HP := Lib.hid (show w.heap.size ≤ p by omega)
  clear hp
  obtain ⟨kk, hkk⟩ : ∃ kk, kind low high = kk := ⟨_, rfl⟩
  have HKK := Lib.hid hkk
  refine (excess_any low high kk w1 hkk).mono ?_
  clear hkk
  rintro e w2 ⟨rfl, hb2⟩
  have HK2 := Lib.hid (HK.out.below hb2 HK.out.lt)
  have HW2 := Lib.hid (HW.out.trans (hb2.mono HW.out.size))
  clear hb2 HW HK
  obtain ⟨x0, x1, x2, x3, x4, x5⟩ := blk6 HK2.out
  unfold excT
  by_cases h3 : kk = 3
  · subst h3
    have HWB := Lib.hid (show wideB low high = true from by
      unfold wideB
      refine decide_eq_true ⟨?_, hh, HKK.out⟩
      rcases kind_cases low high with ⟨h, _⟩ | ⟨h, _⟩ | ⟨h, _⟩ | ⟨h, h1, h2, _⟩
      · have := HKK.out; omega
      · have := HKK.out; omega
      · have := HKK.out; omega
      · omega)
    rw [show decide ((3 : Nat) ≠ 3) = false by decide]
    by_cases h1 : code < low
    · have d1 : decide (code < low) = true := by simpa using h1
      have HE := Lib.hid (show r = false by rw [← hok.out]; unfold okD; rw [HWB.out, decide_eq_false (show ¬ low ≤ code by omega)]; rfl)
      go_wp2_with fail
      go_quiet (fail)
      go_wp2
      go_ret2
      exact .inr ⟨HE.out, rfl, below_drewN HW2.out _⟩
    · have d1 : decide (code < low) = false := by simpa using h1
      by_cases h2 : high < code
      · have d2 : decide (high < code) = true := by simpa using h2
        have HE := Lib.hid (show r = false by rw [← hok.out]; unfold okD; rw [HWB.out, decide_eq_true (show low ≤ code by omega), decide_eq_false (show ¬ code ≤ high by omega)]; rfl)
        go_wp2_with fail
        go_quiet (fail)
        go_wp2
        go_ret2
        exact .inr ⟨HE.out, rfl, below_drewN HW2.out _⟩
      · have d2 : decide (high < code) = false := by simpa using h2
        by_cases h4 : At < 32
        · have d4 : decide (At < 32) = true := by simpa using h4
          have HE := Lib.hid (show r = false by rw [← hok.out]; unfold okD; rw [decide_eq_false (show ¬ (32 : Int) ≤ At by omega)]; simp)
          go_wp2_with fail
          go_quiet (fail)
          go_wp2
          go_ret2
          exact .inr ⟨HE.out, rfl, below_drewN HW2.out _⟩
        · have d4 : decide (At < 32) = false := by simpa using h4
          by_cases h5 : 65600 < At
          · have d5 : decide (65600 < At) = true := by simpa using h5
            have HE := Lib.hid (show r = false by rw [← hok.out]; unfold okD; rw [decide_eq_false (show ¬ At ≤ 65600 by omega)]; simp)
            go_wp2_with fail
            go_quiet (fail)
            go_wp2
            go_ret2
            exact .inr ⟨HE.out, rfl, below_drewN HW2.out _⟩
          · have d5 : decide (65600 < At) = false := by simpa using h5
            obtain ⟨ok, hokB⟩ : ∃ ok, okB bs N = ok := ⟨_, rfl⟩
            have HOK := Lib.hid hokB
            clear hokB
            have HE := Lib.hid (show r = ok by rw [← hok.out]; unfold okD; rw [HWB.out, decide_eq_true (show low ≤ code by omega), decide_eq_true (show code ≤ high by omega), HOK.out, decide_eq_true (show (32 : Int) ≤ At by omega), decide_eq_true (show At ≤ 65600 by omega)]; simp)
            have hcon := check_any A n c N bs w2.drew (hr.out.below (Below.drew HW2.out))
            rw [HOK.out] at hcon
            cases ok with
            | true =>
              have HCON := Lib.hid hcon
              clear hcon
              go_wp2_with fail
              go_still_tail 44, (by kernel_rfl)
              change wpList _ _ _ _ _ w2.drew
              go_wp2_with fail
              refine HCON.out.mono ?_
              rintro e w3 ⟨rfl, hb3⟩
              have HK3 := Lib.hid (HK2.out.drew.below hb3 HK2.out.lt)
              have HW3 := Lib.hid ((Below.drew HW2.out).trans (hb3.mono (Below.drew HW2.out).size))
              clear hb3 x0 x1 x2 x3 x4 x5 HCON
              go_wp2
              go_ret2
              exact .inl ⟨HE.out, p, rfl, HP.out, HK3.out, HW3.out⟩
            | false =>
              have HCON := Lib.hid hcon
              clear hcon
              go_wp2_with fail
              go_still_tail 44, (by kernel_rfl)
              change wpList _ _ _ _ _ w2.drew
              go_wp2_with fail
              refine HCON.out.mono ?_
              rintro e w3 ⟨rfl, hb3⟩
              have HW3 := Lib.hid ((Below.drew HW2.out).trans (hb3.mono (Below.drew HW2.out).size))
              clear hb3 x0 x1 x2 x3 x4 x5 HCON
              go_wp2
              go_ret2
              exact .inr ⟨HE.out, rfl, HW3.out⟩
  · have HE := Lib.hid (show r = false by rw [← hok.out]; unfold okD wideB; rw [decide_eq_false (show ¬ (low < high ∧ high < 4294967296 ∧ kind low high = 3) from fun h => h3 (by rw [← HKK.out]; exact h.2.2))]; rfl)
    rw [show decide (kk ≠ 3) = true by simpa using h3]
    clear h3
    go_wp2_with fail
    go_quiet (fail)
    go_wp2
    go_ret2
    exact .inr ⟨HE.out, rfl, below_drewN HW2.out _⟩
end Go.Proofs.YtgpdgegelipboaaGreatDoor.Cd
namespace Go.Proofs.YtgpdgegelipboaaGreatDoor.Cd
open Go.RowKit
theorem NeS.grown {w : World} {b p : Nat} {cs : Array Value} {C : Option Addr} {m dd : Nat} {xs : List Int} {u u' : World} (h : NeS w b cs C m dd xs u) (hg : u.grownBy u' (some p)) (hp : b + 1 + 1 < p) (hC : ∀ ad, C = some ad → 0 < m → ad.block ≠ p) : NeS w b cs C m dd xs u' :=
  ⟨h.box.only hg (by omega), h.fr.only hg (by omega), h.res.only hg (by omega), h.rd.only hg hC, h.hb, h.blw.grown hg h.blw.size (fun j hj => by injection hj with hj; have := h.hb; omega)⟩
theorem rd_six {w : World} {A : Option Addr} {n g : Nat} {bs : List Nat} {t : TypeId} {a0 a1 a2 a4 a5 : Int} {v0 : Option Addr} {v1 v2 : Nat} (h : Rd w A n bs) (hb : Blk w g t #[.int .u32 a0, .int .u32 a1, .int .u32 a2, .slice v0 v1 v2, .int .i64 a4, .int .i64 a5]) (x0 x1 x2 x3 x4 x5 : Value) :
    Rd ((((((w.setCell ⟨g, 0, none⟩ x0).setCell ⟨g, 1, none⟩ x1).setCell ⟨g, 2, none⟩ x2).setCell ⟨g, 3, none⟩ x3).setCell ⟨g, 4, none⟩ x4).setCell ⟨g, 5, none⟩ x5) A n bs := by
  have h0 := h.setCell (p := ⟨g, 0, none⟩) x0 (fun x => by rw [hb.cell 0]; simp [byteV])
  have b0 := hb.set_ 0 x0
  have h1 := h0.setCell (p := ⟨g, 1, none⟩) x1 (fun x => by rw [b0.cell 1]; simp [byteV])
  have b1 := b0.set_ 1 x1
  have h2 := h1.setCell (p := ⟨g, 2, none⟩) x2 (fun x => by rw [b1.cell 2]; simp [byteV])
  have b2 := b1.set_ 2 x2
  have h3 := h2.setCell (p := ⟨g, 3, none⟩) x3 (fun x => by rw [b2.cell 3]; simp [byteV])
  have b3 := b2.set_ 3 x3
  have h4 := h3.setCell (p := ⟨g, 4, none⟩) x4 (fun x => by rw [b3.cell 4]; simp [byteV])
  have b4 := b3.set_ 4 x4
  exact h4.setCell (p := ⟨g, 5, none⟩) x5 (fun x => by rw [b4.cell 5]; simp [byteV])
theorem below6a {g : Nat} {w u : World} (h : Below w.heap.size w u) (hg : w.heap.size ≤ g) (a b c d e f : Value) (o : Obj) : Below w.heap.size w (((((((u.setCell ⟨g, 0, none⟩ a).setCell ⟨g, 1, none⟩ b).setCell ⟨g, 2, none⟩ c).setCell ⟨g, 3, none⟩ d).setCell ⟨g, 4, none⟩ e).setCell ⟨g, 5, none⟩ f).alloc o) :=
  (below6 h hg a b c d e f).alloc (below6 h hg a b c d e f).size o
theorem rdI_lt {w : World} {C : Option Addr} {m : Nat} {xs : List Int} (h : Fq.RdI w C m xs) : ∀ ad, C = some ad → 0 < m → ad.block < w.heap.size := by
  intro ad ha h0
  obtain ⟨ad', e, hlt, _⟩ := h.at_ h0
  rw [ha] at e
  injection e with e
  rw [e]; exact hlt
def nxErr (d : De) (L : Nat) (xs : List Int) : Int := if Fq.okF xs = true then (if L + 32 < d.at_ then 20 else 0) else 1
set_option maxHeartbeats 4000000 in
theorem pnext_err (d : De) (A : Option Addr) (n c L : Nat) (l : List Bool) (C : Option Addr) (m dd : Nat) (xs : List Int) (E : Int) (w : World) (hI : Hid (IsB w (.agg #[.slice A n c, .int .i64 (L : Int)]) l)) (hd : Hid (FineD d)) (h32 : 32 ≤ d.at_) (hat : d.at_ ≤ 65600) (hx : Hid (Fq.RdI w C m xs)) (hm : Hid (m ≤ maxLen)) (hE : Hid (nxErr d L xs = E)) (hE0 : ¬ E = 0) :
    Calls Tryz.prog 58 #[decV d.low d.high d.code A n c (L : Int) (d.at_ : Int), .agg #[.slice C m dd]] w (NOut w 0 0 0 0 0 0 E []) := by
  obtain ⟨hn, hN, hr, hl⟩ := isB_parts hI.out
  have HOK := Lib.hid (show okD d.low d.high d.code (pack l) (L : Int) (d.at_ : Int) = true by rw [hN]; exact okD_mk hd.out hl h32 hat)
  have Lb : L ≤ 65536 := by omega
  have HR := Lib.hid hr
  have o1 := hd.out.1.1
  have o2 := hd.out.1.2
  have k1 := hd.out.2.2.1
  have k2 := hd.out.2.2.2
  clear hn hN hr hl
  have HS0 := Lib.hid (nes_start w #[.int .u32 (d.low : Int), .int .u32 (d.high : Int), .int .u32 (d.code : Int), .slice A n c, .int .i64 (L : Int), .int .i64 (d.at_ : Int)] C m dd xs hx.out)
  have hcon := fun u (hb : Below w.heap.size w u) => reopen_any d.low d.high d.code A n c (L : Int) (d.at_ : Int) (pack l) true u (by omega) (by omega) (by omega) (Lib.hid (HR.out.below hb)) HOK
  unfold decV at hcon
  have HCON := Lib.hid hcon
  clear hcon
  unfold decV
  go_enter Tryz.func58, Tryz.ntmps58
  go_wp2_with fail
  generalize ((w.alloc (.cells #[.int .u32 (d.low : Int), .int .u32 (d.high : Int), .int .u32 (d.code : Int), .slice A n c, .int .i64 (L : Int), .int .i64 (d.at_ : Int)] 68)).alloc (.cells #[.slice C m dd] 40)).alloc (.cells #[.int .u32 0, .int .u32 0, .int .u32 0, .slice none 0 0, .int .i64 0, .int .i64 0] 68) = w0 at HS0 ⊢
  obtain ⟨b, hb⟩ : ∃ b, b = w.heap.size := ⟨_, rfl⟩
  rw [← hb] at HS0 ⊢
  have HB := Lib.hid (show w.heap.size ≤ b by omega)
  clear hb
  refine (HCON.out w0 HS0.out.blw).mono ?_
  rintro e w2 (⟨-, p, rfl, hp, hP, hb2⟩ | ⟨h, -⟩)
  case inr => cases h
  have HS2 := Lib.hid (HS0.out.next hb2)
  have HP2 := Lib.hid (show RdS w2 p d A n c (L : Int) from hP)
  clear hb2 hp hP HS0 HCON
  have x7 := Fq.blk0 HS2.out.fr
  go_wp2_with fail
  clear x7
  cases hF : Fq.okF xs with
  | false =>
    have HF := Lib.hid hF
    have HE1 := Lib.hid (show E = 1 by rw [← hE.out]; unfold nxErr; rw [hF]; rfl)
    clear hF
    refine (next_bad p d A n c (L : Int) C m dd xs w2 HP2 (Lib.hid HS2.out.rd) hm HF).mono ?_
    rintro e w3 ⟨rfl, hb3⟩
    have HS3 := Lib.hid (HS2.out.next hb3)
    clear hb3 HS2
    obtain ⟨y1, y2, y3, y4, y5, y6⟩ := blk6 HS3.out.res
    obtain ⟨z1, z2, z3, z4, z5, z6⟩ := frz6 HS3.out.res
    go_wp2
    refine bodyPost_ret (v := .tuple #[decV 0 0 0 none 0 0 0 0, .int .i64 0, .int .i64 1]) (by simp [results, Tryz.results58, go_sem, decV, y1, y2, y3, y4, y5, y6]) rfl ?_
    rw [HE1.out]
    exact NOut.err (below6 HS3.out.blw (by have := HB.out; omega) _ _ _ _ _ _)
  | true =>
    have HF := Lib.hid hF
    have hsh : L + 32 < d.at_ := by
      rcases Nat.lt_or_ge (L + 32) d.at_ with h | h
      · exact h
      · exfalso
        apply hE0
        rw [← hE.out]; unfold nxErr; rw [if_pos hF, if_neg (by omega)]
    have HE1 := Lib.hid (show E = 20 by rw [← hE.out]; unfold nxErr; rw [if_pos hF, if_pos hsh])
    clear hF
    refine (next_short p d A n c L C m dd xs w2 HP2 Lb hsh (by omega) (Lib.hid HS2.out.rd) hm HF).mono ?_
    rintro e w3 ⟨rfl, hb3⟩
    have HS3 := Lib.hid (HS2.out.next hb3)
    clear hb3 HS2
    obtain ⟨y1, y2, y3, y4, y5, y6⟩ := blk6 HS3.out.res
    obtain ⟨z1, z2, z3, z4, z5, z6⟩ := frz6 HS3.out.res
    go_wp2
    refine bodyPost_ret (v := .tuple #[decV 0 0 0 none 0 0 0 0, .int .i64 0, .int .i64 20]) (by simp [results, Tryz.results58, go_sem, decV, y1, y2, y3, y4, y5, y6]) rfl ?_
    rw [HE1.out]
    exact NOut.err (below6 HS3.out.blw (by have := HB.out; omega) _ _ _ _ _ _)
set_option maxHeartbeats 4000000 in
theorem pnext_ok (d : De) (A : Option Addr) (n c L : Nat) (l : List Bool) (C : Option Addr) (m dd : Nat) (xs : List Int) (fin : De) (w : World) (hI : Hid (IsB w (.agg #[.slice A n c, .int .i64 (L : Int)]) l)) (hd : Hid (FineD d)) (h32 : 32 ≤ d.at_) (hat : d.at_ ≤ 65600) (ha : d.at_ ≤ L + 32) (hx : Hid (Fq.RdI w C m xs)) (hm : Hid (m ≤ maxLen)) (hok : Hid (Fq.okF xs = true)) (hfin : Hid (nxE l d xs = fin)) :
    Calls Tryz.prog 58 #[decV d.low d.high d.code A n c (L : Int) (d.at_ : Int), .agg #[.slice C m dd]] w (NOut w fin.low fin.high fin.code (fin.at_ : Int) (L : Int) (nxK d xs : Int) 0 (pack l)) := by
  obtain ⟨hn, hN, hr, hl⟩ := isB_parts hI.out
  have HOK := Lib.hid (show okD d.low d.high d.code (pack l) (L : Int) (d.at_ : Int) = true by rw [hN]; exact okD_mk hd.out hl h32 hat)
  have Lb : L ≤ 65536 := by omega
  have HR := Lib.hid hr
  have o1 := hd.out.1.1
  have o2 := hd.out.1.2
  have k1 := hd.out.2.2.1
  have k2 := hd.out.2.2.2
  clear hn hN hr hl
  have HS0 := Lib.hid (nes_start w #[.int .u32 (d.low : Int), .int .u32 (d.high : Int), .int .u32 (d.code : Int), .slice A n c, .int .i64 (L : Int), .int .i64 (d.at_ : Int)] C m dd xs hx.out)
  have hcon := fun u (hb : Below w.heap.size w u) => reopen_any d.low d.high d.code A n c (L : Int) (d.at_ : Int) (pack l) true u (by omega) (by omega) (by omega) (Lib.hid (HR.out.below hb)) HOK
  unfold decV at hcon
  have HCON := Lib.hid hcon
  clear hcon
  unfold decV
  go_enter Tryz.func58, Tryz.ntmps58
  go_wp2_with fail
  generalize ((w.alloc (.cells #[.int .u32 (d.low : Int), .int .u32 (d.high : Int), .int .u32 (d.code : Int), .slice A n c, .int .i64 (L : Int), .int .i64 (d.at_ : Int)] 68)).alloc (.cells #[.slice C m dd] 40)).alloc (.cells #[.int .u32 0, .int .u32 0, .int .u32 0, .slice none 0 0, .int .i64 0, .int .i64 0] 68) = w0 at HS0 ⊢
  obtain ⟨b, hb⟩ : ∃ b, b = w.heap.size := ⟨_, rfl⟩
  rw [← hb] at HS0 ⊢
  have HB := Lib.hid (show w.heap.size ≤ b by omega)
  clear hb
  refine (HCON.out w0 HS0.out.blw).mono ?_
  rintro e w2 (⟨-, p, rfl, hp, hP, hb2⟩ | ⟨h, -⟩)
  case inr => cases h
  have HS2 := Lib.hid (HS0.out.next hb2)
  have HP2 := Lib.hid (show RdS w2 p d A n c (L : Int) from hP)
  have HLP := Lib.hid (show b + 1 + 1 < p from Nat.lt_of_lt_of_le HS0.out.res.lt hp)
  have HAP := Lib.hid (show ∀ ad, A = some ad → 0 < n → ad.block ≠ p from fun ad ha h0 => by have := HR.out.lies h0 ad ha; have := HLP.out; have := HB.out; omega)
  have HCP := Lib.hid (show ∀ ad, C = some ad → 0 < m → ad.block ≠ p from fun ad ha h0 => by have := rdI_lt hx.out ad ha h0; have := HLP.out; have := HB.out; omega)
  clear hb2 hp hP HS0 HCON
  have x7 := Fq.blk0 HS2.out.fr
  go_wp2_with fail
  clear x7
  obtain ⟨K, hK⟩ : ∃ K, K = nxK d xs := ⟨_, rfl⟩
  refine (next_ok p d A n c L l C m dd xs w2 HP2 (Lib.hid (hI.out.below HS2.out.blw)) HAP Lb hd ha (Lib.hid HS2.out.rd) hm hok).mono ?_
  rw [← hK, hfin.out]
  have HKK := Lib.hid hK
  clear hK
  rintro e w3 ⟨rfl, hs3, hg3⟩
  have HS3 := Lib.hid (HS2.out.grown hg3 HLP.out HCP.out)
  have HP3 := Lib.hid hs3
  have HI3 := Lib.hid (isB_only (hI.out.below HS2.out.blw) hg3 HAP.out)
  clear hs3 hg3 HS2 HP2
  go_wp2_with fail
  refine (rstate_any p fin A n c L l w3 HP3 HI3).mono ?_
  rintro e w4 ⟨A4, n4, c4, rfl, hb4, hr4⟩
  have HS4 := Lib.hid (HS3.out.next hb4)
  have HR4 := Lib.hid hr4
  clear hb4 hr4 HS3 HP3 HI3
  unfold decV
  have l4 := HS4.out.res.lt
  obtain ⟨y1, y2, y3, y4, y5, y6⟩ := blk6 HS4.out.res
  obtain ⟨z1, z2, z3, z4, z5, z6⟩ := frz6 HS4.out.res
  go_wp2
  exact bodyPost_ret (v := .tuple #[decV fin.low fin.high fin.code A4 n4 c4 (L : Int) (fin.at_ : Int), .int .i64 (K : Int), .int .i64 0]) (by simp [results, Tryz.results58, go_sem, decV, y1, y2, y3, y4, y5, y6, l4]) rfl ⟨A4, n4, c4, by rw [HKK.out], below6a HS4.out.blw (by have := HB.out; omega) _ _ _ _ _ _ _, (rd_six HR4.out HS4.out.res _ _ _ _ _ _).alloc _⟩
end Go.Proofs.YtgpdgegelipboaaGreatDoor.Cd
namespace Go.Proofs.YtgpdgegelipboaaGreatDoor.Cd
open Go.RowKit
theorem DOut.err {w w' : World} {E : Int} (hb : Below w.heap.size w w') : DOut w 0 0 0 0 0 E [] (.returned (.tuple #[decV 0 0 0 none 0 0 0 0, .int .i64 E])) w' := ⟨none, 0, 0, rfl, hb, Rd.none_⟩
theorem sts_start (w : World) (A : Option Addr) (n c : Nat) (N : Int) : Blk ((w.alloc (.cells #[.slice A n c, .int .i64 N] 49)).alloc (.cells #[.int .u32 0, .int .u32 0, .int .u32 0, .slice none 0 0, .int .i64 0, .int .i64 0] 68)) (w.heap.size + 1) 68 #[.int .u32 0, .int .u32 0, .int .u32 0, .slice none 0 0, .int .i64 0, .int .i64 0] ∧ Below w.heap.size w ((w.alloc (.cells #[.slice A n c, .int .i64 N] 49)).alloc (.cells #[.int .u32 0, .int .u32 0, .int .u32 0, .slice none 0 0, .int .i64 0, .int .i64 0] 68)) :=
  ⟨Blk.newAt (by simp), ((Below.refl w.heap.size w).alloc (Nat.le_refl _) _).alloc (by simp) _⟩
theorem pstart_ok (A : Option Addr) (n c L : Nat) (l : List Bool) (w : World) (hI : Hid (IsB w (.agg #[.slice A n c, .int .i64 (L : Int)]) l)) :
    Calls Tryz.prog 53 #[.agg #[.slice A n c, .int .i64 (L : Int)]] w (DOut w 0 4294967295 (val l 32) 32 (L : Int) 0 (pack l)) := by
  have HS := Lib.hid (sts_start w A n c (L : Int))
  go_enter Tryz.func53, Tryz.ntmps53
  go_wp2_with fail
  generalize (w.alloc (.cells #[.slice A n c, .int .i64 (L : Int)] 49)).alloc (.cells #[.int .u32 0, .int .u32 0, .int .u32 0, .slice none 0 0, .int .i64 0, .int .i64 0] 68) = w0 at HS ⊢
  refine (open_ok A n c (L : Int) l w0 (Lib.hid (hI.out.below HS.out.2))).mono ?_
  rintro e w1 ⟨p, rfl, hp, hs1, hb1⟩
  have HK1 := Lib.hid (HS.out.1.below hb1 HS.out.1.lt)
  have HW1 := Lib.hid (HS.out.2.trans (hb1.mono HS.out.2.size))
  have HP1 := Lib.hid hs1
  clear hb1 hs1 hp HS
  go_wp2_with fail
  refine (rstate_any p (d0 l) A n c L l w1 HP1 (Lib.hid (hI.out.below HW1.out))).mono ?_
  rintro e w4 ⟨A4, n4, c4, rfl, hb4, hr4⟩
  have HK4 := Lib.hid (HK1.out.below hb4 HK1.out.lt)
  have HW4 := Lib.hid (HW1.out.trans (hb4.mono HW1.out.size))
  have HR4 := Lib.hid hr4
  clear hb4 hr4 HK1 HW1
  unfold decV d0
  obtain ⟨V, hV⟩ : ∃ V, V = val l 32 := ⟨_, rfl⟩
  rw [← hV]
  have HV := Lib.hid hV
  clear hV
  obtain ⟨y1, y2, y3, y4, y5, y6⟩ := blk6 HK4.out
  obtain ⟨z1, z2, z3, z4, z5, z6⟩ := frz6 HK4.out
  go_wp2
  exact bodyPost_ret (v := .tuple #[decV 0 4294967295 V A4 n4 c4 (L : Int) 32, .int .i64 0]) (by simp [results, Tryz.results53, go_sem, decV, y1, y2, y3, y4, y5, y6]) rfl ⟨A4, n4, c4, by rw [HV.out], below6 HW4.out (by omega) _ _ _ _ _ _, rd_six HR4.out HK4.out _ _ _ _ _ _⟩
end Go.Proofs.YtgpdgegelipboaaGreatDoor.Cd
namespace Go.Proofs.YtgpdgegelipboaaGreatDoor.Lp
open Go.RowKit Fx Fq Tb
open Cd (De FineD nxE nxK nxE_fine next_sym nxErr pnext_err pnext_ok decV dcC isB_parts)
open Yr (stR Stp)
theorem MV.keep {w0 w1 w : World} {L : List Ent} {g : Nat} {T : TypeId} {cs : Array Value} (h : MV w0 w1 L w) (hb : Blk w1 g T cs) (hn : ∀ e ∈ L, e.1 ≠ g) : Blk w g T cs := (h.2.2.2.2.2 g hb.lt hn).trans hb
theorem rd_no8 {w : World} {A : Option Addr} {n g : Nat} {bs : List Nat} {T : TypeId} {cs : Array Value} (hr : Rd w A n bs) (hb : Blk w g T cs) (h8 : ∀ (k : Nat) (x : Int), cs[k]? ≠ some (Value.int .u8 x)) {ad : Addr} (e : A = some ad) (hn : 0 < n) : g ≠ ad.block := by
  obtain ⟨ad', e', -, -, hc⟩ := hr.at_ (k := 0) hn
  have e2 : ad = ad' := Option.some.inj (e.symm.trans e')
  subst e2
  intro hg
  have h0 : ad.add 0 = ad := rfl
  rw [h0] at hc
  unfold Blk at hb
  unfold World.cell? at hc
  rw [← hg, hb] at hc
  cases hs : ad.spot.isSome with
  | true => simp [hs] at hc
  | false =>
    simp only [hs] at hc
    rw [if_neg Bool.false_ne_true] at hc
    exact h8 _ _ hc
theorem no8_dc (d : De) (A : Option Addr) (n c : Nat) (N : Int) : ∀ (k : Nat) (x : Int), (dcC d A n c N)[k]? ≠ some (Value.int .u8 x) := by
  intro k x h
  unfold dcC at h
  match k, h with
  | 0, h => cases h
  | 1, h => cases h
  | 2, h => cases h
  | 3, h => cases h
  | 4, h => cases h
  | 5, h => cases h
  | k + 6, h => simp at h
theorem no8_one {v : Value} (hv : ∀ x : Int, v ≠ Value.int .u8 x) : ∀ (k : Nat) (x : Int), (#[v] : Array Value)[k]? ≠ some (Value.int .u8 x) := by
  intro k x h
  match k, h with
  | 0, h => injection h with h; exact hv _ h
  | k + 1, h => simp at h
theorem no8_ic (zs : List Int) : ∀ (k : Nat) (x : Int), (icells zs)[k]? ≠ some (Value.int .u8 x) := by
  intro k x h
  unfold icells at h
  rw [List.getElem?_toArray, List.getElem?_map] at h
  obtain ⟨y, -, hy⟩ := Option.map_eq_some_iff.1 h
  injection hy with hk
  cases hk
structure RsI (w : World) (gF gR N : Nat) (TF : TypeId) (inp : List Bool) (s : De × List Int) (K : List Ent) (u : World) : Prop where
  bR : ∃ A n c, Blk u gR 96 (dcC s.1 A n c (inp.length : Int)) ∧ Rd u A n (pack inp)
  bF : Blk u gF TF (icells s.2)
  len : s.2.length = N
  fine : FineD s.1
  a32 : 32 ≤ s.1.at_
  a72 : s.1.at_ ≤ inp.length + 72
  blw : Below w.heap.size w u
  ks : ∀ e ∈ K, Blk u e.1 e.2.1 e.2.2 ∧ e.1 ≠ gF ∧ e.1 ≠ gR
structure RsG (w : World) (gF gR : Nat) : Prop where
  fr : gR ≠ gF
  wF : w.heap.size ≤ gF
  wR : w.heap.size ≤ gR
section
variable {w u u' : World} {gF gR N : Nat} {TF : TypeId} {inp : List Bool} {s : De × List Int} {K : List Ent}
theorem RsI.add (h : RsI w gF gR N TF inp s K u) (hb : Below u.heap.size u u') {L : List Ent} (hL : ∀ e ∈ L, u.heap.size ≤ e.1 ∧ Blk u' e.1 e.2.1 e.2.2) : RsI w gF gR N TF inp s (L ++ K) u' := by
  obtain ⟨A, n, c, h1, h2⟩ := h.bR
  refine ⟨⟨A, n, c, h1.below hb h1.lt, h2.below hb⟩, h.bF.below hb h.bF.lt, h.len, h.fine, h.a32, h.a72, h.blw.trans (hb.mono h.blw.size), fun e he => ?_⟩
  rcases List.mem_append.1 he with he | he
  · obtain ⟨h3, h4⟩ := hL e he
    have l1 := h1.lt
    have l2 := h.bF.lt
    exact ⟨h4, by omega, by omega⟩
  · obtain ⟨k1, k2⟩ := h.ks e he
    exact ⟨k1.below hb k1.lt, k2⟩
theorem RsI.mv (h : RsI w gF gR N TF inp s K u) (G : RsG w gF gR) {A : Option Addr} {n c : Nat} (h1 : Blk u gR 96 (dcC s.1 A n c (inp.length : Int))) : MV w u [(gR, 96, dcC s.1 A n c (inp.length : Int)), (gF, TF, icells s.2)] u := by
  refine ⟨h.blw, fun e he => ?_, fun e he => ?_, .cons (fun e he => ?_) (.cons (fun e he => absurd he (by simp)) .nil), MF.refl _ _⟩
  · rcases List.mem_cons.1 he with rfl | he
    · exact h1
    · rw [List.mem_singleton] at he; subst he; exact h.bF
  · rcases List.mem_cons.1 he with rfl | he
    · exact G.wR
    · rw [List.mem_singleton] at he; subst he; exact G.wF
  · rw [List.mem_singleton] at he; subst he; exact G.fr
end
theorem isB_mk {w : World} {A : Option Addr} {n c L : Nat} {l : List Bool} (hr : Rd w A n (pack l)) (hl : l.length = L) (hL : L ≤ 65536) : IsB w (.agg #[.slice A n c, .int .i64 (L : Int)]) l := by
  subst hl
  exact ⟨A, c, by rw [hr.1], by rw [hr.1]; exact hr, hL⟩
def NxQ (w : World) (D : De) (N Kv Ev : Int) (bs : List Nat) (e : Ending) (w' : World) : Prop :=
  ∃ A n c, e = .returned (.tuple #[.agg (dcC D A n c N), .int .i64 Kv, .int .i64 Ev]) ∧ Below w.heap.size w w' ∧ Rd w' A n bs
structure NxG (d : De) (inp : List Bool) (LL : Int) (xs : List Int) (D : De) (N Kv Ev : Int) (bs : List Nat) : Prop where
  call : ∀ (A : Option Addr) (n c gt m : Nat) (w : World), Rd w A n (pack inp) → RdI w (some ⟨gt, 0, none⟩) m xs → m ≤ 300 → Calls Tryz.prog 58 #[.agg (dcC d A n c LL), .agg #[.slice (some ⟨gt, 0, none⟩) m m]] w (NxQ w D N Kv Ev bs)
theorem nx_no {d : De} {inp : List Bool} {xs : List Int} (hL : inp.length ≤ 60000) (hd : FineD d) (h32 : 32 ≤ d.at_) (h72 : d.at_ ≤ inp.length + 72) (ho : okF xs = true) (ha : ¬ d.at_ ≤ inp.length + 32) : NxG d inp (inp.length : Int) xs ⟨0, 0, 0, 0⟩ 0 0 20 [] :=
  ⟨fun A n c gt m w hr hx hm => (pnext_err d A n c inp.length inp (some ⟨gt, 0, none⟩) m m xs 20 w (Lib.hid (isB_mk hr rfl (by omega))) (Lib.hid hd) h32 (by omega) (Lib.hid hx) (Lib.hid (by unfold maxLen; omega)) (Lib.hid (by unfold nxErr; rw [if_pos ho, if_pos (by omega)])) (by decide)).mono fun e w' ⟨A', n', c', h1, h2, h3⟩ => ⟨A', n', c', h1, h2, h3⟩⟩
theorem nx_yes {d : De} {inp : List Bool} {xs : List Int} (hL : inp.length ≤ 60000) (hd : FineD d) (h32 : 32 ≤ d.at_) (ho : okF xs = true) (ha : d.at_ ≤ inp.length + 32) : NxG d inp (inp.length : Int) xs (nxE inp d xs) (inp.length : Int) (nxK d xs : Int) 0 (pack inp) :=
  ⟨fun A n c gt m w hr hx hm => (pnext_ok d A n c inp.length inp (some ⟨gt, 0, none⟩) m m xs (nxE inp d xs) w (Lib.hid (isB_mk hr rfl (by omega))) (Lib.hid hd) h32 (by omega) ha (Lib.hid hx) (Lib.hid (by unfold maxLen; omega)) (Lib.hid ho) (Lib.hid rfl)).mono fun e w' ⟨A', n', c', h1, h2, h3⟩ => ⟨A', n', c', h1, h2, h3⟩⟩
def AptK (KK : List Ent) (gs : List Nat) : Prop := ∀ e ∈ KK, ∀ g ∈ gs, g ≠ e.1
theorem AptK.cons {KK : List Ent} {gs : List Nat} {g : Nat} (h : AptK KK gs) (hg : ∀ e ∈ KK, e.1 < g) : AptK KK (g :: gs) := fun e he x hx => by
  rcases List.mem_cons.1 hx with rfl | hx
  · exact Nat.ne_of_gt (hg e he)
  · exact h e he x hx
def KIn (KK : List Ent) (u : World) : Prop := ∀ e ∈ KK, Blk u e.1 e.2.1 e.2.2
theorem MV.keepK {w0 w1 w : World} {L KK : List Ent} (h : MV w0 w1 L w) (hk : KIn KK w1) (hn : AptK KK (L.map (·.1))) : KIn KK w := fun e he =>
  h.keep (hk e he) fun x hx => hn e he _ (List.mem_map.2 ⟨x, hx, rfl⟩)
def No8 (cs : Array Value) : Prop := ∀ (k : Nat) (x : Int), cs[k]? ≠ some (Value.int .u8 x)
theorem apt8 {w : World} {A : Option Addr} {n g : Nat} {bs : List Nat} {T : TypeId} {cs : Array Value} {gs : List Nat} (hr : Rd w A n bs) (hb : Blk w g T cs) (h8 : No8 cs) (h : Apt A n gs) : Apt A n (g :: gs) := fun ad e hn x hx => by
  rcases List.mem_cons.1 hx with rfl | hx
  · exact rd_no8 hr hb h8 e hn
  · exact h ad e hn x hx
theorem apt0 (A : Option Addr) (n : Nat) : Apt A n [] := fun ad e hn x hx => absurd hx (by simp)
@[simp] theorem dcC_oneE (D : De) (A : Option Addr) (n c : Nat) (N : Int) : (dcC D A n c N).all (·.oneCell') = true := by simp [dcC, Value.oneCell']
theorem dec8 (d : De) (A : Option Addr) (n c : Nat) (N : Int) : No8 (dcC d A n c N) := no8_dc d A n c N
theorem ints8 (zs : List Int) : No8 (icells zs) := no8_ic zs
theorem sl8 (A : Option Addr) (n c : Nat) : No8 #[.slice A n c] := no8_one (fun x h => by cases h)
theorem zer8 : No8 #[.int .u32 0, .int .u32 0, .int .u32 0, .slice none 0 0, .int .i64 0, .int .i64 0] := no8_dc ⟨0, 0, 0, 0⟩ none 0 0 0
theorem widD_at (l : List Bool) : ∀ (n : Nat) (d : De), d.at_ ≤ (Cd.widD n l d).at_
  | 0, d => Nat.le_refl _
  | n + 1, d => by
    rw [Cd.widD]
    split
    · exact Nat.le_refl _
    · exact Nat.le_trans (Nat.le_succ _) (widD_at l n (Cd.stepD l d))
theorem nxE_ge {l : List Bool} {d : De} {xs : List Int} {m : Nat} (h : m ≤ d.at_) : m ≤ (nxE l d xs).at_ := by
  have h2 := widD_at l 40 (Cd.narD d (Cd.spA (Cd.nxQ d xs)) (Cd.spB (Cd.nxQ d xs)) (Cd.spT xs))
  exact Nat.le_trans h h2
set_option maxHeartbeats 4000000 in
theorem next_no {w : World} {gF gR N : Nat} {TF : TypeId} {inp : List Bool} {d : De} {F : List Int} {KK : List Ent} {u : World} {gt n i : Nat} {xs : List Int} {fst : Int} (G : Hid (RsG w gF gR)) (hL : inp.length ≤ 60000) (h : RsI w gF gR N TF inp (d, F) KK u)
    (hin : (gt, 3, icells xs) ∈ KK) (hn : xs.length = n) (hok : okF xs = true) (hl : n ≤ 300) (ha : ¬ d.at_ ≤ inp.length + 32) :
    Calls Tryz.prog 30 #[.pointer (some ⟨gR, 0, none⟩), .agg #[.slice (some ⟨gt, 0, none⟩) n n], .pointer (some ⟨gF, i, none⟩), .int .i64 fst] u (fun e u' => e = .returned (.int .i64 21) ∧ Below w.heap.size w u') := by
  obtain ⟨A, na, c, h1, h2⟩ := h.bR
  have HM := Lib.hid (h.mv G.out h1)
  have HR2 := Lib.hid h2
  have HAP0 := Lib.hid (show Apt A na [gR, gF] from fun ad e hn g hg => by
    rcases List.mem_cons.1 hg with rfl | hg
    · exact rd_no8 h2 h1 (no8_dc _ _ _ _ _) e hn
    · rw [List.mem_singleton] at hg
      subst hg
      exact rd_no8 h2 h.bF (no8_ic _) e hn)
  have HKI := Lib.hid (show KIn KK u from fun e he => (h.ks e he).1)
  have HAK0 := Lib.hid (show AptK KK [gR, gF] from fun e he g hg => by
    obtain ⟨-, k2, k3⟩ := h.ks e he
    rcases List.mem_cons.1 hg with rfl | hg
    · exact k3.symm
    · rw [List.mem_singleton] at hg
      subst hg
      exact k2.symm)
  have HAL := Lib.hid (rd_lt h2)
  have HKN := Lib.hid (show ∀ e ∈ KK, e.1 ≠ gF ∧ e.1 ≠ gR from fun e he => (h.ks e he).2)
  have hx := h.a72
  have hy := h.a32
  have HD := Lib.hid h.fine
  have HLF := Lib.hid h.len
  dsimp only at HM hx hy HD HLF
  have HIN := Lib.hid hin
  have HNN := Lib.hid hn
  have HNG := Lib.hid (nx_no hL HD.out hy hx hok ha)
  clear h h1 h2 hin hn hok ha
  generalize (inp.length : Int) = LL at HM HNG
  go_enter Tryz.func30, Tryz.ntmps30
  go_wp2_with (first | ((first | refine wv_box rfl _ _ rfl rfl HM ?_ | refine wv_alloc rfl _ rfl (by exact rowOf) HM ?_); first | (have q:dV HM = 0:=rfl;clear q HM;intro g1 u1 HG1 HM) | (have q:dV HM = 1:=rfl;clear q HM;intro g2 u2 HG2 HM) | (have q:dV HM = 2:=rfl;clear q HM;intro g3 u3 HG3 HM) | (have q:dV HM = 3:=rfl;clear q HM;intro g4 u4 HG4 HM) | (have q:dV HM = 4:=rfl;clear q HM;intro g5 u5 HG5 HM) | (have q:dV HM = 5:=rfl;clear q HM;intro g6 u6 HG6 HM) | (have q:dV HM = 6:=rfl;clear q HM;intro g7 u7 HG7 HM) | (have q:dV HM = 7:=rfl;clear q HM;intro g8 u8 HG8 HM) | (have q:dV HM = 8:=rfl;clear q HM;intro g9 u9 HG9 HM) | (have q:dV HM = 9:=rfl;clear q HM;intro g10 u10 HG10 HM) | (have q:dV HM = 10:=rfl;clear q HM;intro g11 u11 HG11 HM) | (have q:dV HM = 11:=rfl;clear q HM;intro g12 u12 HG12 HM) | (have q:dV HM = 12:=rfl;clear q HM;intro g13 u13 HG13 HM) | (have q:dV HM = 13:=rfl;clear q HM;intro g14 u14 HG14 HM)) | (refine wv_load rfl _ _ rfl rfl (by exact rowOf) HM (by exact vmemOf) (by exact vsizOf) ?_) | (refine wv_store rfl _ _ _ rfl rfl rfl (by exact rowOf) HM (by exact vidxOf) (by exact vsizOf) (by exact vsizOf) (by exact voneOf) ?_; clear HM; intro us HM; dsimp only [List.set] at HM) | (refine wl_zero rfl _ rfl (by exact arrOf) (by kernel_rfl) ?_))
  have HAP := Lib.hid (show Apt A na [g3, gR, gF] from Apt.cons HAP0.out HAL.out HG3.out)
  have HAK := Lib.hid (show AptK KK [g3, gR, gF] from HAK0.out.cons fun e he => Nat.lt_of_lt_of_le (HKI.out e he).lt HG3.out)
  clear HAP0 HAK0
  refine wp_region_held_drew (S := fun y => Blk y gR 96 (dcC d A na c LL) ∧ Blk y g3 40 #[.slice (some ⟨gt, 0, none⟩) n n]) (by kernel_rfl) ⟨HM.out.drew.get (by exact vmemOf), HM.out.drew.get (by exact vmemOf)⟩ (fun hHeld => ?_)
  have HMd := Lib.hid HM.out.drew
  clear HM
  have HM := HMd
  clear HMd
  generalize World.drew _ = wd at HM hHeld ⊢
  (refine wa_take (i := 0) (v := .pointer (some ⟨gR, 0, none⟩)) rfl (by kernel_rfl) (by kernel_rfl) (by kernel_rfl) (fun _ _ _ h => h) (yi_free rfl (fun u => rfl)) hHeld rfl ?_; (try simp only [Act.put, qz1, qz2, qz3]))
  (refine wa_take (i := 1) (v := .pointer (some ⟨gR, 0, none⟩)) rfl (by kernel_rfl) (by kernel_rfl) (by kernel_rfl) (fun _ _ _ h => h) (yi_free rfl (fun u => rfl)) hHeld rfl ?_; (try simp only [Act.put, qz1, qz2, qz3]))
  (refine wa_take (i := 2) (v := .pointer (some ⟨gR, 0, none⟩)) rfl (by kernel_rfl) (by kernel_rfl) (by kernel_rfl) (fun _ _ _ h => h) (yi_free rfl (fun u => by go_simp)) hHeld rfl ?_; (try simp only [Act.put, qz1, qz2, qz3]))
  (refine wa_take (i := 3) rfl (by kernel_rfl) (by kernel_rfl) (by kernel_rfl) (fun _ _ _ h => h) (yv_load rfl _ _ rfl rfl (fun u hu => run_load_blk rowDec hu.1 rfl)) hHeld rfl ?_; (try simp only [Act.put, qz1, qz2, qz3]))
  (refine wa_take (i := 4) rfl (by kernel_rfl) (by kernel_rfl) (by kernel_rfl) (fun _ _ _ h => h) (yv_load rfl _ _ rfl rfl (fun u hu => run_load_blk rowFreq hu.2 rfl)) hHeld rfl ?_; (try simp only [Act.put, qz1, qz2, qz3]))
  refine wpAnyH_ready (rs := [5, 10]) (by kernel_rfl) (by simp) ?_; refine AllReadyH.cons rfl (fun K hK => ?_) (AllReadyH.cons rfl (fun K hK => ?_) (AllReadyH.nil))
  rotate_left
  focus
    rw [if_pos (by rfl)]
    refine ov_alloc _ rfl rfl (by exact rowOf) HM ?_
    intro g8 w5 HM5 HW5 HG8
    have HG8u := Lib.hid (Nat.le_trans HM.out.2.2.2.2.1 HG8.out)
    have HAP2 := Lib.hid (show Apt A na [g8, g3, gR, gF] from Apt.cons HAP.out HAL.out HG8u.out)
    have HAK2 := Lib.hid (show AptK KK [g8, g3, gR, gF] from HAK.out.cons fun e he => Nat.lt_of_lt_of_le (HKI.out e he).lt HG8u.out)
    clear HAP HAK HG8u
    have HAP := HAP2
    have HAK := HAK2
    clear HAP2 HAK2
    clear HM hHeld HW5
    have HM := HM5
    clear HM5
    refine hK.out _ _ ⟨HM.out.get (by exact vmemOf), HM.out.get (by exact vmemOf)⟩ (fun hHeld => ?_)
    clear hK K
    (try simp only [Act.put, qz1, qz2, qz3])
    refine wpAnyH_ready (rs := [5]) (by kernel_rfl) (by simp) ?_; refine AllReadyH.cons rfl (fun K hK => ?_) (AllReadyH.nil)
    have HRy := Lib.hid (HM.out.rdA HR2.out HAP.out)
    have HXy := Lib.hid (rdI_blkE (HM.out.keepK HKI.out HAK.out _ HIN.out))
    rw [HNN.out] at HXy
    rw [if_pos (by rfl)]; go_simp
    refine (HNG.out.call A na c gt n _ HRy.out HXy.out hl).mono ?_
    rintro e w4 ⟨A4, n4, c4, rfl, hb4, hr4⟩
    have HM4 := Lib.hid (HM.out.below hb4)
    have HK4 := Lib.hid (HM4.out.keepK HKI.out HAK.out)
    have HR4 := Lib.hid hr4
    have HA4 := Lib.hid (show Apt A4 n4 [g8, g3, gR, gF] from apt8 hr4 (HM4.out.get (by exact vmemOf (e := (g8, 68, #[.int .u32 0, .int .u32 0, .int .u32 0, .slice none 0 0, .int .i64 0, .int .i64 0])))) zer8 (apt8 hr4 (HM4.out.get (by exact vmemOf (e := (g3, 40, #[.slice (some ⟨gt, 0, none⟩) n n])))) (sl8 _ _ _) (apt8 hr4 (HM4.out.get (by exact vmemOf (e := (gR, 96, dcC d A na c LL)))) (dec8 _ _ _ _ _) (apt8 hr4 (HM4.out.get (by exact vmemOf (e := (gF, TF, icells F)))) (ints8 _) (apt0 _ _)))))
    have HMB := Lib.hid HM4.out.base
    clear HM hb4 hr4 HRy HXy hHeld HM4
    have HM := HMB
    clear HMB
    go_wp2_with fail
    refine hK.out _ _ ⟨HM.out.get (by exact vmemOf), HM.out.get (by exact vmemOf)⟩ (fun hHeld => ?_)
    clear hK K
    (try simp only [Act.put, qz1, qz2, qz3])
    (refine wa_take (i := 6) (v := .tuple #[.agg (dcC ⟨0, 0, 0, 0⟩ A4 n4 c4 0), .int .i64 0, .int .i64 20]) rfl (by kernel_rfl) (by kernel_rfl) (by kernel_rfl) (fun _ _ _ h => h) (yi_free rfl (fun u => rfl)) hHeld rfl ?_; (try simp only [Act.put, qz1, qz2, qz3]))
    (refine wa_take (i := 7) (v := .agg (dcC ⟨0, 0, 0, 0⟩ A4 n4 c4 0)) rfl (by kernel_rfl) (by kernel_rfl) (by kernel_rfl) (fun _ _ _ h => h) (yi_free rfl (fun u => rfl)) hHeld rfl ?_; (try simp only [Act.put, qz1, qz2, qz3]))
    (refine wa_take (i := 8) (v := .int .i64 0) rfl (by kernel_rfl) (by kernel_rfl) (by kernel_rfl) (fun _ _ _ h => h) (yi_free rfl (fun u => rfl)) hHeld rfl ?_; (try simp only [Act.put, qz1, qz2, qz3]))
    (refine wa_take (i := 9) (v := .int .i64 20) rfl (by kernel_rfl) (by kernel_rfl) (by kernel_rfl) (fun _ _ _ h => h) (yi_free rfl (fun u => rfl)) hHeld rfl ?_; (try simp only [Act.put, qz1, qz2, qz3]))
  rotate_left
  focus
    have HRy := Lib.hid (HM.out.rdA HR2.out HAP.out)
    have HXy := Lib.hid (rdI_blkE (HM.out.keepK HKI.out HAK.out _ HIN.out))
    rw [HNN.out] at HXy
    rw [if_pos (by rfl)]; go_simp
    refine (HNG.out.call A na c gt n _ HRy.out HXy.out hl).mono ?_
    rintro e w4 ⟨A4, n4, c4, rfl, hb4, hr4⟩
    have HM4 := Lib.hid (HM.out.below hb4)
    have HK4 := Lib.hid (HM4.out.keepK HKI.out HAK.out)
    have HR4 := Lib.hid hr4
    have HA4 := Lib.hid (show Apt A4 n4 [g3, gR, gF] from apt8 hr4 (HM4.out.get (by exact vmemOf (e := (g3, 40, #[.slice (some ⟨gt, 0, none⟩) n n])))) (sl8 _ _ _) (apt8 hr4 (HM4.out.get (by exact vmemOf (e := (gR, 96, dcC d A na c LL)))) (dec8 _ _ _ _ _) (apt8 hr4 (HM4.out.get (by exact vmemOf (e := (gF, TF, icells F)))) (ints8 _) (apt0 _ _))))
    have HMB := Lib.hid HM4.out.base
    clear HM hb4 hr4 HRy HXy hHeld HM4
    have HM := HMB
    clear HMB
    go_wp2_with fail
    refine hK.out _ _ ⟨HM.out.get (by exact vmemOf), HM.out.get (by exact vmemOf)⟩ (fun hHeld => ?_)
    clear hK K
    (try simp only [Act.put, qz1, qz2, qz3])
    (refine wa_take (i := 6) (v := .tuple #[.agg (dcC ⟨0, 0, 0, 0⟩ A4 n4 c4 0), .int .i64 0, .int .i64 20]) rfl (by kernel_rfl) (by kernel_rfl) (by kernel_rfl) (fun _ _ _ h => h) (yi_free rfl (fun u => rfl)) hHeld rfl ?_; (try simp only [Act.put, qz1, qz2, qz3]))
    (refine wa_take (i := 7) (v := .agg (dcC ⟨0, 0, 0, 0⟩ A4 n4 c4 0)) rfl (by kernel_rfl) (by kernel_rfl) (by kernel_rfl) (fun _ _ _ h => h) (yi_free rfl (fun u => rfl)) hHeld rfl ?_; (try simp only [Act.put, qz1, qz2, qz3]))
    (refine wa_take (i := 8) (v := .int .i64 0) rfl (by kernel_rfl) (by kernel_rfl) (by kernel_rfl) (fun _ _ _ h => h) (yi_free rfl (fun u => rfl)) hHeld rfl ?_; (try simp only [Act.put, qz1, qz2, qz3]))
    (refine wa_take (i := 9) (v := .int .i64 20) rfl (by kernel_rfl) (by kernel_rfl) (by kernel_rfl) (fun _ _ _ h => h) (yi_free rfl (fun u => rfl)) hHeld rfl ?_; (try simp only [Act.put, qz1, qz2, qz3]))
    refine wpAnyH_ready (rs := [10]) (by kernel_rfl) (by simp) ?_; refine AllReadyH.cons rfl (fun K hK => ?_) (AllReadyH.nil)
    rw [if_pos (by rfl)]
    refine ov_alloc _ rfl rfl (by exact rowOf) HM ?_
    intro g8 w5 HM5 HW5 HG8
    have HA5 := Lib.hid (show Apt A4 n4 [g8, g3, gR, gF] from Apt.cons HA4.out (rd_lt HR4.out) HG8.out)
    have HAK2 := Lib.hid (show AptK KK [g8, g3, gR, gF] from HAK.out.cons fun e he => Nat.lt_of_lt_of_le (HK4.out e he).lt HG8.out)
    clear HA4 HAK
    have HA4 := HA5
    have HAK := HAK2
    clear HA5 HAK2
    clear HM hHeld HW5
    have HM := HM5
    clear HM5
    refine hK.out _ _ ⟨HM.out.get (by exact vmemOf), HM.out.get (by exact vmemOf)⟩ (fun hHeld => ?_)
    clear hK K
    (try simp only [Act.put, qz1, qz2, qz3])
  all_goals
    refine wpAnyH_ready (rs := [11]) (by kernel_rfl) (by simp) ?_; refine AllReadyH.cons rfl (fun K hK => ?_) (AllReadyH.nil)
    rw [if_pos (by rfl)]; refine ov_store _ _ _ rfl rfl rfl (by exact rowOf) HM (by exact vidxOf) (by exact vsizOf) (by exact vsizOf) (by exact voneOf) rfl ?_; clear HM; intro us HM; dsimp only [List.set] at HM
    refine hK.out _ _ ⟨HM.out.get (by exact vmemOf), HM.out.get (by exact vmemOf)⟩ (fun hHeld => ?_)
    clear hK K
    (try simp only [Act.put, qz1, qz2, qz3])
    (refine wa_take (i := 12) (v := .int .i64 0) rfl (by kernel_rfl) (by kernel_rfl) (by kernel_rfl) (fun _ _ _ h => h) (yi_free rfl (fun u => rfl)) hHeld rfl ?_; (try simp only [Act.put, qz1, qz2, qz3]))
    (refine wa_take (i := 13) (v := .int .i64 20) rfl (by kernel_rfl) (by kernel_rfl) (by kernel_rfl) (fun _ _ _ h => h) (yi_free rfl (fun u => rfl)) hHeld rfl ?_; (try simp only [Act.put, qz1, qz2, qz3]))
    refine wpAnyH_done (by kernel_rfl) ?_ _
    clear hHeld HA4 HR4 HK4 HAK
    go_wp2
    go_ret
    exact ⟨rfl, HM.out.1⟩
set_option maxHeartbeats 4000000 in
theorem next_yes {w : World} {gF gR N : Nat} {TF : TypeId} {inp : List Bool} {d : De} {F : List Int} {KK : List Ent} {u : World} {gt n i : Nat} {xs : List Int} {fst : Int} (G : Hid (RsG w gF gR)) (hL : inp.length ≤ 60000) (h : RsI w gF gR N TF inp (d, F) KK u)
    (hin : (gt, 3, icells xs) ∈ KK) (hn : xs.length = n) (hok : okF xs = true) (hl : n ≤ 300) (ha : d.at_ ≤ inp.length + 32) (hi : i < N) (h1 : -1000 ≤ fst) (h2 : fst ≤ 1000) :
    Calls Tryz.prog 30 #[.pointer (some ⟨gR, 0, none⟩), .agg #[.slice (some ⟨gt, 0, none⟩) n n], .pointer (some ⟨gF, i, none⟩), .int .i64 fst] u (fun e u' => e = .returned (.int .i64 0) ∧ RsI w gF gR N TF inp (nxE inp d xs, F.set i (fst + (nxK d xs : Int))) KK u') := by
  obtain ⟨A, na, c, h1, h2⟩ := h.bR
  have HM := Lib.hid (h.mv G.out h1)
  have HR2 := Lib.hid h2
  have HAP0 := Lib.hid (show Apt A na [gR, gF] from fun ad e hn g hg => by
    rcases List.mem_cons.1 hg with rfl | hg
    · exact rd_no8 h2 h1 (no8_dc _ _ _ _ _) e hn
    · rw [List.mem_singleton] at hg
      subst hg
      exact rd_no8 h2 h.bF (no8_ic _) e hn)
  have HKI := Lib.hid (show KIn KK u from fun e he => (h.ks e he).1)
  have HAK0 := Lib.hid (show AptK KK [gR, gF] from fun e he g hg => by
    obtain ⟨-, k2, k3⟩ := h.ks e he
    rcases List.mem_cons.1 hg with rfl | hg
    · exact k3.symm
    · rw [List.mem_singleton] at hg
      subst hg
      exact k2.symm)
  have HAL := Lib.hid (rd_lt h2)
  have HKN := Lib.hid (show ∀ e ∈ KK, e.1 ≠ gF ∧ e.1 ≠ gR from fun e he => (h.ks e he).2)
  have hx := h.a72
  have hy := h.a32
  have HD := Lib.hid h.fine
  have HLF := Lib.hid h.len
  dsimp only at HM hx hy HD HLF
  have HIN := Lib.hid hin
  have HNN := Lib.hid hn
  have HNG := Lib.hid (nx_yes hL HD.out hy hok ha)
  have hfin := nxE_fine (l := inp) HD.out hok
  have HFI := Lib.hid hfin.1
  have HAT := Lib.hid (show 32 ≤ (nxE inp d xs).at_ ∧ (nxE inp d xs).at_ ≤ inp.length + 72 from ⟨nxE_ge hy, by have := hfin.2; omega⟩)
  have hkb := (next_sym HD.out hok).2.2.2.2
  obtain ⟨Kv, hKv⟩ : ∃ Kv : Int, Kv = (nxK d xs : Int) := ⟨_, rfl⟩
  have k1 : 0 ≤ Kv := by omega
  have k2 : Kv ≤ 300 := by omega
  rw [← hKv] at HNG ⊢
  clear hkb hKv
  generalize nxE inp d xs = D at HNG HFI HAT ⊢
  have w1 : IntKind.i64.wrap (fst + Kv) = fst + Kv := i64_w (by omega) (by omega)
  have HLT := Lib.hid (show i < F.length by rw [HLF.out]; exact hi)
  clear h h1 h2 hin hn hok ha hfin
  obtain ⟨LL, hLL⟩ : ∃ LL, LL = (inp.length : Int) := ⟨_, rfl⟩
  have HLL := Lib.hid hLL
  rw [← hLL] at HM HNG
  clear hLL
  go_enter Tryz.func30, Tryz.ntmps30
  go_wp2_with (first | ((first | refine wv_box rfl _ _ rfl rfl HM ?_ | refine wv_alloc rfl _ rfl (by exact rowOf) HM ?_); first | (have q:dV HM = 0:=rfl;clear q HM;intro g1 u1 HG1 HM) | (have q:dV HM = 1:=rfl;clear q HM;intro g2 u2 HG2 HM) | (have q:dV HM = 2:=rfl;clear q HM;intro g3 u3 HG3 HM) | (have q:dV HM = 3:=rfl;clear q HM;intro g4 u4 HG4 HM) | (have q:dV HM = 4:=rfl;clear q HM;intro g5 u5 HG5 HM) | (have q:dV HM = 5:=rfl;clear q HM;intro g6 u6 HG6 HM) | (have q:dV HM = 6:=rfl;clear q HM;intro g7 u7 HG7 HM) | (have q:dV HM = 7:=rfl;clear q HM;intro g8 u8 HG8 HM) | (have q:dV HM = 8:=rfl;clear q HM;intro g9 u9 HG9 HM) | (have q:dV HM = 9:=rfl;clear q HM;intro g10 u10 HG10 HM) | (have q:dV HM = 10:=rfl;clear q HM;intro g11 u11 HG11 HM) | (have q:dV HM = 11:=rfl;clear q HM;intro g12 u12 HG12 HM) | (have q:dV HM = 12:=rfl;clear q HM;intro g13 u13 HG13 HM) | (have q:dV HM = 13:=rfl;clear q HM;intro g14 u14 HG14 HM)) | (refine wv_load rfl _ _ rfl rfl (by exact rowOf) HM (by exact vmemOf) (by exact vsizOf) ?_) | (refine wv_store rfl _ _ _ rfl rfl rfl (by exact rowOf) HM (by exact vidxOf) (by exact vsizOf) (by exact vsizOf) (by exact voneOf) ?_; clear HM; intro us HM; dsimp only [List.set] at HM) | (refine wl_zero rfl _ rfl (by exact arrOf) (by kernel_rfl) ?_))
  have HAP := Lib.hid (show Apt A na [g3, gR, gF] from Apt.cons HAP0.out HAL.out HG3.out)
  have HAK := Lib.hid (show AptK KK [g3, gR, gF] from HAK0.out.cons fun e he => Nat.lt_of_lt_of_le (HKI.out e he).lt HG3.out)
  clear HAP0 HAK0
  refine wp_region_held_drew (S := fun y => Blk y gR 96 (dcC d A na c LL) ∧ Blk y g3 40 #[.slice (some ⟨gt, 0, none⟩) n n]) (by kernel_rfl) ⟨HM.out.drew.get (by exact vmemOf), HM.out.drew.get (by exact vmemOf)⟩ (fun hHeld => ?_)
  have HMd := Lib.hid HM.out.drew
  clear HM
  have HM := HMd
  clear HMd
  generalize World.drew _ = wd at HM hHeld ⊢
  (refine wa_take (i := 0) (v := .pointer (some ⟨gR, 0, none⟩)) rfl (by kernel_rfl) (by kernel_rfl) (by kernel_rfl) (fun _ _ _ h => h) (yi_free rfl (fun u => rfl)) hHeld rfl ?_; (try simp only [Act.put, qz1, qz2, qz3]))
  (refine wa_take (i := 1) (v := .pointer (some ⟨gR, 0, none⟩)) rfl (by kernel_rfl) (by kernel_rfl) (by kernel_rfl) (fun _ _ _ h => h) (yi_free rfl (fun u => rfl)) hHeld rfl ?_; (try simp only [Act.put, qz1, qz2, qz3]))
  (refine wa_take (i := 2) (v := .pointer (some ⟨gR, 0, none⟩)) rfl (by kernel_rfl) (by kernel_rfl) (by kernel_rfl) (fun _ _ _ h => h) (yi_free rfl (fun u => by go_simp)) hHeld rfl ?_; (try simp only [Act.put, qz1, qz2, qz3]))
  (refine wa_take (i := 3) rfl (by kernel_rfl) (by kernel_rfl) (by kernel_rfl) (fun _ _ _ h => h) (yv_load rfl _ _ rfl rfl (fun u hu => run_load_blk rowDec hu.1 rfl)) hHeld rfl ?_; (try simp only [Act.put, qz1, qz2, qz3]))
  (refine wa_take (i := 4) rfl (by kernel_rfl) (by kernel_rfl) (by kernel_rfl) (fun _ _ _ h => h) (yv_load rfl _ _ rfl rfl (fun u hu => run_load_blk rowFreq hu.2 rfl)) hHeld rfl ?_; (try simp only [Act.put, qz1, qz2, qz3]))
  refine wpAnyH_ready (rs := [5, 10]) (by kernel_rfl) (by simp) ?_; refine AllReadyH.cons rfl (fun K hK => ?_) (AllReadyH.cons rfl (fun K hK => ?_) (AllReadyH.nil))
  rotate_left
  focus
    rw [if_pos (by rfl)]
    refine ov_alloc _ rfl rfl (by exact rowOf) HM ?_
    intro g8 w5 HM5 HW5 HG8
    have HG8u := Lib.hid (Nat.le_trans HM.out.2.2.2.2.1 HG8.out)
    have HAP2 := Lib.hid (show Apt A na [g8, g3, gR, gF] from Apt.cons HAP.out HAL.out HG8u.out)
    have HAK2 := Lib.hid (show AptK KK [g8, g3, gR, gF] from HAK.out.cons fun e he => Nat.lt_of_lt_of_le (HKI.out e he).lt HG8u.out)
    clear HAP HAK HG8u
    have HAP := HAP2
    have HAK := HAK2
    clear HAP2 HAK2
    clear HM hHeld HW5
    have HM := HM5
    clear HM5
    refine hK.out _ _ ⟨HM.out.get (by exact vmemOf), HM.out.get (by exact vmemOf)⟩ (fun hHeld => ?_)
    clear hK K
    (try simp only [Act.put, qz1, qz2, qz3])
    refine wpAnyH_ready (rs := [5]) (by kernel_rfl) (by simp) ?_; refine AllReadyH.cons rfl (fun K hK => ?_) (AllReadyH.nil)
    have HRy := Lib.hid (HM.out.rdA HR2.out HAP.out)
    have HXy := Lib.hid (rdI_blkE (HM.out.keepK HKI.out HAK.out _ HIN.out))
    rw [HNN.out] at HXy
    rw [if_pos (by rfl)]; go_simp
    refine (HNG.out.call A na c gt n _ HRy.out HXy.out hl).mono ?_
    rintro e w4 ⟨A4, n4, c4, rfl, hb4, hr4⟩
    have HM4 := Lib.hid (HM.out.below hb4)
    have HK4 := Lib.hid (HM4.out.keepK HKI.out HAK.out)
    have HR4 := Lib.hid hr4
    have HA4 := Lib.hid (show Apt A4 n4 [g8, g3, gR, gF] from apt8 hr4 (HM4.out.get (by exact vmemOf (e := (g8, 68, #[.int .u32 0, .int .u32 0, .int .u32 0, .slice none 0 0, .int .i64 0, .int .i64 0])))) zer8 (apt8 hr4 (HM4.out.get (by exact vmemOf (e := (g3, 40, #[.slice (some ⟨gt, 0, none⟩) n n])))) (sl8 _ _ _) (apt8 hr4 (HM4.out.get (by exact vmemOf (e := (gR, 96, dcC d A na c LL)))) (dec8 _ _ _ _ _) (apt8 hr4 (HM4.out.get (by exact vmemOf (e := (gF, TF, icells F)))) (ints8 _) (apt0 _ _)))))
    have HMB := Lib.hid HM4.out.base
    clear HM hb4 hr4 HRy HXy hHeld HM4
    have HM := HMB
    clear HMB
    go_wp2_with fail
    refine hK.out _ _ ⟨HM.out.get (by exact vmemOf), HM.out.get (by exact vmemOf)⟩ (fun hHeld => ?_)
    clear hK K
    (try simp only [Act.put, qz1, qz2, qz3])
    (refine wa_take (i := 6) (v := .tuple #[.agg (dcC D A4 n4 c4 LL), .int .i64 Kv, .int .i64 0]) rfl (by kernel_rfl) (by kernel_rfl) (by kernel_rfl) (fun _ _ _ h => h) (yi_free rfl (fun u => rfl)) hHeld rfl ?_; (try simp only [Act.put, qz1, qz2, qz3]))
    (refine wa_take (i := 7) (v := .agg (dcC D A4 n4 c4 LL)) rfl (by kernel_rfl) (by kernel_rfl) (by kernel_rfl) (fun _ _ _ h => h) (yi_free rfl (fun u => rfl)) hHeld rfl ?_; (try simp only [Act.put, qz1, qz2, qz3]))
    (refine wa_take (i := 8) (v := .int .i64 Kv) rfl (by kernel_rfl) (by kernel_rfl) (by kernel_rfl) (fun _ _ _ h => h) (yi_free rfl (fun u => rfl)) hHeld rfl ?_; (try simp only [Act.put, qz1, qz2, qz3]))
    (refine wa_take (i := 9) (v := .int .i64 0) rfl (by kernel_rfl) (by kernel_rfl) (by kernel_rfl) (fun _ _ _ h => h) (yi_free rfl (fun u => rfl)) hHeld rfl ?_; (try simp only [Act.put, qz1, qz2, qz3]))
  rotate_left
  focus
    have HRy := Lib.hid (HM.out.rdA HR2.out HAP.out)
    have HXy := Lib.hid (rdI_blkE (HM.out.keepK HKI.out HAK.out _ HIN.out))
    rw [HNN.out] at HXy
    rw [if_pos (by rfl)]; go_simp
    refine (HNG.out.call A na c gt n _ HRy.out HXy.out hl).mono ?_
    rintro e w4 ⟨A4, n4, c4, rfl, hb4, hr4⟩
    have HM4 := Lib.hid (HM.out.below hb4)
    have HK4 := Lib.hid (HM4.out.keepK HKI.out HAK.out)
    have HR4 := Lib.hid hr4
    have HA4 := Lib.hid (show Apt A4 n4 [g3, gR, gF] from apt8 hr4 (HM4.out.get (by exact vmemOf (e := (g3, 40, #[.slice (some ⟨gt, 0, none⟩) n n])))) (sl8 _ _ _) (apt8 hr4 (HM4.out.get (by exact vmemOf (e := (gR, 96, dcC d A na c LL)))) (dec8 _ _ _ _ _) (apt8 hr4 (HM4.out.get (by exact vmemOf (e := (gF, TF, icells F)))) (ints8 _) (apt0 _ _))))
    have HMB := Lib.hid HM4.out.base
    clear HM hb4 hr4 HRy HXy hHeld HM4
    have HM := HMB
    clear HMB
    go_wp2_with fail
    refine hK.out _ _ ⟨HM.out.get (by exact vmemOf), HM.out.get (by exact vmemOf)⟩ (fun hHeld => ?_)
    clear hK K
    (try simp only [Act.put, qz1, qz2, qz3])
    (refine wa_take (i := 6) (v := .tuple #[.agg (dcC D A4 n4 c4 LL), .int .i64 Kv, .int .i64 0]) rfl (by kernel_rfl) (by kernel_rfl) (by kernel_rfl) (fun _ _ _ h => h) (yi_free rfl (fun u => rfl)) hHeld rfl ?_; (try simp only [Act.put, qz1, qz2, qz3]))
    (refine wa_take (i := 7) (v := .agg (dcC D A4 n4 c4 LL)) rfl (by kernel_rfl) (by kernel_rfl) (by kernel_rfl) (fun _ _ _ h => h) (yi_free rfl (fun u => rfl)) hHeld rfl ?_; (try simp only [Act.put, qz1, qz2, qz3]))
    (refine wa_take (i := 8) (v := .int .i64 Kv) rfl (by kernel_rfl) (by kernel_rfl) (by kernel_rfl) (fun _ _ _ h => h) (yi_free rfl (fun u => rfl)) hHeld rfl ?_; (try simp only [Act.put, qz1, qz2, qz3]))
    (refine wa_take (i := 9) (v := .int .i64 0) rfl (by kernel_rfl) (by kernel_rfl) (by kernel_rfl) (fun _ _ _ h => h) (yi_free rfl (fun u => rfl)) hHeld rfl ?_; (try simp only [Act.put, qz1, qz2, qz3]))
    refine wpAnyH_ready (rs := [10]) (by kernel_rfl) (by simp) ?_; refine AllReadyH.cons rfl (fun K hK => ?_) (AllReadyH.nil)
    rw [if_pos (by rfl)]
    refine ov_alloc _ rfl rfl (by exact rowOf) HM ?_
    intro g8 w5 HM5 HW5 HG8
    have HA5 := Lib.hid (show Apt A4 n4 [g8, g3, gR, gF] from Apt.cons HA4.out (rd_lt HR4.out) HG8.out)
    have HAK2 := Lib.hid (show AptK KK [g8, g3, gR, gF] from HAK.out.cons fun e he => Nat.lt_of_lt_of_le (HK4.out e he).lt HG8.out)
    clear HA4 HAK
    have HA4 := HA5
    have HAK := HAK2
    clear HA5 HAK2
    clear HM hHeld HW5
    have HM := HM5
    clear HM5
    refine hK.out _ _ ⟨HM.out.get (by exact vmemOf), HM.out.get (by exact vmemOf)⟩ (fun hHeld => ?_)
    clear hK K
    (try simp only [Act.put, qz1, qz2, qz3])
  all_goals
    refine wpAnyH_ready (rs := [11]) (by kernel_rfl) (by simp) ?_; refine AllReadyH.cons rfl (fun K hK => ?_) (AllReadyH.nil)
    rw [if_pos (by rfl)]; refine ov_store _ _ _ rfl rfl rfl (by exact rowOf) HM (by exact vidxOf) (by exact vsizOf) (by exact vsizOf) (by exact voneOf) rfl ?_; clear HM; intro us HM; dsimp only [List.set] at HM
    refine hK.out _ _ ⟨HM.out.get (by exact vmemOf), HM.out.get (by exact vmemOf)⟩ (fun hHeld => ?_)
    clear hK K
    (try simp only [Act.put, qz1, qz2, qz3])
    (refine wa_take (i := 12) (v := .int .i64 Kv) rfl (by kernel_rfl) (by kernel_rfl) (by kernel_rfl) (fun _ _ _ h => h) (yi_free rfl (fun u => rfl)) hHeld rfl ?_; (try simp only [Act.put, qz1, qz2, qz3]))
    (refine wa_take (i := 13) (v := .int .i64 0) rfl (by kernel_rfl) (by kernel_rfl) (by kernel_rfl) (fun _ _ _ h => h) (yi_free rfl (fun u => rfl)) hHeld rfl ?_; (try simp only [Act.put, qz1, qz2, qz3]))
    refine wpAnyH_done (by kernel_rfl) ?_ _
    clear hHeld
    go_wp2_with (first | (refine wv_zeroF rfl rfl ?_) | (first | ((first | refine wv_box rfl _ _ rfl rfl HM ?_ | refine wv_alloc rfl _ rfl (by exact rowOf) HM ?_); first | (have q:dV HM = 0:=rfl;clear q HM;intro g1 u1 HG1 HM) | (have q:dV HM = 1:=rfl;clear q HM;intro g2 u2 HG2 HM) | (have q:dV HM = 2:=rfl;clear q HM;intro g3 u3 HG3 HM) | (have q:dV HM = 3:=rfl;clear q HM;intro g4 u4 HG4 HM) | (have q:dV HM = 4:=rfl;clear q HM;intro g5 u5 HG5 HM) | (have q:dV HM = 5:=rfl;clear q HM;intro g6 u6 HG6 HM) | (have q:dV HM = 6:=rfl;clear q HM;intro g7 u7 HG7 HM) | (have q:dV HM = 7:=rfl;clear q HM;intro g8 u8 HG8 HM) | (have q:dV HM = 8:=rfl;clear q HM;intro g9 u9 HG9 HM) | (have q:dV HM = 9:=rfl;clear q HM;intro g10 u10 HG10 HM) | (have q:dV HM = 10:=rfl;clear q HM;intro g11 u11 HG11 HM) | (have q:dV HM = 11:=rfl;clear q HM;intro g12 u12 HG12 HM) | (have q:dV HM = 12:=rfl;clear q HM;intro g13 u13 HG13 HM) | (have q:dV HM = 13:=rfl;clear q HM;intro g14 u14 HG14 HM)) | (refine wv_load rfl _ _ rfl rfl (by exact rowOf) HM (by exact vmemOf) (by exact vsizOf) ?_) | (refine wv_store rfl _ _ _ rfl rfl rfl (by exact rowOf) HM (by exact vidxOf) (by exact vsizOf) (by exact vsizOf) (by exact voneOf) ?_; clear HM; intro us HM; dsimp only [List.set] at HM) | (refine wl_zero rfl _ rfl (by exact arrOf) (by kernel_rfl) ?_)) | (refine wv_elem rfl _ rfl rfl HM (by exact vmemOf) (by exact velOf) ?_) | (refine wv_put rfl _ _ rfl rfl rfl HM (by exact vidxOf) (by exact vltOf) ?_; clear HM; intro us HM; dsimp only [List.set] at HM) | (refine wv_loadS rfl _ _ rfl rfl (by exact arrOf) HM (by exact vmemOf) (by exact vsubF) (by exact lenOf) ?_))
    go_ret
    exact ⟨rfl, ⟨A4, n4, c4, by have h := HM.out.get (by exact vmemOf (e := (gR, 96, dcC D A4 n4 c4 LL))); rw [HLL.out] at h; exact h, HM.out.rdA HR4.out HA4.out⟩, HM.out.get (by exact vmemOf), by dsimp only; rw [List.length_set]; exact HLF.out, HFI.out, HAT.out.1, HAT.out.2, HM.out.1, fun e he => ⟨HM.out.keepK HK4.out HAK.out e he, HKN.out e he⟩⟩
end Go.Proofs.YtgpdgegelipboaaGreatDoor.Lp
namespace Go.Proofs.YtgpdgegelipboaaGreatDoor
open Go.RowKit
def OfPost (w : World) (n : Nat) (bs : List Nat) (e : Ending) (w' : World) : Prop :=
  ∃ g, e = .returned (.agg #[.slice (some ⟨g, 0, none⟩) n n, .int .i64 (8 * (n : Int))]) ∧ w.heap.size ≤ g ∧ Blk w' g 5 (bcells bs) ∧ Below w.heap.size w w'
theorem splice_all (bs cur : List Nat) (h : cur.length = bs.length) : (bcells cur).toList.take 0 ++ (bs.map byteV ++ (bcells cur).toList.drop (0 + (bs.map byteV).length)) = bs.map byteV := by
  have : (bcells cur).toList.drop (0 + (bs.map byteV).length) = [] := List.drop_eq_nil_of_le (by simp [bcells, h])
  rw [this]
  simp
set_option maxHeartbeats 1000000 in
theorem of_core (ad : Addr) (n c : Nat) (bs : List Nat) (w : World) (hr : Hid (Rd w (some ad) n bs)) (hn0 : 0 < n) (hn : n ≤ 8192) :
    Calls Tryz.prog 54 #[.slice (some ad) n c] w (OfPost w n bs) := by
  have hmk := run_make_row' (P := Tryz.prog) 28 5 (.int .u8 0) 1 Tryz.underlying28 info_u8 rfl .i64 .i64 n (by omega) (by omega)
  have hrd := (hr.out.alloc (.cells #[.slice none 0 0, .int .i64 0] 49)).alloc (.cells (madeCells #[Value.int .u8 0] n) 5)
  have hblk : Blk ((w.alloc (.cells #[.slice none 0 0, .int .i64 0] 49)).alloc (.cells (madeCells #[Value.int .u8 0] n) 5)) (w.heap.size + 1) 5 (bcells (packF n (bitF []))) := by
    rw [← madeZero]
    exact Blk.newAt (by simp)
  have hbl := hr.out.1
  have hcp := run_copy_row (P := Tryz.prog) _ 28 28 3 5 (w.heap.size + 1) 0 n n ad n c (bcells (packF n (bitF []))) 5 (bs.map byteV) Tryz.underlying28 size_u8 hblk (by rw [List.length_map, hbl]; exact (Nat.min_self n).symm) (by
    intro j v hv
    rw [List.getElem?_map] at hv
    obtain ⟨x, hx, rfl⟩ := Option.map_eq_some_iff.1 hv
    obtain ⟨ad', e, hc⟩ := hrd.2.2 hn0
    injection e with e
    subst e
    exact hc j x hx) (by rw [List.length_map, bcells_size, packF_length]; omega) (by
    intro v hv
    obtain ⟨x, _, rfl⟩ := List.mem_map.1 hv
    rfl)
  have esp : (bcells (packF n (bitF []))).toList.take 0 ++ bs.map byteV ++ (bcells (packF n (bitF []))).toList.drop (0 + (bs.map byteV).length) = bs.map byteV := by
    rw [List.append_assoc]
    exact splice_all bs _ (by rw [packF_length, hbl])
  rw [esp] at hcp
  have B0 : Blk ((w.alloc (.cells #[.slice none 0 0, .int .i64 0] 49)).alloc (.cells (madeCells #[Value.int .u8 0] n) 5)) w.heap.size 49 #[.slice none 0 0, .int .i64 0] := (Blk.new _ _ _).alloc _
  obtain ⟨w2, hw2⟩ : ∃ w2, w2 = ((w.alloc (.cells #[.slice none 0 0, .int .i64 0] 49)).alloc (.cells (madeCells #[Value.int .u8 0] n) 5)).setRow (w.heap.size + 1) (bs.map byteV).toArray := ⟨_, rfl⟩
  have C0 : Blk w2 w.heap.size 49 #[.slice none 0 0, .int .i64 0] := by rw [hw2]; exact (setRow_other _ _ _ _ (by omega)).trans B0
  have C1 : Blk w2 (w.heap.size + 1) 5 (bcells bs) := by rw [hw2]; exact setRow_heap _ _ _ _ _ _ hblk
  have CB : Below w.heap.size w w2 := by rw [hw2]; exact below_setRow (((Below.refl _ _).alloc (Nat.le_refl _) _).alloc (by simp) _) (by omega) _
  rw [← hw2] at hcp
  have z0 : w2.cell? ⟨w.heap.size, 0, none⟩ = some (.slice none 0 0) := C0.cell 0
  have z1 : w2.cell? ⟨w.heap.size, 1, none⟩ = some (.int .i64 0) := C0.cell 1
  have f0 := C0.frozen 0
  have f1 := C0.frozen 1
  have HC1 := Lib.hid C1
  have HCB := Lib.hid CB
  clear hrd hblk hbl esp B0 hw2 C0 C1 CB
  go_enter Tryz.func54, Tryz.ntmps54
  go_wp2
  refine bodyPost_ret (v := .agg #[.slice (some ⟨w.heap.size + 1, 0, none⟩) n n, .int .i64 (8 * (n : Int))]) (by simp [results, Tryz.results54, go_sem, z0, z1]) rfl ⟨w.heap.size + 1, rfl, by omega, ?_, ?_⟩
  · exact (HC1.out.far (by simp) _).far (by simp) _
  · exact (HCB.out.setCell (by simp) _).setCell (by simp) _
set_option maxHeartbeats 1000000 in
theorem of_zero (A : Option Addr) (c : Nat) (w : World) :
    Calls Tryz.prog 54 #[.slice A 0 c] w (OfPost w 0 []) := by
  have hmk := run_make_row' (P := Tryz.prog) 28 5 (.int .u8 0) 1 Tryz.underlying28 info_u8 rfl .i64 .i64 0 (by omega) (by omega)
  have hmk2 : ∀ W : World, (Instr.makeSlice 28 (.int .i64 0) (.int .i64 0)).run Tryz.prog W = .ok (.slice (some ⟨W.heap.size, 0, none⟩) 0 0) (W.alloc (.cells (madeCells #[.int .u8 0] 0) 5)) := fun W => hmk W
  have hcp := fun W dp => run_copy_none (P := Tryz.prog) W 28 28 3 5 dp A 0 0 0 c Tryz.underlying28 size_u8 rfl
  have em : madeCells #[Value.int .u8 0] 0 = bcells [] := by rw [madeZero]; rfl
  have HEM := Lib.hid em
  clear em
  clear hmk
  go_enter Tryz.func54, Tryz.ntmps54
  go_wp2
  refine bodyPost_ret (v := .agg #[.slice (some ⟨w.heap.size + 1, 0, none⟩) 0 0, .int .i64 0]) (by simp [results, Tryz.results54, go_sem]) rfl ⟨w.heap.size + 1, rfl, by omega, ?_, ?_⟩
  · rw [HEM.out]
    exact Blk.newAt (by simp)
  · exact ((Below.refl _ _).alloc (Nat.le_refl _) _).alloc (by simp) _
theorem of_any (A : Option Addr) (n c : Nat) (bs : List Nat) (w : World) (hr : Rd w A n bs) (hn : n ≤ 8192) :
    Calls Tryz.prog 54 #[.slice A n c] w (OfPost w n bs) := by
  by_cases h0 : 0 < n
  · obtain ⟨ad, rfl, _⟩ := hr.2.2 h0
    exact of_core ad n c bs w (Lib.hid hr) h0 hn
  · obtain rfl : n = 0 := by omega
    obtain rfl : bs = [] := List.eq_nil_of_length_eq_zero hr.1
    exact of_zero A c w
end Go.Proofs.YtgpdgegelipboaaGreatDoor
namespace Go.Proofs.YtgpdgegelipboaaGreatDoor.Lp
open Go.RowKit Fx Fq Tb
open Cd (De FineD fineD0 d0 nxE nxK decV dcC isB_parts pstart_ok)
open Yr (stR inB rdR rd_thru thru kT kindR lvO nmO chkB wrB)
theorem telRead {w : World} {gF gR N : Nat} {TF : TypeId} {inp : List Bool} (G : RsG w gF gR) (hL : inp.length ≤ 60000) :
    TelOk w 30 #[.pointer (some ⟨gR, 0, none⟩)] #[] gF N TF (stR inp) (fun s => s.2) (fun _ => 0) (RsI w gF gR N TF inp) where
  enters := enters_of Tryz.func30 (by kernel_rfl) rfl
  add := fun h hb hL => h.add hb hL
  sub := fun h hs => ⟨h.bR, h.bF, h.len, h.fine, h.a32, h.a72, h.blw, fun e he => h.ks e (hs.mem he)⟩
  get := fun h he => (h.ks _ he).1
  row := fun h => ⟨h.bF, h.len, h.blw⟩
  keeps := fun {s xs i fst s'} h j hj => by
    unfold stR at h
    split at h
    · injection h with h
      subst h
      simp only [List.getD_eq_getElem?_getD, List.getElem?_set_ne (Ne.symm hj)]
    · cases h
  fwd := fun _ _ => Nat.zero_le _
  tells := fun s K u gt xs i fst hi hin hok hl hN h1 h2 _ => by
    obtain ⟨d, F⟩ := s
    by_cases ha : d.at_ ≤ inp.length + 32
    · have e : stR inp (d, F) xs i fst = some (nxE inp d xs, F.set i (fst + (nxK d xs : Int))) := by unfold stR; rw [if_pos ha]
      rw [e]
      exact (next_yes (n := xs.length) (Lib.hid G) hL hi hin rfl hok hl ha hN h1 h2).mono fun e u' hr => hr
    · have e : stR inp (d, F) xs i fst = none := by unfold stR; rw [if_neg ha]
      rw [e]
      exact (next_no (n := xs.length) (Lib.hid G) hL hi hin rfl hok hl ha).mono fun e u' hr => ⟨21, rfl, hr.1, hr.2⟩
theorem wv_builtC {ops : Array Oper} {rest : List Oper} {o : Oper} {a : Act} {w : World} {Q : Exit → Act → World → Prop} (hgd : Region.wanted o (yielded ops a.tmps) = true) (T : TypeId) (parts : Array (Nat × Operand)) (ho : o.op = .build T parts) (cs : Array Value)
    (hf : Tryz.prog.built T (parts.map fun (i, x) => (i, a.eval x)).toList = some cs)
    (h : wpList Tryz.prog ops Q rest (a.put o.dst (.agg cs)) w) : wpList Tryz.prog ops Q (o :: rest) a w :=
  wl_step hgd fun K hK => by
    have := hK _ _ h
    refine wp_build T parts ho (by rw [hf]; rfl) ?_
    rw [hf]
    exact this
theorem wv_built1 {ops : Array Oper} {rest : List Oper} {o : Oper} {a : Act} {w : World} {Q : Exit → Act → World → Prop} (hgd : Region.wanted o (yielded ops a.tmps) = true) (T : TypeId) (i : Nat) (x : Operand) (ho : o.op = .build T #[(i, x)]) {v : Value} (hx : a.eval x = v) (cs : Array Value)
    (hf : Tryz.prog.built T [(i, v)] = some cs) (h : wpList Tryz.prog ops Q rest (a.put o.dst (.agg cs)) w) : wpList Tryz.prog ops Q (o :: rest) a w :=
  wv_builtC hgd T #[(i, x)] ho cs (by simpa [hx] using hf) h
theorem built_reader (d : De) (A : Option Addr) (n c : Nat) (N : Int) : Tryz.prog.built 96 [(0, .agg (dcC d A n c N))] = some (dcC d A n c N) := by kernel_rfl
def OpQ (w : World) (bs : List Nat) (e : Ending) (w' : World) : Prop :=
  ∃ gR, e = .returned (.tuple #[.pointer (some ⟨gR, 0, none⟩), .int .i64 0]) ∧ w.heap.size ≤ gR ∧ (∃ A n c, Blk w' gR 96 (dcC (d0 (inB bs)) A n c ((inB bs).length : Int)) ∧ Rd w' A n (pack (inB bs))) ∧ Below w.heap.size w w'
theorem inB_len (bs : List Nat) : (inB bs).length = 8 * bs.length := bitsIn_length _ _
set_option maxHeartbeats 2000000 in
theorem open_no0 (A : Option Addr) (c : Nat) (w : World) : Calls Tryz.prog 28 #[.slice A 0 c] w (ValQ w (.tuple #[.pointer none, .int .i64 21])) := by
  have HM := Lib.hid (Mem.start w)
  go_enter Tryz.func28, Tryz.ntmps28
  go_wp2
  go_ret2
  exact ⟨rfl, HM.out.1⟩
set_option maxHeartbeats 2000000 in
theorem open_no (A : Option Addr) (n c : Nat) (w : World) (h : ¬ (1 ≤ n ∧ n ≤ 40)) : Calls Tryz.prog 28 #[.slice A n c] w (ValQ w (.tuple #[.pointer none, .int .i64 21])) := by
  by_cases h0 : n = 0
  · subst h0
    exact open_no0 A c w
  · have d0 : ((n : Int) == 0) = false := by simp; omega
    have d1 : (40 : Int) < (n : Int) := by omega
    have HM := Lib.hid (Mem.start w)
    clear h h0
    go_enter Tryz.func28, Tryz.ntmps28
    go_wp2
    go_ret2
    exact ⟨rfl, HM.out.1⟩
set_option maxHeartbeats 4000000 in
theorem open_yes (A : Option Addr) (n c : Nat) (bs : List Nat) (w : World) (hr : Hid (Rd w A n bs)) (h1 : 1 ≤ n) (h2 : n ≤ 40) : Calls Tryz.prog 28 #[.slice A n c] w (OpQ w bs) := by
  have d0' : ((n : Int) == 0) = false := by simp; omega
  have d1 : ¬ (40 : Int) < (n : Int) := by omega
  obtain ⟨L, hL⟩ : ∃ L : Nat, L = 8 * n := ⟨_, rfl⟩
  have e8 : 8 * (n : Int) = (L : Int) := by omega
  obtain ⟨l, hl⟩ : ∃ l, l = inB bs := ⟨_, rfl⟩
  have HL := Lib.hid (show l.length = L by rw [hl, inB_len, hr.out.1, hL])
  have HPK := Lib.hid (show pack l = bs by rw [hl]; exact pack_bitsIn_whole bs hr.out.2.1)
  have HLI := Lib.hid hl
  have hLb : L ≤ 320 := by omega
  clear hL hl
  go_enter Tryz.func28, Tryz.ntmps28
  go_wp2_with fail
  refine (of_any A n c bs w hr.out (by omega)).mono ?_
  rintro e w1 ⟨g, rfl, hg, hB, hb⟩
  rw [e8]
  have HB1 := Lib.hid hb
  have hrd := Rd.of_blk hB hr.out.2.1
  rw [hr.out.1] at hrd
  have HI := Lib.hid (isB_mk (A := some ⟨g, 0, none⟩) (n := n) (c := n) (l := l) (by rw [HPK.out]; exact hrd) HL.out (by omega))
  clear hg hB hb hrd e8
  go_wp2_with fail
  refine (pstart_ok (some ⟨g, 0, none⟩) n n L l w1 HI).mono ?_
  rintro e w2 ⟨A2, n2, c2, rfl, hb2, hr2⟩
  have HM := Lib.hid (MV.start w2)
  have HB2 := Lib.hid (HB1.out.trans (hb2.mono HB1.out.size))
  have HR2 := Lib.hid hr2
  rw [show decV 0 4294967295 (Cd.val l 32) A2 n2 c2 (L : Int) 32 = .agg (dcC (d0 l) A2 n2 c2 (L : Int)) from rfl]
  obtain ⟨D, hD⟩ : ∃ D, D = d0 l := ⟨_, rfl⟩
  rw [← hD]
  have HD := Lib.hid hD
  clear hb2 hr2 hD HI HB1
  go_wp2_with (first | (refine wv_built1 rfl 96 0 (.tmp 22) rfl (v := .agg (dcC D A2 n2 c2 (L : Int))) rfl (dcC D A2 n2 c2 (L : Int)) (built_reader D A2 n2 c2 (L : Int)) ?_) | (first | ((first | refine wv_box rfl _ _ rfl rfl HM ?_ | refine wv_alloc rfl _ rfl (by exact rowOf) HM ?_); first | (have q:dV HM = 0:=rfl;clear q HM;intro g1 u1 HG1 HM) | (have q:dV HM = 1:=rfl;clear q HM;intro g2 u2 HG2 HM) | (have q:dV HM = 2:=rfl;clear q HM;intro g3 u3 HG3 HM) | (have q:dV HM = 3:=rfl;clear q HM;intro g4 u4 HG4 HM)) | (refine wv_load rfl _ _ rfl rfl (by exact rowOf) HM (by exact vmemOf) (by exact vsizOf) ?_) | (refine wv_store rfl _ _ _ rfl rfl rfl (by exact rowOf) HM (by exact vidxOf) (by exact vsizOf) (by exact vsizOf) (by exact voneOf) ?_; clear HM; intro us HM; dsimp only [List.set] at HM) | (refine wl_zero rfl _ rfl (by exact arrOf) (by kernel_rfl) ?_)))
  go_ret2
  have hap : Apt A2 n2 [g2, g1] := Apt.cons (Apt.cons (apt0 _ _) (rd_lt HR2.out) HG1.out) (rd_lt HR2.out) HG2.out
  refine ⟨g2, rfl, Nat.le_trans HB2.out.size HG2.out, ⟨A2, n2, c2, ?_, ?_⟩, HB2.out.trans (HM.out.1.mono HB2.out.size)⟩
  · have h := HM.out.get (by exact vmemOf (e := (g2, 96, dcC D A2 n2 c2 (L : Int))))
    rw [HD.out, HLI.out] at h
    rw [← HLI.out, HL.out, HLI.out]
    exact h
  · rw [← HLI.out]
    exact HM.out.rdA HR2.out hap
end Go.Proofs.YtgpdgegelipboaaGreatDoor.Lp
namespace Go.Proofs.YtgpdgegelipboaaGreatDoor.Lp
open Go.RowKit Fx Fq Tb
open Cd (De FineD fineD0 d0 nxE nxK decV dcC isB_parts)
open Yr (stR inB rdR rd_thru thru kT kindR lvO nmO chkB wrB frR_of)
set_option maxHeartbeats 1000000 in
theorem eqB_any (A B : Option Addr) (n c m d : Nat) (xs bs : List Nat) (w : World) (ha : Hid (Rd w A n xs)) (hb : Hid (Rd w B m bs)) :
    Calls Tryz.prog 59 #[.slice A n c, .slice B m d] w (ValQ w (.bool (decide (xs = bs)))) := by
  have e1 := run_str c ha.out
  have e2 := run_str d hb.out
  have e3 := str_beqF xs bs ha.out.2.1 hb.out.2.1
  have HM := Lib.hid (Mem.start w)
  generalize decide (xs = bs) = r at e3 ⊢
  go_enter Tryz.func59, Tryz.ntmps59
  go_wp2
  go_ret
  exact ⟨rfl, HM.out.1⟩
def hjB (F : List Int) (p : List Int) (bs : List Nat) : Bool := decide (chkB (F.getD 0 0) (lvO F) (nmO F) p = true ∧ wrB (F.getD 0 0) (lvO F) (nmO F) p = bs)
theorem frS_O {F : List Int} (h : F.length = 23) : FrS F (F.getD 0 0) (lvO F) (nmO F) := frS_of F h
set_option maxHeartbeats 4000000 in
theorem hj_any (F p : List Int) (bs : List Nat) (gR : Nat) (D : De) (A : Option Addr) (n c : Nat) (N : Int) (w : World) (LF : F.length = 23) (lp : p.length = 6) (he : Edg w) (hb : Hid (Blk w gR 96 (dcC D A n c N))) (hr : Hid (Rd w A n bs)) :
    Calls Tryz.prog 31 #[.pointer (some ⟨gR, 0, none⟩), .agg (icells F), .agg (icells p)] w (ValQ w (.bool (hjB F p bs))) := by
  have HLF := Lib.hid LF
  have LP := Lib.hid lp
  have HM := Lib.hid (Mem.start w)
  have HE := Lib.hid he
  cases hc : chkB (F.getD 0 0) (lvO F) (nmO F) p with
  | false =>
    have HV : hjB F p bs = false := by unfold hjB; rw [hc]; simp
    rw [HV]
    have HW := Lib.hid (fun u (hu : Edg u) => fwrite_no F _ _ _ p u (frS_O LF) lp hu hc)
    clear LF lp he hc HV
    go_enter Tryz.func31, Tryz.ntmps31
    go_wp2_with (first | (first | ((first | refine wl_box rfl _ _ rfl rfl HM ?_ | refine wl_alloc rfl _ rfl (by exact arrOf) HM ?_); first | (have q:dL HM = 0:=rfl;clear q HM;intro g1 u1 HM) | (have q:dL HM = 1:=rfl;clear q HM;intro g2 u2 HM) | (have q:dL HM = 2:=rfl;clear q HM;intro g3 u3 HM) | (have q:dL HM = 3:=rfl;clear q HM;intro g4 u4 HM)) | (refine wl_load rfl _ _ rfl rfl (by exact arrOf) HM (by exact memOf) (by exact lenOf) ?_) | (refine wl_storeM rfl _ _ _ rfl rfl rfl (by exact arrOf) HM (by exact idxOf) (by exact lenOf) (by exact lenOf) ?_; clear HM; intro us HM; dsimp only [List.set] at HM) | (refine wl_zero rfl _ rfl (by exact arrOf) (by kernel_rfl) ?_)) | (refine wl_loadS rfl _ _ rfl rfl (by exact arrOf) HM (by exact memOf) (by exact subF) (by exact lenOf) ?_) | (refine wl_cellF rfl _ rfl rfl HM (by exact memOf) (by exact celF) ?_))
    refine (HW.out _ (HE.out.mem HM.out)).mono ?_
    rintro e w2 ⟨rfl, h1⟩
    have HM2 := Lib.hid (HM.out.below h1)
    clear h1 HM HW
    have HM := HM2
    clear HM2
    go_wp2
    go_ret
    exact ⟨rfl, HM.out.1⟩
  | true =>
    have HV : hjB F p bs = decide (wrB (F.getD 0 0) (lvO F) (nmO F) p = bs) := by unfold hjB; rw [hc]; simp
    rw [HV]
    have HW := Lib.hid (fun u (hu : Edg u) => fwrite_yes F _ _ _ p u (frS_O LF) lp hu hc)
    generalize wrB (F.getD 0 0) (lvO F) (nmO F) p = xs at HW ⊢
    clear LF lp he hc HV
    go_enter Tryz.func31, Tryz.ntmps31
    go_wp2_with (first | (first | ((first | refine wl_box rfl _ _ rfl rfl HM ?_ | refine wl_alloc rfl _ rfl (by exact arrOf) HM ?_); first | (have q:dL HM = 0:=rfl;clear q HM;intro g1 u1 HM) | (have q:dL HM = 1:=rfl;clear q HM;intro g2 u2 HM) | (have q:dL HM = 2:=rfl;clear q HM;intro g3 u3 HM) | (have q:dL HM = 3:=rfl;clear q HM;intro g4 u4 HM)) | (refine wl_load rfl _ _ rfl rfl (by exact arrOf) HM (by exact memOf) (by exact lenOf) ?_) | (refine wl_storeM rfl _ _ _ rfl rfl rfl (by exact arrOf) HM (by exact idxOf) (by exact lenOf) (by exact lenOf) ?_; clear HM; intro us HM; dsimp only [List.set] at HM) | (refine wl_zero rfl _ rfl (by exact arrOf) (by kernel_rfl) ?_)) | (refine wl_loadS rfl _ _ rfl rfl (by exact arrOf) HM (by exact memOf) (by exact subF) (by exact lenOf) ?_) | (refine wl_cellF rfl _ rfl rfl HM (by exact memOf) (by exact celF) ?_))
    refine (HW.out _ (HE.out.mem HM.out)).mono ?_
    rintro e w2 ⟨A2, n2, c2, rfl, -, hr2, h1⟩
    have HM2 := Lib.hid (HM.out.below h1)
    have HR2 := Lib.hid hr2
    clear h1 hr2 HM HW
    have HM := HM2
    clear HM2
    have c3 := (hb.out.below HM.out.1 hb.out.lt).cell 3
    rw [show (dcC D A n c N)[3]? = some (.slice A n c) from rfl] at c3
    go_wp2_with fail
    refine (eqB_any A2 A n2 c2 n c xs bs w2 HR2 (Lib.hid (hr.out.below HM.out.1))).mono ?_
    rintro e w3 ⟨rfl, h1⟩
    have HB3 := Lib.hid (HM.out.1.trans (h1.mono HM.out.1.size))
    clear h1 c3
    go_wp2
    go_ret
    exact ⟨rfl, HB3.out⟩
end Go.Proofs.YtgpdgegelipboaaGreatDoor.Lp
namespace Go.Proofs.YtgpdgegelipboaaGreatDoor.Lp
open Go.RowKit Fx Fq Tb
open Cd (De FineD fineD0 d0 nxE nxK decV dcC isB_parts)
open Yr (stR inB rdR rd_thru thru kT kindR lvO nmO chkB wrB rd_one wrB_len chkB_iff)
theorem wv_allocI {ops : Array Oper} {rest : List Oper} {o : Oper} {a : Act} {w w0 w1 : World} {Q : Exit → Act → World → Prop} {L : List Ent} (hgd : Region.wanted o (yielded ops a.tmps) = true) (ho : o.op = .alloc 3) (hm : Hid (MV w0 w1 L w))
    (h : ∀ g w', Hid (w1.heap.size ≤ g) → Hid (MV w0 w1 ((g, 3, icells [0]) :: L) w') → wpList Tryz.prog ops Q rest (a.put o.dst (.pointer (some ⟨g, 0, none⟩))) w') : wpList Tryz.prog ops Q (o :: rest) a w :=
  wl_step hgd fun K hK => by
    have hz : (zeroValue 3).run Tryz.prog w = .ok (.int .i64 0) w := by kernel_rfl
    have := hK _ _ (h w.heap.size _ (Lib.hid hm.out.2.2.2.2.1) (Lib.hid (hm.out.alloc 3 (icells [0]))))
    unfold Oper.wp execOp
    simp only [ho, Instr.alloc, newVar, newRow, Sem.run_bind, hz, Result.andThen, Value.cells, Sem.run_pure]
    exact this
theorem RsI.start {w0 u : World} {gF gR N n c : Nat} {TF : TypeId} {inp : List Bool} {F : List Int} {A : Option Addr} (hB : Blk u gR 96 (dcC (d0 inp) A n c (inp.length : Int))) (hr : Rd u A n (pack inp)) (hF : Blk u gF TF (icells F)) (hl : F.length = N) (hb : Below w0.heap.size w0 u) {K : List Ent} (hk : ∀ e ∈ K, Blk u e.1 e.2.1 e.2.2 ∧ e.1 ≠ gF ∧ e.1 ≠ gR) : RsI w0 gF gR N TF inp (d0 inp, F) K u :=
  ⟨⟨A, n, c, hB, hr⟩, hF, hl, fineD0 inp, Nat.le_refl _, by show 32 ≤ inp.length + 72; omega, hb, hk⟩
end Go.Proofs.YtgpdgegelipboaaGreatDoor.Lp
namespace Go.Proofs.YtgpdgegelipboaaGreatDoor.Lp
open Go.RowKit Fx Fq Tb
open Cd (De FineD fineD0 d0 nxE nxK decV dcC isB_parts)
open Yr (stR inB rdR rd_thru thru kT kindR lvO nmO chkB wrB rd_one wrB_len chkB_iff)
set_option maxHeartbeats 4000000 in
theorem gkind_any {w0 w : World} {gR n c : Nat} {A : Option Addr} {inp : List Bool} (hb : Hid (Below w0.heap.size w0 w)) (hg : w0.heap.size ≤ gR) (hB : Hid (Blk w gR 96 (dcC (d0 inp) A n c (inp.length : Int)))) (hr : Hid (Rd w A n (pack inp))) (hL : inp.length ≤ 60000) :
    Calls Tryz.prog 33 #[.pointer (some ⟨gR, 0, none⟩)] w (fun e u => e = .returned (.tuple #[.int .i64 (kindR inp), .int .i64 0]) ∧ Below w0.heap.size w0 u) := by
  have HM := Lib.hid (MV.start w)
  have hmf : ∀ (fn : Fn) (first cap : Array Value) (w : World), (Instr.makeFunc fn first cap).run Tryz.prog w = .ok (.func fn first cap) w := fun _ _ _ _ => rfl
  have HG := Lib.hid hg
  have HL := Lib.hid hL
  have H1 := Lib.hid (show 0 < [(0 : Int)].length by decide)
  clear hg hL
  go_enter Tryz.func33, Tryz.ntmps33
  go_wp2_with (first | ((refine wv_allocI rfl rfl HM ?_); (clear HM; intro g1 u1 HG1 HM)) | (refine wv_put rfl _ _ rfl rfl rfl HM (by exact vidxOf) H1 ?_; clear HM; intro us HM; dsimp only [List.set] at HM))
  have hlt := hB.out.lt
  have HI := Lib.hid (show RsI w0 g1 gR 1 3 inp (d0 inp, [0]) [] us from RsI.start (K := []) (hB.out.below HM.out.1 hlt) (hr.out.below HM.out.1) (HM.out.get (by exact vmemOf)) rfl (hb.out.trans (HM.out.1.mono hb.out.size)) (fun e he => nomatch he))
  have HT := Lib.hid (telRead (N := 1) (TF := 3) (inp := inp) (⟨by have := HG1.out; omega, by have := HG1.out; have := hb.out.size; omega, HG.out⟩ : RsG w0 g1 gR) HL.out)
  have HC := Lib.hid (tkind_any (d0 inp, [0]) [] us HT HI (by omega) (Nat.le_refl _))
  rw [show stR inp (d0 inp, [0]) kT 0 0 = some (nxE inp (d0 inp) kT, [kindR inp]) from by
    unfold stR
    rw [if_pos (show (d0 inp, ([0] : List Int)).1.at_ ≤ inp.length + 32 from by show 32 ≤ inp.length + 32; omega)]
    simp [kindR]] at HC
  clear HI HT hlt HM
  refine HC.out.mono ?_
  rintro e w3 ⟨rfl, hi⟩
  have HB := Lib.hid hi.blw
  have c0 := blk_at hi.bF (i := 0) (by show 0 < 1; omega)
  simp at c0
  clear hi HC
  go_wp2
  go_ret2
  exact ⟨rfl, HB.out⟩
set_option maxHeartbeats 4000000 in
theorem fkind_any (A : Option Addr) (n c : Nat) (bs : List Nat) (w : World) (hr : Hid (Rd w A n bs)) (_hn : n ≤ maxLen) :
    Calls Tryz.prog 17 #[.slice A n c] w (ValQ w (kdV bs)) := by
  have hlen := hr.out.1
  by_cases h : 1 ≤ n ∧ n ≤ 40
  · have HV : kdV bs = .tuple #[.int .i64 (kindR (inB bs)), .int .i64 0] := by unfold kdV; rw [if_pos (by omega)]
    rw [HV]
    have HO := Lib.hid (open_yes A n c bs w hr h.1 h.2)
    have HLb := Lib.hid (show (inB bs).length ≤ 60000 by rw [inB_len]; omega)
    clear h hlen HV
    go_enter Tryz.func17, Tryz.ntmps17
    go_wp2_with fail
    refine HO.out.mono ?_
    rintro e w2 ⟨gR, rfl, hg, ⟨A2, n2, c2, hB, hR⟩, hb⟩
    have HC := Lib.hid (gkind_any (Lib.hid hb) hg (Lib.hid hB) (Lib.hid hR) HLb.out)
    clear hg hB hR hb HO
    go_wp2_with fail
    refine HC.out.mono ?_
    rintro e w3 ⟨rfl, hb⟩
    have HB := Lib.hid hb
    clear hb HC
    go_wp2
    go_ret2
    exact ⟨rfl, HB.out⟩
  · have HV : kdV bs = .tuple #[.int .i64 0, .int .i64 21] := by unfold kdV; rw [if_neg (by omega)]
    rw [HV]
    have HO := Lib.hid (open_no A n c w h)
    clear h hlen HV
    go_enter Tryz.func17, Tryz.ntmps17
    go_wp2_with fail
    refine HO.out.mono ?_
    rintro e w2 ⟨rfl, hb⟩
    have HB := Lib.hid hb
    clear hb HO
    go_wp2
    go_ret2
    exact ⟨rfl, HB.out⟩
end Go.Proofs.YtgpdgegelipboaaGreatDoor.Lp
namespace Go.Proofs.YtgpdgegelipboaaGreatDoor.Lp
open Go.RowKit Fx Fq Tb
open Cd (De FineD fineD0 d0 nxE nxK decV dcC isB_parts)
open Yr (stR inB rdR rd_thru thru kT kindR lvO nmO chkB wrB rd_one wrB_len chkB_iff lvO_length row_ext lvO_get)
theorem rdR_far {bs : List Nat} {p : List Int} (h : ¬ (1 ≤ bs.length ∧ bs.length ≤ 40)) : rdR bs p = none := by
  cases e : rdR bs p with
  | none => rfl
  | some x =>
    obtain ⟨K, l, q⟩ := x
    obtain ⟨c1, c2, c3⟩ := rd_one e
    have := wrB_len ((chkB_iff K l q p).1 c1)
    rw [c2] at this
    omega
theorem frL_O {F : List Int} (h : F.length = 23) : frL (F.getD 0 0) (lvO F) (nmO F) = F := by
  match F, h with
  | x :: t, h =>
    have ht : t.length = 22 := by simpa using h
    unfold frL lvO nmO
    show x :: (((x :: t).drop 1).take 6 ++ ((x :: t).drop 7).take 16) = x :: t
    rw [List.drop_succ_cons, List.drop_zero, List.drop_succ_cons, List.take_of_length_le (l := t.drop 6) (by rw [List.length_drop]; omega), List.take_append_drop]
theorem rdV_some {bs : List Nat} {p : List Int} {d : De} {F : List Int} (hp : chkL p = true) (LF : F.length = 23) (h : thru (stR (inB bs)) (fun s => s.2) p (d0 (inB bs), zr 23) = some (d, F)) : rdV bs p = if hjB F p bs = true then .tuple #[.agg (icells F), .int .i64 0] else .tuple #[.agg (icells (zr 23)), .int .i64 21] := by
  have h2 := rd_thru (bs := bs) (p := p)
  rw [h] at h2
  have h3 := h2 LF
  unfold rdV
  rw [if_pos hp]
  by_cases hc : chkB (F.getD 0 0) (lvO F) (nmO F) p = true ∧ wrB (F.getD 0 0) (lvO F) (nmO F) p = bs
  · rw [if_pos hc] at h3
    rw [h3, if_pos (by unfold hjB; exact decide_eq_true hc)]
    show Value.tuple #[.agg (icells (frL (F.getD 0 0) (lvO F) (nmO F))), .int .i64 0] = _
    rw [frL_O LF]
  · rw [if_neg hc] at h3
    rw [h3, if_neg (by unfold hjB; rw [decide_eq_false hc]; exact Bool.false_ne_true)]
theorem rdV_none {bs : List Nat} {p : List Int} (hp : chkL p = true) (h : thru (stR (inB bs)) (fun s => s.2) p (d0 (inB bs), zr 23) = none) : rdV bs p = .tuple #[.agg (icells (zr 23)), .int .i64 21] := by
  have h2 := rd_thru (bs := bs) (p := p)
  rw [h] at h2
  have h3 : rdR bs p = none := h2
  unfold rdV
  rw [if_pos hp, h3]
set_option maxHeartbeats 4000000 in
theorem fread_arg (A : Option Addr) (n c : Nat) (bs : List Nat) (p : List Int) (w : World) (lp : p.length = 6) (hp : chkL p = false) :
    Calls Tryz.prog 15 #[.slice A n c, .agg (icells p)] w (ValQ w (rdV bs p)) := by
  have HV := Lib.hid (show rdV bs p = .tuple #[.agg (icells (zr 23)), .int .i64 1] by unfold rdV; rw [if_neg (by rw [hp]; exact Bool.false_ne_true)])
  have HC := Lib.hid (fun u => bcheck_any p false 1 u lp hp rfl)
  have LP := Lib.hid lp
  have HM := Lib.hid (MV.start w)
  clear lp hp
  go_enter Tryz.func15, Tryz.ntmps15
  go_wp2_with (first | (refine wv_zeroF rfl rfl ?_) | (first | ((first | refine wv_box rfl _ _ rfl rfl HM ?_ | refine wv_alloc rfl _ rfl (by exact rowOf) HM ?_); first | (have q:dV HM = 0:=rfl;clear q HM;intro g1 u1 HG1 HM) | (have q:dV HM = 1:=rfl;clear q HM;intro g2 u2 HG2 HM) | (have q:dV HM = 2:=rfl;clear q HM;intro g3 u3 HG3 HM) | (have q:dV HM = 3:=rfl;clear q HM;intro g4 u4 HG4 HM)) | (refine wv_load rfl _ _ rfl rfl (by exact rowOf) HM (by exact vmemOf) (by exact vsizOf) ?_) | (refine wv_store rfl _ _ _ rfl rfl rfl (by exact rowOf) HM (by exact vidxOf) (by exact vsizOf) (by exact vsizOf) (by exact voneOf) ?_; clear HM; intro us HM; dsimp only [List.set] at HM) | (refine wl_zero rfl _ rfl (by exact arrOf) (by kernel_rfl) ?_)) | (refine wv_elem rfl _ rfl rfl HM (by exact vmemOf) (by exact velOf) ?_) | (refine wv_put rfl _ _ rfl rfl rfl HM (by exact vidxOf) (by exact vltOf) ?_; clear HM; intro us HM; dsimp only [List.set] at HM) | (refine wv_loadS rfl _ _ rfl rfl (by exact arrOf) HM (by exact vmemOf) (by exact vsubF) (by exact lenOf) ?_))
  refine (HC.out _).mono ?_
  rintro e w2 ⟨rfl, h1⟩
  have HM2 := Lib.hid (HM.out.below h1).base
  clear h1 HM HC
  have HM := HM2
  clear HM2
  go_wp2_with (first | (refine wv_zeroF rfl rfl ?_) | (first | ((first | refine wv_box rfl _ _ rfl rfl HM ?_ | refine wv_alloc rfl _ rfl (by exact rowOf) HM ?_); first | (have q:dV HM = 0:=rfl;clear q HM;intro g1 u1 HG1 HM) | (have q:dV HM = 1:=rfl;clear q HM;intro g2 u2 HG2 HM) | (have q:dV HM = 2:=rfl;clear q HM;intro g3 u3 HG3 HM) | (have q:dV HM = 3:=rfl;clear q HM;intro g4 u4 HG4 HM)) | (refine wv_load rfl _ _ rfl rfl (by exact rowOf) HM (by exact vmemOf) (by exact vsizOf) ?_) | (refine wv_store rfl _ _ _ rfl rfl rfl (by exact rowOf) HM (by exact vidxOf) (by exact vsizOf) (by exact vsizOf) (by exact voneOf) ?_; clear HM; intro us HM; dsimp only [List.set] at HM) | (refine wl_zero rfl _ rfl (by exact arrOf) (by kernel_rfl) ?_)) | (refine wv_elem rfl _ rfl rfl HM (by exact vmemOf) (by exact velOf) ?_) | (refine wv_put rfl _ _ rfl rfl rfl HM (by exact vidxOf) (by exact vltOf) ?_; clear HM; intro us HM; dsimp only [List.set] at HM) | (refine wv_loadS rfl _ _ rfl rfl (by exact arrOf) HM (by exact vmemOf) (by exact vsubF) (by exact lenOf) ?_))
  exact bodyPost_ret (v := .tuple #[.agg (icells (zr 23)), .int .i64 1]) (vres_two rfl _ rfl rfl rowFr HM (by exact vmemOf) (by exact vsizOf)) rfl ⟨by rw [HV.out], HM.out.1⟩
set_option maxHeartbeats 4000000 in
theorem fread_far (A : Option Addr) (n c : Nat) (bs : List Nat) (p : List Int) (w : World) (hr : Hid (Rd w A n bs)) (lp : p.length = 6) (hp : chkL p = true) (h : ¬ (1 ≤ n ∧ n ≤ 40)) :
    Calls Tryz.prog 15 #[.slice A n c, .agg (icells p)] w (ValQ w (rdV bs p)) := by
  have HV := Lib.hid (show rdV bs p = .tuple #[.agg (icells (zr 23)), .int .i64 21] by unfold rdV; rw [if_pos hp, rdR_far (by rw [hr.out.1]; exact h)])
  have HC := Lib.hid (fun u => bcheck_any p true 0 u lp hp rfl)
  have HO := Lib.hid (fun u => open_no A n c u h)
  have LP := Lib.hid lp
  have HM := Lib.hid (MV.start w)
  clear lp hp h
  go_enter Tryz.func15, Tryz.ntmps15
  go_wp2_with (first | (refine wv_zeroF rfl rfl ?_) | (first | ((first | refine wv_box rfl _ _ rfl rfl HM ?_ | refine wv_alloc rfl _ rfl (by exact rowOf) HM ?_); first | (have q:dV HM = 0:=rfl;clear q HM;intro g1 u1 HG1 HM) | (have q:dV HM = 1:=rfl;clear q HM;intro g2 u2 HG2 HM) | (have q:dV HM = 2:=rfl;clear q HM;intro g3 u3 HG3 HM) | (have q:dV HM = 3:=rfl;clear q HM;intro g4 u4 HG4 HM)) | (refine wv_load rfl _ _ rfl rfl (by exact rowOf) HM (by exact vmemOf) (by exact vsizOf) ?_) | (refine wv_store rfl _ _ _ rfl rfl rfl (by exact rowOf) HM (by exact vidxOf) (by exact vsizOf) (by exact vsizOf) (by exact voneOf) ?_; clear HM; intro us HM; dsimp only [List.set] at HM) | (refine wl_zero rfl _ rfl (by exact arrOf) (by kernel_rfl) ?_)) | (refine wv_elem rfl _ rfl rfl HM (by exact vmemOf) (by exact velOf) ?_) | (refine wv_put rfl _ _ rfl rfl rfl HM (by exact vidxOf) (by exact vltOf) ?_; clear HM; intro us HM; dsimp only [List.set] at HM) | (refine wv_loadS rfl _ _ rfl rfl (by exact arrOf) HM (by exact vmemOf) (by exact vsubF) (by exact lenOf) ?_))
  refine (HC.out _).mono ?_
  rintro e w2 ⟨rfl, h1⟩
  have HM2 := Lib.hid (HM.out.below h1).base
  clear h1 HM HC
  have HM := HM2
  clear HM2
  go_wp2_with (first | (refine wv_zeroF rfl rfl ?_) | (first | ((first | refine wv_box rfl _ _ rfl rfl HM ?_ | refine wv_alloc rfl _ rfl (by exact rowOf) HM ?_); first | (have q:dV HM = 0:=rfl;clear q HM;intro g1 u1 HG1 HM) | (have q:dV HM = 1:=rfl;clear q HM;intro g2 u2 HG2 HM) | (have q:dV HM = 2:=rfl;clear q HM;intro g3 u3 HG3 HM) | (have q:dV HM = 3:=rfl;clear q HM;intro g4 u4 HG4 HM)) | (refine wv_load rfl _ _ rfl rfl (by exact rowOf) HM (by exact vmemOf) (by exact vsizOf) ?_) | (refine wv_store rfl _ _ _ rfl rfl rfl (by exact rowOf) HM (by exact vidxOf) (by exact vsizOf) (by exact vsizOf) (by exact voneOf) ?_; clear HM; intro us HM; dsimp only [List.set] at HM) | (refine wl_zero rfl _ rfl (by exact arrOf) (by kernel_rfl) ?_)) | (refine wv_elem rfl _ rfl rfl HM (by exact vmemOf) (by exact velOf) ?_) | (refine wv_put rfl _ _ rfl rfl rfl HM (by exact vidxOf) (by exact vltOf) ?_; clear HM; intro us HM; dsimp only [List.set] at HM) | (refine wv_loadS rfl _ _ rfl rfl (by exact arrOf) HM (by exact vmemOf) (by exact vsubF) (by exact lenOf) ?_))
  refine (HO.out _).mono ?_
  rintro e w3 ⟨rfl, h1⟩
  have HM2 := Lib.hid (HM.out.below h1).base
  clear h1 HM HO
  have HM := HM2
  clear HM2
  go_wp2_with (first | (refine wv_zeroF rfl rfl ?_) | (first | ((first | refine wv_box rfl _ _ rfl rfl HM ?_ | refine wv_alloc rfl _ rfl (by exact rowOf) HM ?_); first | (have q:dV HM = 0:=rfl;clear q HM;intro g1 u1 HG1 HM) | (have q:dV HM = 1:=rfl;clear q HM;intro g2 u2 HG2 HM) | (have q:dV HM = 2:=rfl;clear q HM;intro g3 u3 HG3 HM) | (have q:dV HM = 3:=rfl;clear q HM;intro g4 u4 HG4 HM)) | (refine wv_load rfl _ _ rfl rfl (by exact rowOf) HM (by exact vmemOf) (by exact vsizOf) ?_) | (refine wv_store rfl _ _ _ rfl rfl rfl (by exact rowOf) HM (by exact vidxOf) (by exact vsizOf) (by exact vsizOf) (by exact voneOf) ?_; clear HM; intro us HM; dsimp only [List.set] at HM) | (refine wl_zero rfl _ rfl (by exact arrOf) (by kernel_rfl) ?_)) | (refine wv_elem rfl _ rfl rfl HM (by exact vmemOf) (by exact velOf) ?_) | (refine wv_put rfl _ _ rfl rfl rfl HM (by exact vidxOf) (by exact vltOf) ?_; clear HM; intro us HM; dsimp only [List.set] at HM) | (refine wv_loadS rfl _ _ rfl rfl (by exact arrOf) HM (by exact vmemOf) (by exact vsubF) (by exact lenOf) ?_))
  exact bodyPost_ret (v := .tuple #[.agg (icells (zr 23)), .int .i64 21]) (vres_two rfl _ rfl rfl rowFr HM (by exact vmemOf) (by exact vsizOf)) rfl ⟨by rw [HV.out], HM.out.1⟩
set_option maxHeartbeats 8000000 in
theorem fread_yes (A : Option Addr) (n c : Nat) (bs : List Nat) (p : List Int) (w : World) (hr : Hid (Rd w A n bs)) (lp : p.length = 6) (he : Edg w) (hp : chkL p = true) (h1 : 1 ≤ n) (h2 : n ≤ 40) :
    Calls Tryz.prog 15 #[.slice A n c, .agg (icells p)] w (ValQ w (rdV bs p)) := by
  have HC := Lib.hid (fun u => bcheck_any p true 0 u lp hp rfl)
  have HO := Lib.hid (fun u (h : Rd u A n bs) => open_yes A n c bs u (Lib.hid h) h1 h2)
  have HP := Lib.hid hp
  have LP := Lib.hid lp
  have HE := Lib.hid he
  have HLb := Lib.hid (show (inB bs).length ≤ 60000 by rw [inB_len, hr.out.1]; omega)
  have HPK := Lib.hid (show pack (inB bs) = bs from pack_bitsIn_whole bs hr.out.2.1)
  have HM := Lib.hid (MV.start w)
  have hmf : ∀ (fn : Fn) (first cap : Array Value) (w : World), (Instr.makeFunc fn first cap).run Tryz.prog w = .ok (.func fn first cap) w := fun _ _ _ _ => rfl
  clear lp hp he h1 h2
  go_enter Tryz.func15, Tryz.ntmps15
  go_wp2_with (first | (refine wv_zeroF rfl rfl ?_) | (first | ((first | refine wv_box rfl _ _ rfl rfl HM ?_ | refine wv_alloc rfl _ rfl (by exact rowOf) HM ?_); first | (have q:dV HM = 0:=rfl;clear q HM;intro g1 u1 HG1 HM) | (have q:dV HM = 1:=rfl;clear q HM;intro g2 u2 HG2 HM) | (have q:dV HM = 2:=rfl;clear q HM;intro g3 u3 HG3 HM) | (have q:dV HM = 3:=rfl;clear q HM;intro g4 u4 HG4 HM)) | (refine wv_load rfl _ _ rfl rfl (by exact rowOf) HM (by exact vmemOf) (by exact vsizOf) ?_) | (refine wv_store rfl _ _ _ rfl rfl rfl (by exact rowOf) HM (by exact vidxOf) (by exact vsizOf) (by exact vsizOf) (by exact voneOf) ?_; clear HM; intro us HM; dsimp only [List.set] at HM) | (refine wl_zero rfl _ rfl (by exact arrOf) (by kernel_rfl) ?_)) | (refine wv_elem rfl _ rfl rfl HM (by exact vmemOf) (by exact velOf) ?_) | (refine wv_put rfl _ _ rfl rfl rfl HM (by exact vidxOf) (by exact vltOf) ?_; clear HM; intro us HM; dsimp only [List.set] at HM) | (refine wv_loadS rfl _ _ rfl rfl (by exact arrOf) HM (by exact vmemOf) (by exact vsubF) (by exact lenOf) ?_))
  refine (HC.out _).mono ?_
  rintro e w2 ⟨rfl, h1⟩
  have HM2 := Lib.hid (HM.out.below h1).base
  clear h1 HM HC
  have HM := HM2
  clear HM2
  go_wp2_with (first | (refine wv_zeroF rfl rfl ?_) | (first | ((first | refine wv_box rfl _ _ rfl rfl HM ?_ | refine wv_alloc rfl _ rfl (by exact rowOf) HM ?_); first | (have q:dV HM = 0:=rfl;clear q HM;intro g1 u1 HG1 HM) | (have q:dV HM = 1:=rfl;clear q HM;intro g2 u2 HG2 HM) | (have q:dV HM = 2:=rfl;clear q HM;intro g3 u3 HG3 HM) | (have q:dV HM = 3:=rfl;clear q HM;intro g4 u4 HG4 HM)) | (refine wv_load rfl _ _ rfl rfl (by exact rowOf) HM (by exact vmemOf) (by exact vsizOf) ?_) | (refine wv_store rfl _ _ _ rfl rfl rfl (by exact rowOf) HM (by exact vidxOf) (by exact vsizOf) (by exact vsizOf) (by exact voneOf) ?_; clear HM; intro us HM; dsimp only [List.set] at HM) | (refine wl_zero rfl _ rfl (by exact arrOf) (by kernel_rfl) ?_)) | (refine wv_elem rfl _ rfl rfl HM (by exact vmemOf) (by exact velOf) ?_) | (refine wv_put rfl _ _ rfl rfl rfl HM (by exact vidxOf) (by exact vltOf) ?_; clear HM; intro us HM; dsimp only [List.set] at HM) | (refine wv_loadS rfl _ _ rfl rfl (by exact arrOf) HM (by exact vmemOf) (by exact vsubF) (by exact lenOf) ?_))
  refine (HO.out _ (hr.out.below HM.out.1)).mono ?_
  rintro e w3 ⟨gR, rfl, hg, ⟨A3, n3, c3, hB, hR⟩, hb⟩
  have HM0 := HM
  have hA3 := rd_lt hR
  have l2 := (HM.out.get (by exact vmemOf (e := (g2, 26, icells (zr 23))))).lt
  have b1 := HM.out.get (by exact vmemOf (e := (g1, 23, icells p)))
  have HLD := Lib.hid (fun (u : World) (hu : Below w2.heap.size w2 u) => run_load_blk arrLev.row (b1.below hu b1.lt) ((icells_size p).trans LP.out))
  have HE2 := Lib.hid (HE.out.below HM.out.1)
  have HBR := Lib.hid hB
  have HRR := Lib.hid hR
  have HGR := Lib.hid hg
  have HB3 := Lib.hid hb
  obtain ⟨gP, hgP⟩ : ∃ gP, gP = g1 := ⟨_, rfl⟩
  obtain ⟨gO, hgO⟩ : ∃ gO, gO = g2 := ⟨_, rfl⟩
  subst hgP hgO
  clear HM HO hg hB hR hb b1
  have HM := Lib.hid (((MV.start w2).below HB3.out).base)
  go_wp2_with (first | (refine wv_loadE rfl _ _ rfl rfl (Lib.hid (HLD.out _ HM.out.1)) ?_) | (first | (refine wv_zeroF rfl rfl ?_) | (first | ((first | refine wv_box rfl _ _ rfl rfl HM ?_ | refine wv_alloc rfl _ rfl (by exact rowOf) HM ?_); first | (have q:dV HM = 0:=rfl;clear q HM;intro g1 u1 HG1 HM) | (have q:dV HM = 1:=rfl;clear q HM;intro g2 u2 HG2 HM) | (have q:dV HM = 2:=rfl;clear q HM;intro g3 u3 HG3 HM) | (have q:dV HM = 3:=rfl;clear q HM;intro g4 u4 HG4 HM)) | (refine wv_load rfl _ _ rfl rfl (by exact rowOf) HM (by exact vmemOf) (by exact vsizOf) ?_) | (refine wv_store rfl _ _ _ rfl rfl rfl (by exact rowOf) HM (by exact vidxOf) (by exact vsizOf) (by exact vsizOf) (by exact voneOf) ?_; clear HM; intro us HM; dsimp only [List.set] at HM) | (refine wl_zero rfl _ rfl (by exact arrOf) (by kernel_rfl) ?_)) | (refine wv_elem rfl _ rfl rfl HM (by exact vmemOf) (by exact velOf) ?_) | (refine wv_put rfl _ _ rfl rfl rfl HM (by exact vidxOf) (by exact vltOf) ?_; clear HM; intro us HM; dsimp only [List.set] at HM) | (refine wv_loadS rfl _ _ rfl rfl (by exact arrOf) HM (by exact vmemOf) (by exact vsubF) (by exact lenOf) ?_)))
  have n2 := HBR.out.lt
  have HI := Lib.hid (show RsI w2 g1 gR 23 26 (inB bs) (d0 (inB bs), zr 23) [] u1 from RsI.start (K := []) (HM.out.keep HBR.out (fun e he => by rw [List.mem_singleton] at he; subst he; have := HG1.out; show g1 ≠ gR; omega)) (HM.out.rdA HRR.out (Apt.cons (apt0 _ _) hA3 HG1.out)) (HM.out.get (by exact vmemOf)) (zr_length 23) HM.out.1 (fun e he => nomatch he))
  have HT := Lib.hid (telRead (N := 23) (TF := 26) (inp := inB bs) (⟨by have := HG1.out; omega, by have := HG1.out; have := HB3.out.size; omega, HGR.out⟩ : RsG w2 g1 gR) HLb.out)
  have HC := Lib.hid (thru_any (d0 (inB bs), zr 23) [] u1 p HT HI HE2 LP.out HP.out rfl)
  have HLT := Lib.hid (show w2.heap.size ≤ g1 by have := HG1.out; have := HB3.out.size; omega)
  clear HI HT HM HLD
  cases ho : thru (stR (inB bs)) (fun s => s.2) p (d0 (inB bs), zr 23) with
  | none =>
    have HV := Lib.hid (rdV_none HP.out ho)
    rw [ho] at HC
    clear ho
    refine HC.out.mono ?_
    rintro e w4 ⟨E, hE, rfl, hb⟩
    have hE2 : ¬ E = 0 := by simpa using hE
    have HM := Lib.hid (HM0.out.below hb).base
    clear hb HC HM0
    go_wp2_with (first | (refine wv_zeroF rfl rfl ?_) | (first | ((first | refine wv_box rfl _ _ rfl rfl HM ?_ | refine wv_alloc rfl _ rfl (by exact rowOf) HM ?_); first | (have q:dV HM = 0:=rfl;clear q HM;intro g1 u1 HG1 HM) | (have q:dV HM = 1:=rfl;clear q HM;intro g2 u2 HG2 HM) | (have q:dV HM = 2:=rfl;clear q HM;intro g3 u3 HG3 HM) | (have q:dV HM = 3:=rfl;clear q HM;intro g4 u4 HG4 HM)) | (refine wv_load rfl _ _ rfl rfl (by exact rowOf) HM (by exact vmemOf) (by exact vsizOf) ?_) | (refine wv_store rfl _ _ _ rfl rfl rfl (by exact rowOf) HM (by exact vidxOf) (by exact vsizOf) (by exact vsizOf) (by exact voneOf) ?_; clear HM; intro us HM; dsimp only [List.set] at HM) | (refine wl_zero rfl _ rfl (by exact arrOf) (by kernel_rfl) ?_)) | (refine wv_elem rfl _ rfl rfl HM (by exact vmemOf) (by exact velOf) ?_) | (refine wv_put rfl _ _ rfl rfl rfl HM (by exact vidxOf) (by exact vltOf) ?_; clear HM; intro us HM; dsimp only [List.set] at HM) | (refine wv_loadS rfl _ _ rfl rfl (by exact arrOf) HM (by exact vmemOf) (by exact vsubF) (by exact lenOf) ?_))
    exact bodyPost_ret (v := .tuple #[.agg (icells (zr 23)), .int .i64 21]) (vres_two rfl _ rfl rfl rowFr HM (by exact vmemOf) (by exact vsizOf)) rfl ⟨by rw [HV.out], HM.out.1⟩
  | some x =>
    obtain ⟨d, F⟩ := x
    rw [ho] at HC
    refine HC.out.mono ?_
    rintro e w4 ⟨rfl, hi⟩
    have lf : F.length = 23 := hi.len
    have HV := Lib.hid (rdV_some HP.out lf ho)
    have LF := Lib.hid lf
    obtain ⟨A4, n4, c4, hB4, hR4⟩ := hi.bR
    rw [HPK.out] at hR4
    have HM := Lib.hid ((HM0.out.below hi.blw).addF hi.bF (Nat.le_trans HM0.out.1.size HLT.out) (fun e he => Nat.lt_of_lt_of_le (HM0.out.2.1 e he).lt HLT.out))
    have HJ := Lib.hid (hj_any F p bs gR d A4 n4 c4 _ w4 lf LP.out (HE.out.below HM.out.1) (Lib.hid hB4) (Lib.hid hR4))
    clear ho hi lf hB4 hR4 HC HM0
    generalize hjB F p bs = v at HV HJ
    dsimp only at HM
    cases v with
    | true =>
      go_wp2_with (first | (refine wv_zeroF rfl rfl ?_) | (first | ((first | refine wv_box rfl _ _ rfl rfl HM ?_ | refine wv_alloc rfl _ rfl (by exact rowOf) HM ?_); first | (have q:dV HM = 0:=rfl;clear q HM;intro g1 u1 HG1 HM) | (have q:dV HM = 1:=rfl;clear q HM;intro g2 u2 HG2 HM) | (have q:dV HM = 2:=rfl;clear q HM;intro g3 u3 HG3 HM) | (have q:dV HM = 3:=rfl;clear q HM;intro g4 u4 HG4 HM)) | (refine wv_load rfl _ _ rfl rfl (by exact rowOf) HM (by exact vmemOf) (by exact vsizOf) ?_) | (refine wv_store rfl _ _ _ rfl rfl rfl (by exact rowOf) HM (by exact vidxOf) (by exact vsizOf) (by exact vsizOf) (by exact voneOf) ?_; clear HM; intro us HM; dsimp only [List.set] at HM) | (refine wl_zero rfl _ rfl (by exact arrOf) (by kernel_rfl) ?_)) | (refine wv_elem rfl _ rfl rfl HM (by exact vmemOf) (by exact velOf) ?_) | (refine wv_put rfl _ _ rfl rfl rfl HM (by exact vidxOf) (by exact vltOf) ?_; clear HM; intro us HM; dsimp only [List.set] at HM) | (refine wv_loadS rfl _ _ rfl rfl (by exact arrOf) HM (by exact vmemOf) (by exact vsubF) (by exact lenOf) ?_))
      refine HJ.out.mono ?_
      rintro e w5 ⟨rfl, h1⟩
      have HM2 := Lib.hid (HM.out.below h1).base
      clear h1 HM HJ
      have HM := HM2
      clear HM2
      go_wp2_with (first | (refine wv_zeroF rfl rfl ?_) | (first | ((first | refine wv_box rfl _ _ rfl rfl HM ?_ | refine wv_alloc rfl _ rfl (by exact rowOf) HM ?_); first | (have q:dV HM = 0:=rfl;clear q HM;intro g1 u1 HG1 HM) | (have q:dV HM = 1:=rfl;clear q HM;intro g2 u2 HG2 HM) | (have q:dV HM = 2:=rfl;clear q HM;intro g3 u3 HG3 HM) | (have q:dV HM = 3:=rfl;clear q HM;intro g4 u4 HG4 HM)) | (refine wv_load rfl _ _ rfl rfl (by exact rowOf) HM (by exact vmemOf) (by exact vsizOf) ?_) | (refine wv_store rfl _ _ _ rfl rfl rfl (by exact rowOf) HM (by exact vidxOf) (by exact vsizOf) (by exact vsizOf) (by exact voneOf) ?_; clear HM; intro us HM; dsimp only [List.set] at HM) | (refine wl_zero rfl _ rfl (by exact arrOf) (by kernel_rfl) ?_)) | (refine wv_elem rfl _ rfl rfl HM (by exact vmemOf) (by exact velOf) ?_) | (refine wv_put rfl _ _ rfl rfl rfl HM (by exact vidxOf) (by exact vltOf) ?_; clear HM; intro us HM; dsimp only [List.set] at HM) | (refine wv_loadS rfl _ _ rfl rfl (by exact arrOf) HM (by exact vmemOf) (by exact vsubF) (by exact lenOf) ?_))
      exact bodyPost_ret (v := .tuple #[.agg (icells F), .int .i64 0]) (vres_two rfl _ rfl rfl rowFr HM (by exact vmemOf) (by exact vsizOf)) rfl ⟨by rw [HV.out]; simp, HM.out.1⟩
    | false =>
      go_wp2_with (first | (refine wv_zeroF rfl rfl ?_) | (first | ((first | refine wv_box rfl _ _ rfl rfl HM ?_ | refine wv_alloc rfl _ rfl (by exact rowOf) HM ?_); first | (have q:dV HM = 0:=rfl;clear q HM;intro g1 u1 HG1 HM) | (have q:dV HM = 1:=rfl;clear q HM;intro g2 u2 HG2 HM) | (have q:dV HM = 2:=rfl;clear q HM;intro g3 u3 HG3 HM) | (have q:dV HM = 3:=rfl;clear q HM;intro g4 u4 HG4 HM)) | (refine wv_load rfl _ _ rfl rfl (by exact rowOf) HM (by exact vmemOf) (by exact vsizOf) ?_) | (refine wv_store rfl _ _ _ rfl rfl rfl (by exact rowOf) HM (by exact vidxOf) (by exact vsizOf) (by exact vsizOf) (by exact voneOf) ?_; clear HM; intro us HM; dsimp only [List.set] at HM) | (refine wl_zero rfl _ rfl (by exact arrOf) (by kernel_rfl) ?_)) | (refine wv_elem rfl _ rfl rfl HM (by exact vmemOf) (by exact velOf) ?_) | (refine wv_put rfl _ _ rfl rfl rfl HM (by exact vidxOf) (by exact vltOf) ?_; clear HM; intro us HM; dsimp only [List.set] at HM) | (refine wv_loadS rfl _ _ rfl rfl (by exact arrOf) HM (by exact vmemOf) (by exact vsubF) (by exact lenOf) ?_))
      refine HJ.out.mono ?_
      rintro e w5 ⟨rfl, h1⟩
      have HM2 := Lib.hid (HM.out.below h1).base
      clear h1 HM HJ
      have HM := HM2
      clear HM2
      go_wp2_with (first | (refine wv_zeroF rfl rfl ?_) | (first | ((first | refine wv_box rfl _ _ rfl rfl HM ?_ | refine wv_alloc rfl _ rfl (by exact rowOf) HM ?_); first | (have q:dV HM = 0:=rfl;clear q HM;intro g1 u1 HG1 HM) | (have q:dV HM = 1:=rfl;clear q HM;intro g2 u2 HG2 HM) | (have q:dV HM = 2:=rfl;clear q HM;intro g3 u3 HG3 HM) | (have q:dV HM = 3:=rfl;clear q HM;intro g4 u4 HG4 HM)) | (refine wv_load rfl _ _ rfl rfl (by exact rowOf) HM (by exact vmemOf) (by exact vsizOf) ?_) | (refine wv_store rfl _ _ _ rfl rfl rfl (by exact rowOf) HM (by exact vidxOf) (by exact vsizOf) (by exact vsizOf) (by exact voneOf) ?_; clear HM; intro us HM; dsimp only [List.set] at HM) | (refine wl_zero rfl _ rfl (by exact arrOf) (by kernel_rfl) ?_)) | (refine wv_elem rfl _ rfl rfl HM (by exact vmemOf) (by exact velOf) ?_) | (refine wv_put rfl _ _ rfl rfl rfl HM (by exact vidxOf) (by exact vltOf) ?_; clear HM; intro us HM; dsimp only [List.set] at HM) | (refine wv_loadS rfl _ _ rfl rfl (by exact arrOf) HM (by exact vmemOf) (by exact vsubF) (by exact lenOf) ?_))
      exact bodyPost_ret (v := .tuple #[.agg (icells (zr 23)), .int .i64 21]) (vres_two rfl _ rfl rfl rowFr HM (by exact vmemOf) (by exact vsizOf)) rfl ⟨by rw [HV.out]; simp, HM.out.1⟩
theorem fread_any (A : Option Addr) (n c : Nat) (bs : List Nat) (p : List Int) (w : World) (hr : Hid (Rd w A n bs)) (lp : p.length = 6) (he : Edg w) :
    Calls Tryz.prog 15 #[.slice A n c, .agg (icells p)] w (ValQ w (rdV bs p)) := by
  cases hp : chkL p with
  | false => exact fread_arg A n c bs p w lp hp
  | true =>
    by_cases h : 1 ≤ n ∧ n ≤ 40
    · exact fread_yes A n c bs p w hr lp he hp h.1 h.2
    · exact fread_far A n c bs p w hr lp hp h
end Go.Proofs.YtgpdgegelipboaaGreatDoor.Lp
namespace Go.Proofs.YtgpdgegelipboaaGreatDoor.Lp
open Go.RowKit Fx Fq Tb
theorem run_eqL (d : Nat) (T : TypeId) {n : Nat} (hT : Tryz.prog.underlying T = some (.array n 3)) (xs ys : List Int) (hl : xs.length = n) (hl' : ys.length = n) (w : World) :
    (Op.equalIn (d + 2) T (.agg (icells xs)) (.agg (icells ys))).run Tryz.prog w = .ok (decide (xs = ys)) w := by
  have hc : Tryz.prog.cellsOf 3 = 1 := by kernel_rfl
  obtain ⟨i, hi⟩ : ∃ i, Tryz.prog.info? 3 = some i := Option.isSome_iff_exists.1 (by kernel_rfl)
  rw [run_equalIn_array w (d + 1) (icells xs) (icells ys) hT hi, hc, run_items_any d xs ys w _ fun j hj => ⟨by rw [hl]; exact List.mem_range.1 hj, by rw [hl']; exact List.mem_range.1 hj⟩]
  refine congrArg (fun b => Result.ok b w) ?_
  by_cases h : xs = ys
  · subst h
    rw [decide_eq_true rfl, List.all_eq_true]
    exact fun _ _ => beq_self_eq_true _
  · rw [decide_eq_false h, Bool.eq_false_iff]
    intro hall
    refine h (getD_ext (by rw [hl, hl']) fun k hk => ?_)
    rw [List.all_eq_true] at hall
    simpa using hall k (List.mem_range.2 (by omega))
theorem eq_three {d : Nat} {xs ys : Array Value} {t1 t2 t3 : TypeId} {o1 o2 o3 : Nat} {fs : List Field} {w : World} {x1 x2 x3 y1 y2 y3 : Value} {b1 b2 b3 : Bool} (h : fs.map (fun f => (f.name, f.type, f.offset)) = [("Kind", t1, o1), ("L", t2, o2), ("Q", t3, o3)])
    (p1 : (part t1 xs o1).run Tryz.prog w = .ok x1 w) (q1 : (part t1 ys o1).run Tryz.prog w = .ok y1 w) (r1 : (Op.equalIn d t1 x1 y1).run Tryz.prog w = .ok b1 w)
    (p2 : (part t2 xs o2).run Tryz.prog w = .ok x2 w) (q2 : (part t2 ys o2).run Tryz.prog w = .ok y2 w) (r2 : (Op.equalIn d t2 x2 y2).run Tryz.prog w = .ok b2 w)
    (p3 : (part t3 xs o3).run Tryz.prog w = .ok x3 w) (q3 : (part t3 ys o3).run Tryz.prog w = .ok y3 w) (r3 : (Op.equalIn d t3 x3 y3).run Tryz.prog w = .ok b3 w) :
    (Op.eqFields d xs ys fs).run Tryz.prog w = .ok (b1 && (b2 && b3)) w := by
  obtain ⟨f1, s1, rfl, e1, h⟩ := List.map_eq_cons_iff.1 h
  obtain ⟨f2, s2, rfl, e2, h⟩ := List.map_eq_cons_iff.1 h
  obtain ⟨f3, s3, rfl, e3, h⟩ := List.map_eq_cons_iff.1 h
  obtain rfl := List.map_eq_nil_iff.1 h
  simp only [Prod.mk.injEq] at e1 e2 e3
  obtain ⟨a1, rfl, rfl⟩ := e1
  obtain ⟨a2, rfl, rfl⟩ := e2
  obtain ⟨a3, rfl, rfl⟩ := e3
  cases b1 with
  | false => simp [Op.eqFields, a1, Sem.run_bind, p1, q1, r1]
  | true =>
    cases b2 with
    | false => simp [Op.eqFields, a1, a2, Sem.run_bind, p1, q1, r1, p2, q2, r2]
    | true => cases b3 <;> simp [Op.eqFields, a1, a2, a3, Sem.run_bind, p1, q1, r1, p2, q2, r2, p3, q3, r3]
theorem part_int {xs : List Int} {o : Nat} {v : Int} {w : World} (h : o < xs.length ∧ xs.getD o 0 = v) : (part 3 (icells xs) o).run Tryz.prog w = .ok (.int .i64 v) w := by
  have ha : (isAgg 3).run Tryz.prog w = .ok false w := by kernel_rfl
  have hc : (icells xs)[o]? = some (.int .i64 v) := by rw [← h.2]; exact icells_get h.1
  simp only [part, Sem.run_bind, ha, Result.andThen_ok, Bool.false_eq_true, if_false, hc, Sem.run_pure]
theorem part_row {T : TypeId} {n : Nat} (hT : Arr T n) {xs ys : List Int} {o : Nat} {w : World} (h : (xs.drop o).take n = ys) : (part T (icells xs) o).run Tryz.prog w = .ok (.agg (icells ys)) w := by
  obtain ⟨d, h1, h2⟩ := hT.1
  have ha : (isAgg T).run Tryz.prog w = .ok true w := by
    simp only [isAgg, Sem.run_bind, run_underlying h1, Result.andThen_ok]
    cases d <;> first | rfl | cases h2
  have hs : (sizeOf T).run Tryz.prog w = .ok n w := by
    have hz := hT.size
    cases hq : Tryz.prog.info? T with
    | none => rw [hq] at hz; cases hz
    | some i =>
      rw [hq] at hz
      injection hz with hz
      rw [run_sizeOf w hq]
      unfold Program.cellsOf
      rw [hq]
      simp [hz]
  have he : (icells xs).extract o (o + n) = icells ys := by
    unfold icells
    rw [List.extract_toArray, List.extract_eq_take_drop, Nat.add_sub_cancel_left, ← List.map_drop, ← List.map_take, h]
  simp only [part, Sem.run_bind, ha, Result.andThen_ok, if_true, hs, Sem.run_pure, he]
theorem flds_frame : (Tryz.prog.fieldsOf 26).toList.map (fun f => (f.name, f.type, f.offset)) = [("Kind", 3, 0), ("L", 23, 1), ("Q", 24, 7)] := by kernel_rfl
theorem und_frame : Tryz.prog.underlying 26 = some (.struct (Tryz.prog.fieldsOf 26)) := by kernel_rfl
theorem held_frame : Tryz.prog.stoodInHeld 26 = false := by kernel_rfl
theorem grdFrame : Tryz.prog.eqGuardType Tryz.prog.depth 26 = false := by kernel_rfl
theorem run_eq_fr {F G : List Int} {K K' : Int} {l l' q q' : List Int} (hF : FrS F K l q) (hG : FrS G K' l' q') (w : World) :
    (Op.equalIn 10000 26 (.agg (icells F)) (.agg (icells G))).run Tryz.prog w = .ok (decide (K = K') && (decide (l = l') && decide (q = q'))) w := by
  have hI : Tryz.prog.underlying 3 = some (.int .i64) := by kernel_rfl
  have h1 := run_equalIn_int (P := Tryz.prog) w 9998 3 .i64 .i64 K K' hI
  rw [show (K == K') = decide (K = K') from rfl] at h1
  rw [run_equalIn_struct w 9999 26 (icells F) (icells G) und_frame held_frame]
  exact eq_three flds_frame (part_int ⟨by rw [hF.len]; decide, hF.k0⟩) (part_int ⟨by rw [hG.len]; decide, hG.k0⟩) h1
    (part_row arrLev hF.lev) (part_row arrLev hG.lev) (run_eqL 9997 23 (n := 6) (by kernel_rfl) l l' hF.ll hG.ll w)
    (part_row arrHop hF.num) (part_row arrHop hG.num) (run_eqL 9997 24 (n := 16) (by kernel_rfl) q q' hF.lq hG.lq w)
end Go.Proofs.YtgpdgegelipboaaGreatDoor.Lp
namespace Go.Proofs.YtgpdgegelipboaaGreatDoor.Lp
open Go.RowKit Fx Fq Tb
open Yr (chkB chkB_iff wrB rdR rd_back rd_one wrB_len Fr)
theorem yv_str {ops : Array Oper} {o : Oper} {a : Act} {S : World → Prop} (hw : Region.wanted o (yielded ops a.tmps) = true) (x : Operand) (ho : o.op = .convert 28 9 x) {A : Option Addr} {n c : Nat} (hx : a.eval x = .slice A n c) {bs : List Nat}
    (hS : ∀ u, S u → Rd u A n bs) : YieldsIf Tryz.prog ops S o (.string (strOf bs)) a :=
  .inl ⟨hw, fun u hu => by
    unfold execOp
    simp only [ho, hx, Sem.run_bind, Sem.run_pure, Result.andThen_ok, run_str c (hS u hu)]⟩
theorem frL_zeroA : zr 23 = frL 0 (zr 6) (zr 16) := by decide
theorem frS_zero : FrS (zr 23) 0 (zr 6) (zr 16) := by rw [frL_zeroA]; exact frS_mk (zr_length 6) (zr_length 16)
theorem zero_may : chkB 0 (zr 6) (zr 16) (zr 6) = true := by decide +kernel
theorem zero_len : (wrB 0 (zr 6) (zr 16) (zr 6)).length ≤ 8 := by decide +kernel
theorem zero_rd : rdV (wrB 0 (zr 6) (zr 16) (zr 6)) (zr 6) = .tuple #[.agg (icells (zr 23)), .int .i64 0] := by
  unfold rdV
  rw [if_pos (by decide), rd_back ((chkB_iff _ _ _ _).1 zero_may) (zr_length 6) (zr_length 16), frL_zeroA]
theorem none_rd (p : List Int) : rdR [] p = none := by
  cases h : rdR [] p with
  | none => rfl
  | some x =>
    obtain ⟨K, l, q⟩ := x
    obtain ⟨h1, h2, -⟩ := rd_one h
    have := (wrB_len ((chkB_iff _ _ _ _).1 h1)).2
    rw [h2] at this
    exact absurd this (by decide)
theorem none_rdV : rdV [] (zr 6) = .tuple #[.agg (icells (zr 23)), .int .i64 21] := by
  unfold rdV
  rw [if_pos (by decide), none_rd]
set_option maxHeartbeats 4000000 in
theorem flive_any (w : World) (he : Edg w) : Calls Tryz.prog 5 #[] w fun e w' => e = .returned (.bool true) ∧ Below w.heap.size w w' := by
  have HM := Lib.hid (MV.start w)
  have HE := Lib.hid he
  have LZ := Lib.hid (show (zr 23).length = 23 from zr_length 23)
  have hgd := grdFrame
  have heq := fun u => run_eq_fr frS_zero frS_zero u
  simp only [decide_true, Bool.and_self] at heq
  clear he
  go_enter Tryz.func5, Tryz.ntmps5
  go_wp2_with (first | (refine wv_zeroF rfl rfl ?_) | (first | ((first | refine wv_box rfl _ _ rfl rfl HM ?_ | refine wv_alloc rfl _ rfl (by exact rowOf) HM ?_); first | (have q:dV HM = 0:=rfl;clear q HM;intro g1 u1 HG1 HM) | (have q:dV HM = 1:=rfl;clear q HM;intro g2 u2 HG2 HM) | (have q:dV HM = 2:=rfl;clear q HM;intro g3 u3 HG3 HM) | (have q:dV HM = 3:=rfl;clear q HM;intro g4 u4 HG4 HM)) | (refine wv_load rfl _ _ rfl rfl (by exact rowOf) HM (by exact vmemOf) (by exact vsizOf) ?_) | (refine wv_store rfl _ _ _ rfl rfl rfl (by exact rowOf) HM (by exact vidxOf) (by exact vsizOf) (by exact vsizOf) (by exact voneOf) ?_; clear HM; intro us HM; dsimp only [List.set] at HM) | (refine wl_zero rfl _ rfl (by exact arrOf) (by kernel_rfl) ?_)) | (refine wv_elem rfl _ rfl rfl HM (by exact vmemOf) (by exact velOf) ?_) | (refine wv_put rfl _ _ rfl rfl rfl HM (by exact vidxOf) (by exact vltOf) ?_; clear HM; intro us HM; dsimp only [List.set] at HM) | (refine wv_loadS rfl _ _ rfl rfl (by exact arrOf) HM (by exact vmemOf) (by exact vsubF) (by exact lenOf) ?_))
  refine (fwrite_any (zr 23) 0 (zr 6) (zr 16) (zr 6) _ frS_zero (zr_length 6) (HE.out.below HM.out.1)).mono ?_
  intro e w2 ho
  unfold WrOut at ho
  rw [if_pos zero_may] at ho
  obtain ⟨A, n, c, rfl, hr, hb⟩ := ho
  have HR := Lib.hid hr
  have HM2 := Lib.hid (HM.out.below hb)
  have hn8 : n ≤ 8 := by rw [← hr.1]; exact zero_len
  have hn0 : 0 < n := by rw [← hr.1]; exact (wrB_len ((chkB_iff _ _ _ _).1 zero_may)).2
  clear hr hb HM
  have HM := HM2
  clear HM2
  go_wp2_with (first | (refine wv_zeroF rfl rfl ?_) | (first | ((first | refine wv_box rfl _ _ rfl rfl HM ?_ | refine wv_alloc rfl _ rfl (by exact rowOf) HM ?_); first | (have q:dV HM = 0:=rfl;clear q HM;intro g1 u1 HG1 HM) | (have q:dV HM = 1:=rfl;clear q HM;intro g2 u2 HG2 HM) | (have q:dV HM = 2:=rfl;clear q HM;intro g3 u3 HG3 HM) | (have q:dV HM = 3:=rfl;clear q HM;intro g4 u4 HG4 HM)) | (refine wv_load rfl _ _ rfl rfl (by exact rowOf) HM (by exact vmemOf) (by exact vsizOf) ?_) | (refine wv_store rfl _ _ _ rfl rfl rfl (by exact rowOf) HM (by exact vidxOf) (by exact vsizOf) (by exact vsizOf) (by exact voneOf) ?_; clear HM; intro us HM; dsimp only [List.set] at HM) | (refine wl_zero rfl _ rfl (by exact arrOf) (by kernel_rfl) ?_)) | (refine wv_elem rfl _ rfl rfl HM (by exact vmemOf) (by exact velOf) ?_) | (refine wv_put rfl _ _ rfl rfl rfl HM (by exact vidxOf) (by exact vltOf) ?_; clear HM; intro us HM; dsimp only [List.set] at HM) | (refine wv_loadS rfl _ _ rfl rfl (by exact arrOf) HM (by exact vmemOf) (by exact vsubF) (by exact lenOf) ?_))
  refine (fread_any A n c _ (zr 6) w2 HR (zr_length 6) (HE.out.below HM.out.1)).mono ?_
  rw [zero_rd]
  rintro e w3 ⟨rfl, hb⟩
  have HM2 := Lib.hid (HM.out.below hb)
  clear hb HM
  have HM := HM2
  clear HM2
  go_wp2_with (first | (refine wv_zeroF rfl rfl ?_) | (first | ((first | refine wv_box rfl _ _ rfl rfl HM ?_ | refine wv_alloc rfl _ rfl (by exact rowOf) HM ?_); first | (have q:dV HM = 0:=rfl;clear q HM;intro g1 u1 HG1 HM) | (have q:dV HM = 1:=rfl;clear q HM;intro g2 u2 HG2 HM) | (have q:dV HM = 2:=rfl;clear q HM;intro g3 u3 HG3 HM) | (have q:dV HM = 3:=rfl;clear q HM;intro g4 u4 HG4 HM)) | (refine wv_load rfl _ _ rfl rfl (by exact rowOf) HM (by exact vmemOf) (by exact vsizOf) ?_) | (refine wv_store rfl _ _ _ rfl rfl rfl (by exact rowOf) HM (by exact vidxOf) (by exact vsizOf) (by exact vsizOf) (by exact voneOf) ?_; clear HM; intro us HM; dsimp only [List.set] at HM) | (refine wl_zero rfl _ rfl (by exact arrOf) (by kernel_rfl) ?_)) | (refine wv_elem rfl _ rfl rfl HM (by exact vmemOf) (by exact velOf) ?_) | (refine wv_put rfl _ _ rfl rfl rfl HM (by exact vidxOf) (by exact vltOf) ?_; clear HM; intro us HM; dsimp only [List.set] at HM) | (refine wv_loadS rfl _ _ rfl rfl (by exact arrOf) HM (by exact vmemOf) (by exact vsubF) (by exact lenOf) ?_))
  refine (fread_any none 0 0 [] (zr 6) _ (Lib.hid Rd.none_) (zr_length 6) (HE.out.below HM.out.1)).mono ?_
  rw [none_rdV]
  rintro e w4 ⟨rfl, hb⟩
  have HM2 := Lib.hid (HM.out.below hb)
  clear hb HM
  have HM := HM2
  clear HM2
  have m1 : (0 : Int) < (n : Int) := by omega
  have m2 : (n : Int) ≤ 8 := by omega
  go_wp2_with (first | (refine wv_zeroF rfl rfl ?_) | (first | ((first | refine wv_box rfl _ _ rfl rfl HM ?_ | refine wv_alloc rfl _ rfl (by exact rowOf) HM ?_); first | (have q:dV HM = 0:=rfl;clear q HM;intro g1 u1 HG1 HM) | (have q:dV HM = 1:=rfl;clear q HM;intro g2 u2 HG2 HM) | (have q:dV HM = 2:=rfl;clear q HM;intro g3 u3 HG3 HM) | (have q:dV HM = 3:=rfl;clear q HM;intro g4 u4 HG4 HM)) | (refine wv_load rfl _ _ rfl rfl (by exact rowOf) HM (by exact vmemOf) (by exact vsizOf) ?_) | (refine wv_store rfl _ _ _ rfl rfl rfl (by exact rowOf) HM (by exact vidxOf) (by exact vsizOf) (by exact vsizOf) (by exact voneOf) ?_; clear HM; intro us HM; dsimp only [List.set] at HM) | (refine wl_zero rfl _ rfl (by exact arrOf) (by kernel_rfl) ?_)) | (refine wv_elem rfl _ rfl rfl HM (by exact vmemOf) (by exact velOf) ?_) | (refine wv_put rfl _ _ rfl rfl rfl HM (by exact vidxOf) (by exact vltOf) ?_; clear HM; intro us HM; dsimp only [List.set] at HM) | (refine wv_loadS rfl _ _ rfl rfl (by exact arrOf) HM (by exact vmemOf) (by exact vsubF) (by exact lenOf) ?_))
  go_ret
  exact ⟨rfl, HM.out.1⟩
end Go.Proofs.YtgpdgegelipboaaGreatDoor.Lp
namespace Go.Proofs.YtgpdgegelipboaaGreatDoor.Cd
open Go.RowKit
def EOut (w : World) (lo hi : Nat) (wt N E : Int) (bs : List Nat) (e : Ending) (w' : World) : Prop :=
  ∃ A n c, e = .returned (.tuple #[encV lo hi wt A n c N, .int .i64 E]) ∧ Below w.heap.size w w' ∧ Rd w' A n bs
theorem EOut.err {w w' : World} {E : Int} (hb : Below w.heap.size w w') : EOut w 0 0 0 0 E [] (.returned (.tuple #[encV 0 0 0 none 0 0 0, .int .i64 E])) w' := ⟨none, 0, 0, rfl, hb, Rd.none_⟩
def PutS (w w' : World) (be bf br : Nat) (low high : Nat) (wt : Int) (A C : Option Addr) (n c m d : Nat) (N : Int) (bs : List Nat) (xs : List Int) : Prop :=
  Blk w' be 80 #[.int .u32 (low : Int), .int .u32 (high : Int), .int .i64 wt, .slice A n c, .int .i64 N] ∧ Blk w' bf 40 #[.slice C m d] ∧ Blk w' br 80 #[.int .u32 0, .int .u32 0, .int .i64 0, .slice none 0 0, .int .i64 0] ∧ Rd w' A n bs ∧ Fq.RdI w' C m xs ∧ Below w.heap.size w w'
section
variable {w w1 w2 : World} {be bf br : Nat} {low high : Nat} {wt : Int} {A C : Option Addr} {n c m d : Nat} {N : Int} {bs : List Nat} {xs : List Int}
theorem PutS.next (h : PutS w w1 be bf br low high wt A C n c m d N bs xs) (hb : Below w1.heap.size w1 w2) : PutS w w2 be bf br low high wt A C n c m d N bs xs :=
  ⟨h.1.below hb h.1.lt, h.2.1.below hb h.2.1.lt, h.2.2.1.below hb h.2.2.1.lt, h.2.2.2.1.below hb, h.2.2.2.2.1.below hb, h.2.2.2.2.2.trans (hb.mono h.2.2.2.2.2.size)⟩
theorem PutS.drewN (h : PutS w w1 be bf br low high wt A C n c m d N bs xs) (q : Nat) : PutS w (w1.drewN q) be bf br low high wt A C n c m d N bs xs :=
  ⟨h.1, h.2.1, h.2.2.1, h.2.2.2.1, h.2.2.2.2.1, below_drewN h.2.2.2.2.2 q⟩
theorem PutS.drew (h : PutS w w1 be bf br low high wt A C n c m d N bs xs) : PutS w w1.drew be bf br low high wt A C n c m d N bs xs :=
  ⟨h.1, h.2.1, h.2.2.1, h.2.2.2.1, h.2.2.2.2.1, Below.drew h.2.2.2.2.2⟩
end
theorem putS_start (w : World) (low high : Nat) (wt : Int) (A C : Option Addr) (n c m d : Nat) (N : Int) (bs : List Nat) (xs : List Int) (hr : Rd w A n bs) (hx : Fq.RdI w C m xs) :
    PutS w (((w.alloc (.cells #[.int .u32 (low : Int), .int .u32 (high : Int), .int .i64 wt, .slice A n c, .int .i64 N] 80)).alloc (.cells #[.slice C m d] 40)).alloc (.cells #[.int .u32 0, .int .u32 0, .int .i64 0, .slice none 0 0, .int .i64 0] 80)) w.heap.size (w.heap.size + 1) (w.heap.size + 1 + 1) low high wt A C n c m d N bs xs :=
  ⟨((Blk.new w _ _).alloc _).alloc _, (Blk.newAt (by simp)).alloc _, Blk.newAt (by simp), ((hr.alloc _).alloc _).alloc _, ((hx.alloc _).alloc _).alloc _, (((Below.refl w.heap.size w).alloc (Nat.le_refl _) _).alloc (by simp) _).alloc (by simp; omega) _⟩
theorem frz5 {w : World} {t : TypeId} {cs : Array Value} {g : Nat} (h : Blk w g t cs) : w.frozen? ⟨g, 0, none⟩ = false ∧ w.frozen? ⟨g, 1, none⟩ = false ∧ w.frozen? ⟨g, 2, none⟩ = false ∧ w.frozen? ⟨g, 3, none⟩ = false ∧ w.frozen? ⟨g, 4, none⟩ = false := ⟨h.frozen 0, h.frozen 1, h.frozen 2, h.frozen 3, h.frozen 4⟩
set_option maxHeartbeats 2000000 in
theorem rputE_arg (low high : Nat) (wt : Int) (A C : Option Addr) (n c m d : Nat) (N : Int) (bs : List Nat) (xs : List Int) (s : Int) (w : World) (hl : low < 4294967296) (hh : high < 4294967296) (hr : Hid (Rd w A n bs)) (hx : Hid (Fq.RdI w C m xs)) (hm : Hid (m ≤ maxLen)) (hbad : Hid (okE low high wt bs N = false ∨ okE low high wt bs N = true ∧ Fq.symB xs s = false)) :
    Calls Tryz.prog 48 #[encV low high wt A n c N, Fq.frV C m d, .int .i64 s] w (EOut w 0 0 0 0 1 []) := by
  have HS0 := Lib.hid (putS_start w low high wt A C n c m d N bs xs hr.out hx.out)
  unfold encV Fq.frV
  go_enter Tryz.func48, Tryz.ntmps48
  go_wp2_with fail
  generalize (((w.alloc (.cells #[.int .u32 (low : Int), .int .u32 (high : Int), .int .i64 wt, .slice A n c, .int .i64 N] 80)).alloc (.cells #[.slice C m d] 40)).alloc (.cells #[.int .u32 0, .int .u32 0, .int .i64 0, .slice none 0 0, .int .i64 0] 80)) = w0 at HS0 ⊢
  obtain ⟨sa, sb, se, hsp, -, hse⟩ := spanV_some xs s
  have HSE := Lib.hid hse
  have hcon := Fq.rspan_any C m d xs s w0 (Lib.hid HS0.out.2.2.2.2.1) hm.out
  rw [hsp] at hcon
  refine hcon.mono ?_
  clear hcon hsp hse
  rintro e w1 ⟨rfl, hb1⟩
  have HS1 := Lib.hid (HS0.out.next hb1)
  clear hb1 HS0
  unfold Fq.spanT
  obtain ⟨x1, x2, x3, x4, x5⟩ := blk5 HS1.out.1
  go_wp2_with fail
  clear x1 x2 x3 x4 x5
  rcases hbad.out with hb | ⟨hb, hs⟩
  · refine (rcheckEnc_any low high wt A n c N bs false w1 hl hh (Lib.hid HS1.out.2.2.2.1) (Lib.hid hb)).mono ?_
    rintro e w2 ⟨rfl, hb2⟩
    have HS2 := Lib.hid (HS1.out.next hb2)
    clear hb2 HS1
    obtain ⟨y1, y2, y3, y4, y5⟩ := blk5 HS2.out.2.2.1
    obtain ⟨z1, z2, z3, z4, z5⟩ := frz5 HS2.out.2.2.1
    go_wp2
    exact bodyPost_ret (v := .tuple #[encV 0 0 0 none 0 0 0, .int .i64 1]) (by simp [results, Tryz.results48, go_sem, encV, y1, y2, y3, y4, y5]) rfl (EOut.err (below5 HS2.out.2.2.2.2.2 (by omega) _ _ _ _ _))
  · refine (rcheckEnc_any low high wt A n c N bs true w1 hl hh (Lib.hid HS1.out.2.2.2.1) (Lib.hid hb)).mono ?_
    rintro e w2 ⟨rfl, hb2⟩
    have HS2 := Lib.hid (HS1.out.next hb2)
    clear hb2 HS1
    obtain ⟨y1, y2, y3, y4, y5⟩ := blk5 HS2.out.2.2.1
    obtain ⟨z1, z2, z3, z4, z5⟩ := frz5 HS2.out.2.2.1
    obtain rfl := HSE.out hs
    go_wp2
    exact bodyPost_ret (v := .tuple #[encV 0 0 0 none 0 0 0, .int .i64 1]) (by simp [results, Tryz.results48, go_sem, encV, y1, y2, y3, y4, y5]) rfl (EOut.err (below5 HS2.out.2.2.2.2.2 (by omega) _ _ _ _ _))
def encWhat (e : En) : Nat × Nat × Int × Int × Int × List Nat := if e.out.length ≤ 65536 ∧ e.wait ≤ 65536 then (e.low, e.high, (e.wait : Int), (e.out.length : Int), 0, pack e.out) else (0, 0, 0, 0, 2, [])
theorem stepE_out (e : En) : e.out.length ≤ (stepE e).out.length := by
  rcases kind_cases e.low e.high with ⟨hk, _⟩ | ⟨hk, _⟩ | ⟨hk, _⟩ | ⟨hk, _⟩
  · rw [stepE_0 hk]; show _ ≤ (emit e.out false e.wait).length; rw [emit_length]; omega
  · rw [stepE_1 hk]; show _ ≤ (emit e.out true e.wait).length; rw [emit_length]; omega
  · rw [stepE_2 hk]; exact Nat.le_refl _
  · unfold stepE; rw [if_neg (by omega), if_neg (by omega), if_neg (by omega)]; exact Nat.le_refl _
theorem widE_out (n : Nat) : ∀ e : En, e.out.length ≤ (widE n e).out.length := by
  induction n with
  | zero => intro e; exact Nat.le_refl _
  | succ n ih =>
    intro e
    unfold widE
    split
    · exact Nat.le_refl _
    · exact Nat.le_trans (stepE_out e) (ih _)
theorem widE_done (n : Nat) (e : En) (h : kind e.low e.high = 3) : widE n e = e := by
  cases n with
  | zero => rfl
  | succ n => unfold widE; rw [if_pos h]
theorem rd_five {w : World} {A : Option Addr} {n g : Nat} {bs : List Nat} {t : TypeId} {a0 a1 a2 a4 : Int} {v0 : Option Addr} {v1 v2 : Nat} (h : Rd w A n bs) (hb : Blk w g t #[.int .u32 a0, .int .u32 a1, .int .i64 a2, .slice v0 v1 v2, .int .i64 a4]) (x0 x1 x2 x3 x4 : Value) :
    Rd (((((w.setCell ⟨g, 0, none⟩ x0).setCell ⟨g, 1, none⟩ x1).setCell ⟨g, 2, none⟩ x2).setCell ⟨g, 3, none⟩ x3).setCell ⟨g, 4, none⟩ x4) A n bs := by
  have h0 := h.setCell (p := ⟨g, 0, none⟩) x0 (fun x => by rw [hb.cell 0]; simp [byteV])
  have b0 := hb.set_ 0 x0
  have h1 := h0.setCell (p := ⟨g, 1, none⟩) x1 (fun x => by rw [b0.cell 1]; simp [byteV])
  have b1 := b0.set_ 1 x1
  have h2 := h1.setCell (p := ⟨g, 2, none⟩) x2 (fun x => by rw [b1.cell 2]; simp [byteV])
  have b2 := b1.set_ 2 x2
  have h3 := h2.setCell (p := ⟨g, 3, none⟩) x3 (fun x => by rw [b2.cell 3]; simp [byteV])
  have b3 := b2.set_ 3 x3
  exact h3.setCell (p := ⟨g, 4, none⟩) x4 (fun x => by rw [b3.cell 4]; simp [byteV])
theorem PutS.put {w u : World} {be X : Nat} {low high : Nat} {wt : Int} {A C : Option Addr} {n c m d : Nat} {N : Int} {bs : List Nat} {xs : List Int} (h : PutS w u be (be + 1) (be + 1 + 1) low high wt A C n c m d N bs xs) (hX : be + 1 + 1 < X) (hb : w.heap.size ≤ be) (hr : Rd w A n bs) (hx : Fq.RdI w C m xs) (i : Nat) (v : Value) : PutS w (u.setCell ⟨X, i, none⟩ v) be (be + 1) (be + 1 + 1) low high wt A C n c m d N bs xs := by
  have hbl : Below w.heap.size w (u.setCell ⟨X, i, none⟩ v) := h.2.2.2.2.2.setCell (p := ⟨X, i, none⟩) (by show w.heap.size ≤ X; omega) v
  exact ⟨h.1.far (p := ⟨X, i, none⟩) (by show be ≠ X; omega) v, h.2.1.far (p := ⟨X, i, none⟩) (by show be + 1 ≠ X; omega) v, h.2.2.1.far (p := ⟨X, i, none⟩) (by show be + 1 + 1 ≠ X; omega) v, hr.below hbl, hx.below hbl, hbl⟩
def PxS (w : World) (be X : Nat) (low high : Nat) (wt : Int) (A C : Option Addr) (n c m d : Nat) (N : Int) (bs : List Nat) (xs : List Int) (q : En) (u : World) : Prop :=
  PutS w u be (be + 1) (be + 1 + 1) low high wt A C n c m d N bs xs ∧ be + 1 + 1 < X ∧ ∃ A7 n7 c7, Blk u X 80 #[.int .u32 0, .int .u32 0, .int .i64 ((q.wait : Nat) : Int), .slice A7 n7 c7, .int .i64 ((q.out.length : Nat) : Int)] ∧ IsB u (.agg #[.slice A7 n7 c7, .int .i64 ((q.out.length : Nat) : Int)]) q.out
theorem px_a {w w7 : World} {be base : Nat} {low high k : Nat} {A C : Option Addr} {n c m d : Nat} {N : Int} {bs : List Nat} {xs : List Int} {l : List Bool} {A7 : Option Addr} {n7 c7 : Nat} (h : PutS w w7 be (be + 1) (be + 1 + 1) low high (k : Int) A C n c m d N bs xs) (ho : w7.ownsRow base 5 1 (.slice A7 n7 c7) n7 (bs.map byteV)) (hib : bs = pack l ∧ N = (l.length : Int) ∧ l.length ≤ 65536) (lo hi : Nat) :
    ∃ X, (Value.pointer (some ⟨w7.heap.size, 0, none⟩)) = .pointer (some ⟨X, 0, none⟩) ∧ Hid (PxS w be X low high (k : Int) A C n c m d N bs xs ⟨lo, hi, k, l⟩ (w7.alloc (.cells #[.int .u32 0, .int .u32 0, .int .i64 (k : Int), .slice A7 n7 c7, .int .i64 N] 80))) := by
  obtain ⟨rfl, rfl, hl⟩ := hib
  exact ⟨_, rfl, Lib.hid ⟨h.next ((Below.refl _ _).alloc (Nat.le_refl _) _), h.2.2.1.lt, A7, n7, c7, Blk.new w7 _ _, (copy_isB hl ho).alloc _⟩⟩
theorem px_b {w w7 : World} {be base X : Nat} {low high k : Nat} {A C : Option Addr} {n c m d : Nat} {N : Int} {bs : List Nat} {xs : List Int} {l : List Bool} {A7 : Option Addr} {n7 c7 : Nat} (h : PutS w w7 be (be + 1) (be + 1 + 1) low high (k : Int) A C n c m d N bs xs) (hX : be + 1 + 1 < X) (hb : w.heap.size ≤ be) (hr : Rd w A n bs) (hx : Fq.RdI w C m xs) (hz : Blk w7 X 80 #[.int .u32 0, .int .u32 0, .int .i64 0, .slice none 0 0, .int .i64 0]) (ho : w7.ownsRow base 5 1 (.slice A7 n7 c7) n7 (bs.map byteV)) (hib : bs = pack l ∧ N = (l.length : Int) ∧ l.length ≤ 65536) (lo hi : Nat) :
    ∃ X', (Value.pointer (some ⟨X, 0, none⟩)) = .pointer (some ⟨X', 0, none⟩) ∧ Hid (PxS w be X' low high (k : Int) A C n c m d N bs xs ⟨lo, hi, k, l⟩ (((((w7.setCell ⟨X, 0, none⟩ (.int .u32 0)).setCell ⟨X, 1, none⟩ (.int .u32 0)).setCell ⟨X, 2, none⟩ (.int .i64 (k : Int))).setCell ⟨X, 3, none⟩ (.slice A7 n7 c7)).setCell ⟨X, 4, none⟩ (.int .i64 N))) := by
  obtain ⟨rfl, rfl, hl⟩ := hib
  refine ⟨X, rfl, Lib.hid ⟨((((h.put hX hb hr hx 0 _).put hX hb hr hx 1 _).put hX hb hr hx 2 _).put hX hb hr hx 3 _).put hX hb hr hx 4 _, hX, A7, n7, c7, ((((hz.set_ 0 _).set_ 1 _).set_ 2 _).set_ 3 _).set_ 4 _, ?_⟩⟩
  obtain ⟨e1, _, e3, e4⟩ := isB_parts (copy_isB hl ho)
  subst e1
  exact ⟨A7, c7, rfl, rd_five e3 hz _ _ _ _ _, e4⟩
theorem rput_end {u : World} {X br : Nat} {t t' : TypeId} {a0 a1 a2 a4 : Int} {v0 : Option Addr} {v1 v2 : Nat} {A : Option Addr} {n : Nat} {bs : List Nat} (h : Rd u A n bs) (hX : Blk u X t #[.int .u32 a0, .int .u32 a1, .int .i64 a2, .slice v0 v1 v2, .int .i64 a4]) (hB : Blk u br t' #[.int .u32 0, .int .u32 0, .int .i64 0, .slice none 0 0, .int .i64 0]) (hne : br ≠ X) (y0 y1 x0 x1 x2 x3 x4 : Value) :
    Rd (((((((u.setCell ⟨X, 0, none⟩ y0).setCell ⟨X, 1, none⟩ y1).setCell ⟨br, 0, none⟩ x0).setCell ⟨br, 1, none⟩ x1).setCell ⟨br, 2, none⟩ x2).setCell ⟨br, 3, none⟩ x3).setCell ⟨br, 4, none⟩ x4) A n bs := by
  have h0 := h.setCell (p := ⟨X, 0, none⟩) y0 (fun x => by rw [hX.cell 0]; simp [byteV])
  have b0 := hX.set_ 0 y0
  have h1 := h0.setCell (p := ⟨X, 1, none⟩) y1 (fun x => by rw [b0.cell 1]; simp [byteV])
  exact rd_five h1 ((hB.far (p := ⟨X, 0, none⟩) hne y0).far (p := ⟨X, 1, none⟩) hne y1) x0 x1 x2 x3 x4
def RpR (fin : En) (gk : Nat) (q : En) : Prop := widE gk q = fin ∧ Ok q.low q.high ∧ 4294967296 < wid q * 2 ^ (gk + 1) ∧ q.wait + gk ≤ 65600
theorem RpR.step {fin q : En} {m : Nat} (h : RpR fin (m + 1) q) (hk : kind q.low q.high ≠ 3) : RpR fin m (stepE q) := by
  obtain ⟨hf, hok, hw, h2⟩ := h
  refine ⟨?_, (stepE_low hok hk).2.2, ?_, ?_⟩
  · unfold widE at hf; rwa [if_neg hk] at hf
  · rw [stepE_wid hok hk]
    rw [Nat.pow_succ 2 (m + 1)] at hw
    rw [Nat.mul_comm 2 (wid q), Nat.mul_assoc, Nat.mul_comm 2]
    exact hw
  · have := stepE_wait hk; omega
theorem RpR.zero {fin q : En} (h : RpR fin 0 q) : kind q.low q.high = 3 := widR_zero h.2.1 h.2.2.1
theorem rpr_start {low high k : Nat} {l : List Bool} {a b T nlo nhi : Nat} (hl : low < high) (hh : high < 4294967296) (hk3 : kind low high = 3) (hk : k ≤ 65536) (hS : Sp a b T) (h1 : nlo = low + (high - low + 1) * a / T) (h2 : nhi = low + (high - low + 1) * b / T - 1) : RpR (putE ⟨low, high, k, l⟩ a b T) 40 ⟨nlo, nhi, k, l⟩ := by
  obtain ⟨n1, _, _, _, n5⟩ := nar_ok (e := ⟨low, high, k, l⟩) ⟨by show low ≤ high; omega, hh⟩ hk3 hS
  have e : (⟨nlo, nhi, k, l⟩ : En) = nar ⟨low, high, k, l⟩ a b T := by rw [h1, h2]; rfl
  rw [e]
  refine ⟨rfl, n1, ?_, ?_⟩
  · rw [pow41]; omega
  · show k + 40 ≤ 65600; omega
theorem int_eqJ {k : IntKind} {a b : Int} (h : a = b) : Value.int k a = .int k b := by rw [h]
theorem stepE_0z {e : En} (h : kind e.low e.high = 0) : stepE e = ⟨2 * (e.low - 0), 2 * (e.high - 0) + 1, 0, emit e.out false e.wait⟩ := stepE_0 h
section
variable {w u u' : World} {be X : Nat} {low high : Nat} {wt : Int} {A C : Option Addr} {n c m d : Nat} {N : Int} {bs : List Nat} {xs : List Int} {q : En}
theorem PxS.base (h : PxS w be X low high wt A C n c m d N bs xs q u) : Below w.heap.size w u := h.1.2.2.2.2.2
theorem PxS.wait (h : PxS w be X low high wt A C n c m d N bs xs q u) (hb : w.heap.size ≤ be) (hr : Rd w A n bs) (hx : Fq.RdI w C m xs) (lo hi : Nat) : PxS w be X low high wt A C n c m d N bs xs ⟨lo, hi, q.wait + 1, q.out⟩ (u.setCell ⟨X, 2, none⟩ (.int .i64 ((q.wait + 1 : Nat) : Int))) := by
  obtain ⟨h1, h2, A7, n7, c7, h3, h4⟩ := h
  refine ⟨h1.put h2 hb hr hx 2 _, h2, A7, n7, c7, h3.set_ 2 _, ?_⟩
  obtain ⟨e1, _, e3, e4⟩ := isB_parts h4
  subst e1
  exact ⟨A7, c7, rfl, e3.setCell _ (fun x => by rw [h3.cell 2]; simp [byteV]), e4⟩
theorem PxS.sent {l2 : List Bool} {A8 : Option Addr} {n8 c8 : Nat} {o : Obj} (h : PxS w be X low high wt A C n c m d N bs xs q u) (hb : w.heap.size ≤ be) (hr : Rd w A n bs) (hx : Fq.RdI w C m xs) (lo hi : Nat) (hbl : Below u.heap.size u u') (hr8 : Rd u' A8 n8 (pack l2)) (hl2 : l2.length ≤ 65536) :
    PxS w be X low high wt A C n c m d N bs xs ⟨lo, hi, 0, l2⟩ ((((u'.setCell ⟨X, 3, none⟩ (.slice A8 n8 c8)).setCell ⟨X, 4, none⟩ (.int .i64 ((l2.length : Nat) : Int))).setCell ⟨X, 2, none⟩ (.int .i64 0)).alloc o) := by
  obtain ⟨h1, h2, A7, n7, c7, h3, _⟩ := h
  have h3' := h3.below hbl h3.lt
  have g1 := hr8.setCell (p := ⟨X, 3, none⟩) (.slice A8 n8 c8) (fun x => by rw [h3'.cell 3]; simp [byteV])
  have b1 := h3'.set_ 3 (.slice A8 n8 c8)
  have g2 := g1.setCell (p := ⟨X, 4, none⟩) (.int .i64 ((l2.length : Nat) : Int)) (fun x => by rw [b1.cell 4]; simp [byteV])
  have b2 := b1.set_ 4 (.int .i64 ((l2.length : Nat) : Int))
  have g3 := g2.setCell (p := ⟨X, 2, none⟩) (.int .i64 0) (fun x => by rw [b2.cell 2]; simp [byteV])
  have b3 := b2.set_ 2 (.int .i64 0)
  refine ⟨((((h1.next hbl).put h2 hb hr hx 3 _).put h2 hb hr hx 4 _).put h2 hb hr hx 2 _).next ((Below.refl _ _).alloc (Nat.le_refl _) _), h2, A8, n8, c8, b3.alloc _, ?_⟩
  have hn8 : n8 = (pack l2).length := hr8.1.symm
  subst hn8
  exact ⟨A8, c8, rfl, g3.alloc _, hl2⟩
end
set_option maxHeartbeats 8000000 in
theorem rputE_ok (low high k : Nat) (A C : Option Addr) (n c m d a b T : Nat) (N : Int) (bs : List Nat) (l : List Bool) (xs : List Int) (s : Int) (lo hi : Nat) (wt NN EE : Int) (be : List Nat) (w : World) (hl : low < high) (hh : high < 4294967296) (hk3 : Hid (kind low high = 3)) (hk : k ≤ 65536) (hr : Hid (Rd w A n bs)) (hn : n ≤ 8192) (hib : Hid (bs = pack l ∧ N = (l.length : Int) ∧ l.length ≤ 65536)) (hok : Hid (okE low high (k : Int) bs N = true)) (hx : Hid (Fq.RdI w C m xs)) (hm : Hid (m ≤ maxLen)) (hsp : Hid (Fq.spanV xs s = Fq.spanT (a : Int) (b : Int) 0)) (hF : Hid (Fq.okF xs = true)) (hT : Hid (Fq.totF true xs = (T : Int))) (hS : Hid (Sp a b T))
    (hp : Hid (encWhat (putE ⟨low, high, k, l⟩ a b T) = (lo, hi, wt, NN, EE, be))) :
    Calls Tryz.prog 48 #[encV low high (k : Int) A n c N, Fq.frV C m d, .int .i64 s] w (EOut w lo hi wt NN EE be) := by
  have HS0 := Lib.hid (putS_start w low high (k : Int) A C n c m d N bs xs hr.out hx.out)
  obtain ⟨S1, S2, S3⟩ := hS.out
  unfold encV Fq.frV
  go_enter Tryz.func48, Tryz.ntmps48
  go_wp2_with fail
  generalize (((w.alloc (.cells #[.int .u32 (low : Int), .int .u32 (high : Int), .int .i64 (k : Int), .slice A n c, .int .i64 N] 80)).alloc (.cells #[.slice C m d] 40)).alloc (.cells #[.int .u32 0, .int .u32 0, .int .i64 0, .slice none 0 0, .int .i64 0] 80)) = w0 at HS0 ⊢
  obtain ⟨be', hbe⟩ : ∃ be', be' = w.heap.size := ⟨_, rfl⟩
  rw [← hbe] at HS0 ⊢
  have HBE := Lib.hid hbe
  clear hbe
  have hcon := Fq.rspan_any C m d xs s w0 (Lib.hid HS0.out.2.2.2.2.1) hm.out
  rw [hsp.out] at hcon
  refine hcon.mono ?_
  clear hcon
  rintro e w1 ⟨rfl, hb1⟩
  have HS1 := Lib.hid (HS0.out.next hb1)
  clear hb1 HS0
  unfold Fq.spanT
  obtain ⟨x1, x2, x3, x4, x5⟩ := blk5 HS1.out.1
  go_wp2_with fail
  clear x1 x2 x3 x4 x5
  refine (rcheckEnc_any low high (k : Int) A n c N bs true w1 (by omega) hh (Lib.hid HS1.out.2.2.2.1) hok).mono ?_
  rintro e w2 ⟨rfl, hb2⟩
  have HS2 := Lib.hid (HS1.out.next hb2)
  clear hb2 HS1
  go_wp2_with fail
  obtain ⟨x1, x2, -, -, -⟩ := blk5 HS2.out.1
  have x3 := Fq.blk0 HS2.out.2.1
  obtain ⟨nlo, hnlo⟩ : ∃ nlo, nlo = low + (high - low + 1) * a / T := ⟨_, rfl⟩
  obtain ⟨nhi, hnhi⟩ : ∃ nhi, nhi = low + (high - low + 1) * b / T - 1 := ⟨_, rfl⟩
  have HNL := Lib.hid hnlo
  have HNH := Lib.hid hnhi
  clear hnlo hnhi
  have HW1 := Lib.hid (show 1 ≤ (high - low + 1) * b / T by
    have hw := wide_wid (e := ⟨low, high, k, l⟩) ⟨by show low ≤ high; omega, hh⟩ hk3.out
    have hw1 : 1073741824 ≤ high - low + 1 := hw.1
    exact Nat.lt_of_le_of_lt (Nat.zero_le _) (nar_parts hS.out (W := high - low + 1) (by omega)).1)
  have v1 : IntKind.u64.wrap (low : Int) = (low : Int) := IntWalk.u64_in _ (by omega)
  have v2 : IntKind.u64.wrap (high : Int) = (high : Int) := IntWalk.u64_in _ (by omega)
  have C1 := Lib.hid (show ∀ u, PutS w u be' (be' + 1) (be' + 1 + 1) low high (k : Int) A C n c m d N bs xs → Calls Tryz.prog 65 #[.agg #[.slice C m d]] u (fun e w' => e = .returned (.int .i64 (T : Int)) ∧ PutS w w' be' (be' + 1) (be' + 1 + 1) low high (k : Int) A C n c m d N bs xs) from fun u h =>
    (Fq.rtotal_any C m d xs true (T : Int) u (Lib.hid h.2.2.2.2.1) hm.out hF.out hT.out).mono fun e w' ⟨h1, h2⟩ => ⟨h1, h.next h2⟩)
  have C2 := Lib.hid (show ∀ u, PutS w u be' (be' + 1) (be' + 1 + 1) low high (k : Int) A C n c m d N bs xs → Calls Tryz.prog 68 #[.int .u64 (low : Int), .int .u64 (high : Int), .int .i64 (a : Int), .int .i64 (b : Int), .int .i64 (T : Int)] u (fun e w' => e = .returned (.tuple #[.int .u64 (nlo : Int), .int .u64 (nhi : Int)]) ∧ PutS w w' be' (be' + 1) (be' + 1 + 1) low high (k : Int) A C n c m d N bs xs) from fun u h =>
    (rnarrow_any low high a b T nlo nhi u (by omega) hh (by omega) (by omega) (by omega) S3 HNL HNH HW1).mono fun e w' ⟨h1, q, h2⟩ => ⟨h1, by rw [h2]; exact h.drewN q⟩)
  go_region_held3 (fun w' => w'.cell? ⟨be', 0, none⟩ = some (.int .u32 (low : Int)) ∧ w'.cell? ⟨be', 1, none⟩ = some (.int .u32 (high : Int)) ∧ w'.cell? ⟨be' + 1, 0, none⟩ = some (.slice C m d) ∧ PutS w w' be' (be' + 1) (be' + 1 + 1) low high (k : Int) A C n c m d N bs xs) (first | exact ⟨(blk5 hQ.1).1, (blk5 hQ.1).2.1, Fq.blk0 hQ.2.1, hQ⟩ | exact ⟨x1, x2, x3, HS2.out⟩ | exact ⟨x1, x2, x3, HS2.out.drew⟩) (first
    | (go_at_call 65; refine (C1.out _ (by first | exact hQ | exact HS2.out | exact HS2.out.drew)).mono ?_; rintro e w6 ⟨rfl, hQ⟩)
    | (go_at_call 68; refine (C2.out _ (by first | exact hQ | exact HS2.out | exact HS2.out.drew)).mono ?_; rintro e w6 ⟨rfl, hQ⟩))
  have HQ := Lib.hid hQ
  clear hQ x1 x2 x3 v1 v2 C1 C2
  go_wp2_with fail
  go_cut [13] (fun v13 wx => ∃ X, v13 = .pointer (some ⟨X, 0, none⟩) ∧ Hid (PxS w be' X low high (k : Int) A C n c m d N bs xs ⟨nlo, nhi, k, l⟩ wx))
  case first =>
    obtain ⟨-, -, x3, x4, x5⟩ := blk5 HQ.out.1
    have lx := HQ.out.2.2.1.lt
    have lx2 := HQ.out.1.lt
    have HQA := Lib.hid (show PutS w (w6.alloc (.cells #[.int .u32 0, .int .u32 0, .int .i64 0, .slice none 0 0, .int .i64 0] 80)).drew be' (be' + 1) (be' + 1 + 1) low high (k : Int) A C n c m d N bs xs from (HQ.out.next ((Below.refl _ _).alloc (Nat.le_refl _) _)).drew)
    have HZA := Lib.hid (Blk.new w6 80 #[.int .u32 0, .int .u32 0, .int .i64 0, .slice none 0 0, .int .i64 0]).drew
    go_region_with (first
      | (go_at_call 62; refine (rcopy_any A n c N bs (w6.alloc (.cells #[.int .u32 0, .int .u32 0, .int .i64 0, .slice none 0 0, .int .i64 0] 80)).drew HQA.out.2.2.2.1 (by omega)).mono ?_; rintro e w7 ⟨A7, n7, c7, rfl, ho7, hb7⟩; have HO7 := Lib.hid ho7; have HB7 := Lib.hid hb7; have HP7 := Lib.hid (HQA.out.next hb7); obtain ⟨-, -, u3, u4, u5⟩ := blk5 HP7.out.1; have HZ7 := Lib.hid (HZA.out.below hb7 HZA.out.lt); obtain ⟨y1, y2, y3, y4, y5⟩ := blk5 HZ7.out; obtain ⟨z1, z2, z3, z4, z5⟩ := frz5 HZ7.out; clear ho7 hb7)
      | (go_at_call 62; refine (rcopy_any A n c N bs w6.drew HQ.out.drew.2.2.2.1 (by omega)).mono ?_; rintro e w7 ⟨A7, n7, c7, rfl, ho7, hb7⟩; have HO7 := Lib.hid ho7; have HB7 := Lib.hid hb7; have HP7 := Lib.hid (HQ.out.drew.next hb7); obtain ⟨-, -, u3, u4, u5⟩ := blk5 HP7.out.1; have l7 := HP7.out.1.lt; clear ho7 hb7))
    all_goals
      go_wp2_with fail
      go_meet
      first
      | exact px_a HP7.out HO7.out hib.out nlo nhi
      | exact px_b HP7.out lx (by have := HBE.out; omega) hr.out hx.out HZ7.out HO7.out hib.out nlo nhi
  case rest =>
    obtain ⟨X, rfl, HX⟩ := hcut
    clear HQ
    obtain ⟨fin, hfin⟩ : ∃ fin, putE ⟨low, high, k, l⟩ a b T = fin := ⟨_, rfl⟩
    have HRP := Lib.hid (rpr_start hl hh hk3.out hk hS.out HNL.out HNH.out (l := l))
    rw [hfin] at HRP
    have HPF := hp
    rw [hfin] at HPF
    clear hfin
    have HBW := Lib.hid (show w.heap.size ≤ be' by have := HBE.out; omega)
    go_wp2_with fail
    go_loopg [11, 12] 40 (fun gk v11 v12 wr => ∃ q : En, v11 = .int .u64 (q.low : Int) ∧ v12 = .int .u64 (q.high : Int) ∧ Hid (RpR fin gk q ∧ PxS w be' X low high (k : Int) A C n c m d N bs xs q wr))
    case atStart => exact ⟨⟨nlo, nhi, k, l⟩, rfl, rfl, Lib.hid ⟨HRP.out, HX.out⟩⟩
    case round =>
      obtain ⟨q, rfl, rfl, HZ⟩ := hrel
      clear HRP HX
      obtain ⟨-, ⟨g1, g2⟩, -, g5⟩ := HZ.out.1
      obtain ⟨-, hX2, A7, n7, c7, hBX, hI7⟩ := HZ.out.2
      have HBX := Lib.hid hBX
      have HI7 := Lib.hid hI7
      have HOL := Lib.hid (isB_parts hI7).2.2.2
      have qw : q.wait ≤ 65600 := by omega
      clear hBX hI7
      obtain ⟨x1, x2, x3, x4, x5⟩ := blk5 HBX.out
      obtain ⟨f1, f2, f3, f4, f5⟩ := frz5 HBX.out
      rcases kind_cases q.low q.high with ⟨hk', k1⟩ | ⟨hk', k1, k2⟩ | ⟨hk', k1, k2, k3, k4⟩ | ⟨hk', k1, k2, k3⟩
      · have HKK := Lib.hid hk'
        have d1 : decide ((q.high : Int) < 2147483648) = true := by simp; omega
        clear hk'
        cases gk with
        | zero => exact absurd HZ.out.1.zero (by rw [HKK.out]; decide)
        | succ p =>
          have HRS := Lib.hid (RpR.step HZ.out.1 (by rw [HKK.out]; decide))
          rw [stepE_0z HKK.out] at HRS
          obtain ⟨N8, E8, bs8, hp8⟩ : ∃ N8 E8 bs8, pWhat (emit q.out false q.wait) = (N8, E8, bs8) := ⟨_, _, _, rfl⟩
          have HP8 := Lib.hid hp8
          clear hp8
          go_wp2_with fail
          refine (rout_any A7 n7 c7 q.out false 0 q.wait _ N8 E8 bs8 wr HI7 (Lib.hid rfl) (by omega) (by omega) HP8).mono ?_
          rintro e w8 ⟨A8, n8, c8, rfl, hb8, hr8⟩
          rcases pWhat_cases HP8.out with ⟨q1, q2, q3, q4⟩ | ⟨q1, q2, q3, q4⟩
          · subst q2 q3 q4
            have HBX8 := Lib.hid (HBX.out.below hb8 HBX.out.lt)
            have HPS := Lib.hid (fun o : Obj => PxS.sent (o := o) (c8 := c8) HZ.out.2 HBW.out hr.out hx.out (2 * (q.low - 0)) (2 * (q.high - 0) + 1) hb8 hr8 q1)
            clear hb8 hr8 x1 x2 x3 x4 x5 f1 f2 f3 f4 f5 q1
            obtain ⟨x1, x2, x3, x4, x5⟩ := blk5 HBX8.out
            obtain ⟨f1, f2, f3, f4, f5⟩ := frz5 HBX8.out
            have lx8 := HBX8.out.lt
            go_wp2
            go_roundg p
            case rel => exact ⟨⟨2 * (q.low - 0), 2 * (q.high - 0) + 1, 0, emit q.out false q.wait⟩, int_eqJ (by dsimp only; omega), int_eqJ (by dsimp only; omega), Lib.hid ⟨HRS.out, HPS.out _⟩⟩
            case measure => omega
          · subst q2 q3 q4
            have hbig : 65536 < fin.out.length := by
              have h1 := widE_out p ⟨2 * (q.low - 0), 2 * (q.high - 0) + 1, 0, emit q.out false q.wait⟩
              rw [HRS.out.1] at h1
              exact Nat.lt_of_lt_of_le q1 h1
            have hh2 : ((0 : Nat), (0 : Nat), (0 : Int), (0 : Int), (2 : Int), ([] : List Nat)) = (lo, hi, wt, NN, EE, be) := by
              rw [← HPF.out]
              unfold encWhat
              rw [if_neg (fun h => by have := h.1; omega)]
            simp only [Prod.mk.injEq] at hh2
            obtain ⟨rfl, rfl, rfl, rfl, rfl, rfl⟩ := hh2
            have HP9 := Lib.hid (HZ.out.2.1.next hb8)
            clear hb8 hr8 x1 x2 x3 x4 x5 f1 f2 f3 f4 f5 q1 hbig
            obtain ⟨y1, y2, y3, y4, y5⟩ := blk5 HP9.out.2.2.1
            obtain ⟨z1, z2, z3, z4, z5⟩ := frz5 HP9.out.2.2.1
            have lr := HP9.out.2.2.1.lt
            go_wp2
            exact bodyPost_ret (v := .tuple #[encV 0 0 0 none 0 0 0, .int .i64 2]) (by simp [results, Tryz.results48, go_sem, encV, y1, y2, y3, y4, y5, lr]) rfl (EOut.err (below5a HP9.out.2.2.2.2.2 (by have := HBE.out; omega) _ _ _ _ _ _))
      · have HKK := Lib.hid hk'
        have d1 : decide ((q.high : Int) < 2147483648) = false := by simp; omega
        have d2 : decide (2147483648 ≤ (q.low : Int)) = true := by simp; omega
        clear hk'
        cases gk with
        | zero => exact absurd HZ.out.1.zero (by rw [HKK.out]; decide)
        | succ p =>
          have HRS := Lib.hid (RpR.step HZ.out.1 (by rw [HKK.out]; decide))
          rw [stepE_1 HKK.out] at HRS
          obtain ⟨N8, E8, bs8, hp8⟩ : ∃ N8 E8 bs8, pWhat (emit q.out true q.wait) = (N8, E8, bs8) := ⟨_, _, _, rfl⟩
          have HP8 := Lib.hid hp8
          clear hp8
          go_wp2_with fail
          refine (rout_any A7 n7 c7 q.out true 1 q.wait _ N8 E8 bs8 wr HI7 (Lib.hid rfl) (by omega) (by omega) HP8).mono ?_
          rintro e w8 ⟨A8, n8, c8, rfl, hb8, hr8⟩
          rcases pWhat_cases HP8.out with ⟨q1, q2, q3, q4⟩ | ⟨q1, q2, q3, q4⟩
          · subst q2 q3 q4
            have HBX8 := Lib.hid (HBX.out.below hb8 HBX.out.lt)
            have HPS := Lib.hid (fun o : Obj => PxS.sent (o := o) (c8 := c8) HZ.out.2 HBW.out hr.out hx.out (2 * (q.low - 2147483648)) (2 * (q.high - 2147483648) + 1) hb8 hr8 q1)
            clear hb8 hr8 x1 x2 x3 x4 x5 f1 f2 f3 f4 f5 q1
            obtain ⟨x1, x2, x3, x4, x5⟩ := blk5 HBX8.out
            obtain ⟨f1, f2, f3, f4, f5⟩ := frz5 HBX8.out
            have lx8 := HBX8.out.lt
            go_wp2
            go_roundg p
            case rel => exact ⟨⟨2 * (q.low - 2147483648), 2 * (q.high - 2147483648) + 1, 0, emit q.out true q.wait⟩, int_eqJ (by dsimp only; omega), int_eqJ (by dsimp only; omega), Lib.hid ⟨HRS.out, HPS.out _⟩⟩
            case measure => omega
          · subst q2 q3 q4
            have hbig : 65536 < fin.out.length := by
              have h1 := widE_out p ⟨2 * (q.low - 2147483648), 2 * (q.high - 2147483648) + 1, 0, emit q.out true q.wait⟩
              rw [HRS.out.1] at h1
              exact Nat.lt_of_lt_of_le q1 h1
            have hh2 : ((0 : Nat), (0 : Nat), (0 : Int), (0 : Int), (2 : Int), ([] : List Nat)) = (lo, hi, wt, NN, EE, be) := by
              rw [← HPF.out]
              unfold encWhat
              rw [if_neg (fun h => by have := h.1; omega)]
            simp only [Prod.mk.injEq] at hh2
            obtain ⟨rfl, rfl, rfl, rfl, rfl, rfl⟩ := hh2
            have HP9 := Lib.hid (HZ.out.2.1.next hb8)
            clear hb8 hr8 x1 x2 x3 x4 x5 f1 f2 f3 f4 f5 q1 hbig
            obtain ⟨y1, y2, y3, y4, y5⟩ := blk5 HP9.out.2.2.1
            obtain ⟨z1, z2, z3, z4, z5⟩ := frz5 HP9.out.2.2.1
            have lr := HP9.out.2.2.1.lt
            go_wp2
            exact bodyPost_ret (v := .tuple #[encV 0 0 0 none 0 0 0, .int .i64 2]) (by simp [results, Tryz.results48, go_sem, encV, y1, y2, y3, y4, y5, lr]) rfl (EOut.err (below5a HP9.out.2.2.2.2.2 (by have := HBE.out; omega) _ _ _ _ _ _))
      · have HKK := Lib.hid hk'
        have d1 : decide ((q.high : Int) < 2147483648) = false := by simp; omega
        have d2 : decide (2147483648 ≤ (q.low : Int)) = false := by simp; omega
        have d3 : decide (1073741824 ≤ (q.low : Int)) = true := by simp; omega
        have d4 : decide ((q.high : Int) < 3221225472) = true := by simp; omega
        clear hk'
        cases gk with
        | zero => exact absurd HZ.out.1.zero (by rw [HKK.out]; decide)
        | succ p =>
          have HRS := Lib.hid (RpR.step HZ.out.1 (by rw [HKK.out]; decide))
          rw [stepE_2 HKK.out] at HRS
          have HPS := Lib.hid (PxS.wait HZ.out.2 HBW.out hr.out hx.out (2 * (q.low - 1073741824)) (2 * (q.high - 1073741824) + 1))
          go_wp2
          have ew : (q.wait : Int) + 1 = ((q.wait + 1 : Nat) : Int) := by omega
          rw [ew]
          clear ew
          go_roundg p
          case rel => exact ⟨⟨2 * (q.low - 1073741824), 2 * (q.high - 1073741824) + 1, q.wait + 1, q.out⟩, int_eqJ (by dsimp only; omega), int_eqJ (by dsimp only; omega), Lib.hid ⟨HRS.out, HPS.out⟩⟩
          case measure => omega
      · have HKK := Lib.hid hk'
        have HE := Lib.hid (show q = fin from by rw [← HZ.out.1.1]; exact (widE_done gk q hk').symm)
        have d1 : decide ((q.high : Int) < 2147483648) = false := by simp; omega
        have d2 : decide (2147483648 ≤ (q.low : Int)) = false := by simp; omega
        clear hk'
        have u1 : (q.low : Int) < 4294967296 := by omega
        have u2 : (q.high : Int) < 4294967296 := by omega
        obtain ⟨y1, y2, y3, y4, y5⟩ := blk5 HZ.out.2.1.2.2.1
        obtain ⟨z1, z2, z3, z4, z5⟩ := frz5 HZ.out.2.1.2.2.1
        have n1 : ¬ be' + 1 + 1 = X := by omega
        have n2 : ¬ X = be' + 1 + 1 := by omega
        by_cases h3 : 1073741824 ≤ q.low
        · have d3 : decide (1073741824 ≤ (q.low : Int)) = true := by simp; omega
          have d4 : decide ((q.high : Int) < 3221225472) = false := by simp; omega
          by_cases hw6 : 65536 < q.wait
          · have d6 : decide ((65536 : Int) < (q.wait : Int)) = true := by simp; omega
            have hh2 : ((0 : Nat), (0 : Nat), (0 : Int), (0 : Int), (2 : Int), ([] : List Nat)) = (lo, hi, wt, NN, EE, be) := by
              rw [← HPF.out, ← HE.out]
              unfold encWhat
              rw [if_neg (fun h => by have := h.2; omega)]
            simp only [Prod.mk.injEq] at hh2
            obtain ⟨rfl, rfl, rfl, rfl, rfl, rfl⟩ := hh2
            go_wp2
            exact bodyPost_ret (v := .tuple #[encV 0 0 0 none 0 0 0, .int .i64 2]) (by simp [results, Tryz.results48, go_sem, encV, y1, y2, y3, y4, y5]) rfl (EOut.err (by
              refine below5 ((HZ.out.2.base.setCell (p := ⟨X, 0, none⟩) ?_ _).setCell (p := ⟨X, 1, none⟩) ?_ _) (by have := HBE.out; omega) _ _ _ _ _ <;> (have := HBE.out; show w.heap.size ≤ X; omega)))
          · have d6 : decide ((65536 : Int) < (q.wait : Int)) = false := by simp; omega
            have hh2 : (q.low, q.high, ((q.wait : Nat) : Int), ((q.out.length : Nat) : Int), (0 : Int), pack q.out) = (lo, hi, wt, NN, EE, be) := by
              rw [← HPF.out, ← HE.out]
              unfold encWhat
              rw [if_pos ⟨HOL.out, by omega⟩]
            simp only [Prod.mk.injEq] at hh2
            obtain ⟨rfl, rfl, rfl, rfl, rfl, rfl⟩ := hh2
            have HRR := Lib.hid ((isB_parts HI7.out).2.2.1)
            go_wp2
            exact bodyPost_ret (v := .tuple #[encV q.low q.high (q.wait : Int) A7 n7 c7 ((q.out.length : Nat) : Int), .int .i64 0]) (by simp [results, Tryz.results48, go_sem, encV, y1, y2, y3, y4, y5]) rfl ⟨A7, n7, c7, rfl, by
              refine below5 ((HZ.out.2.base.setCell (p := ⟨X, 0, none⟩) ?_ _).setCell (p := ⟨X, 1, none⟩) ?_ _) (by have := HBE.out; omega) _ _ _ _ _ <;> (have := HBE.out; show w.heap.size ≤ X; omega), rput_end HRR.out HBX.out HZ.out.2.1.2.2.1 n1 _ _ _ _ _ _ _⟩
        · have d3 : decide (1073741824 ≤ (q.low : Int)) = false := by simp; omega
          by_cases hw6 : 65536 < q.wait
          · have d6 : decide ((65536 : Int) < (q.wait : Int)) = true := by simp; omega
            have hh2 : ((0 : Nat), (0 : Nat), (0 : Int), (0 : Int), (2 : Int), ([] : List Nat)) = (lo, hi, wt, NN, EE, be) := by
              rw [← HPF.out, ← HE.out]
              unfold encWhat
              rw [if_neg (fun h => by have := h.2; omega)]
            simp only [Prod.mk.injEq] at hh2
            obtain ⟨rfl, rfl, rfl, rfl, rfl, rfl⟩ := hh2
            go_wp2
            exact bodyPost_ret (v := .tuple #[encV 0 0 0 none 0 0 0, .int .i64 2]) (by simp [results, Tryz.results48, go_sem, encV, y1, y2, y3, y4, y5]) rfl (EOut.err (by
              refine below5 ((HZ.out.2.base.setCell (p := ⟨X, 0, none⟩) ?_ _).setCell (p := ⟨X, 1, none⟩) ?_ _) (by have := HBE.out; omega) _ _ _ _ _ <;> (have := HBE.out; show w.heap.size ≤ X; omega)))
          · have d6 : decide ((65536 : Int) < (q.wait : Int)) = false := by simp; omega
            have hh2 : (q.low, q.high, ((q.wait : Nat) : Int), ((q.out.length : Nat) : Int), (0 : Int), pack q.out) = (lo, hi, wt, NN, EE, be) := by
              rw [← HPF.out, ← HE.out]
              unfold encWhat
              rw [if_pos ⟨HOL.out, by omega⟩]
            simp only [Prod.mk.injEq] at hh2
            obtain ⟨rfl, rfl, rfl, rfl, rfl, rfl⟩ := hh2
            have HRR := Lib.hid ((isB_parts HI7.out).2.2.1)
            go_wp2
            exact bodyPost_ret (v := .tuple #[encV q.low q.high (q.wait : Int) A7 n7 c7 ((q.out.length : Nat) : Int), .int .i64 0]) (by simp [results, Tryz.results48, go_sem, encV, y1, y2, y3, y4, y5]) rfl ⟨A7, n7, c7, rfl, by
              refine below5 ((HZ.out.2.base.setCell (p := ⟨X, 0, none⟩) ?_ _).setCell (p := ⟨X, 1, none⟩) ?_ _) (by have := HBE.out; omega) _ _ _ _ _ <;> (have := HBE.out; show w.heap.size ≤ X; omega), rput_end HRR.out HBX.out HZ.out.2.1.2.2.1 n1 _ _ _ _ _ _ _⟩
end Go.Proofs.YtgpdgegelipboaaGreatDoor.Cd
