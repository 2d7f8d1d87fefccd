/-
  Own texts, laid together: Yp, Zg, Open, Zo, Zh.
-/
import Derived.Test.YtgpdgegelipboaaGreatDoorP6
set_option linter.unusedSimpArgs false
set_option linter.unusedVariables false
set_option maxRecDepth 100000
namespace Go.Proofs.YtgpdgegelipboaaGreatDoor.Lp
open Go.RowKit Fx Fq Tb
open Yr (inB chkB wrB rdR gsR gsR_len)
set_option maxHeartbeats 8000000 in
theorem rread_arg (A : Option Addr) (n c : Nat) (bs : List Nat) (p : List Int) (w : World) (lp : p.length = 6) (hp : chkL p = false) :
    Calls Tryz.prog 16 #[.slice A n c, .agg (icells p)] w (ValQ w (rdV bs p)) := by
  have HV := Lib.hid (show rdV bs p = .tuple #[.agg (icells (zr 23)), .int .i64 1] by unfold rdV; rw [if_neg (by rw [hp]; exact Bool.false_ne_true)])
  have HC := Lib.hid (fun u => rbcheck_any p false 1 u lp hp rfl)
  have LP := Lib.hid lp
  have HM := Lib.hid (MV.start w)
  clear lp hp
  go_enter Tryz.func16, Tryz.ntmps16
  go_wp2_with (first | (refine wv_zeroF rfl rfl ?_) | (first | ((first | refine wv_box rfl _ _ rfl rfl HM ?_ | refine wv_alloc rfl _ rfl (by exact rowOf) HM ?_); first | (have q:dV HM = 0:=rfl;clear q HM;intro g1 u1 HG1 HM) | (have q:dV HM = 1:=rfl;clear q HM;intro g2 u2 HG2 HM) | (have q:dV HM = 2:=rfl;clear q HM;intro g3 u3 HG3 HM) | (have q:dV HM = 3:=rfl;clear q HM;intro g4 u4 HG4 HM)) | (refine wv_load rfl _ _ rfl rfl (by exact rowOf) HM (by exact vmemOf) (by exact vsizOf) ?_) | (refine wv_store rfl _ _ _ rfl rfl rfl (by exact rowOf) HM (by exact vidxOf) (by exact vsizOf) (by exact vsizOf) (by exact voneOf) ?_; clear HM; intro us HM; dsimp only [List.set] at HM) | (refine wl_zero rfl _ rfl (by exact arrOf) (by kernel_rfl) ?_)) | (refine wv_elem rfl _ rfl rfl HM (by exact vmemOf) (by exact velOf) ?_) | (refine wv_put rfl _ _ rfl rfl rfl HM (by exact vidxOf) (by exact vltOf) ?_; clear HM; intro us HM; dsimp only [List.set] at HM) | (refine wv_loadS rfl _ _ rfl rfl (by exact arrOf) HM (by exact vmemOf) (by exact vsubF) (by exact lenOf) ?_))
  refine (HC.out _).mono ?_
  rintro e w2 ⟨rfl, h1⟩
  have HM2 := Lib.hid (HM.out.below h1).base
  clear h1 HM HC
  have HM := HM2
  clear HM2
  go_wp2_with (first | (refine wv_zeroF rfl rfl ?_) | (first | ((first | refine wv_box rfl _ _ rfl rfl HM ?_ | refine wv_alloc rfl _ rfl (by exact rowOf) HM ?_); first | (have q:dV HM = 0:=rfl;clear q HM;intro g1 u1 HG1 HM) | (have q:dV HM = 1:=rfl;clear q HM;intro g2 u2 HG2 HM) | (have q:dV HM = 2:=rfl;clear q HM;intro g3 u3 HG3 HM) | (have q:dV HM = 3:=rfl;clear q HM;intro g4 u4 HG4 HM)) | (refine wv_load rfl _ _ rfl rfl (by exact rowOf) HM (by exact vmemOf) (by exact vsizOf) ?_) | (refine wv_store rfl _ _ _ rfl rfl rfl (by exact rowOf) HM (by exact vidxOf) (by exact vsizOf) (by exact vsizOf) (by exact voneOf) ?_; clear HM; intro us HM; dsimp only [List.set] at HM) | (refine wl_zero rfl _ rfl (by exact arrOf) (by kernel_rfl) ?_)) | (refine wv_elem rfl _ rfl rfl HM (by exact vmemOf) (by exact velOf) ?_) | (refine wv_put rfl _ _ rfl rfl rfl HM (by exact vidxOf) (by exact vltOf) ?_; clear HM; intro us HM; dsimp only [List.set] at HM) | (refine wv_loadS rfl _ _ rfl rfl (by exact arrOf) HM (by exact vmemOf) (by exact vsubF) (by exact lenOf) ?_))
  exact bodyPost_ret (v := .tuple #[.agg (icells (zr 23)), .int .i64 1]) (vres_two rfl _ rfl rfl rowFr HM (by exact vmemOf) (by exact vsizOf)) rfl ⟨by rw [HV.out], HM.out.1⟩
set_option maxHeartbeats 8000000 in
theorem rread_ok (A : Option Addr) (n c : Nat) (bs : List Nat) (p : List Int) (w : World) (hr : Hid (Rd w A n bs)) (lp : p.length = 6) (hp : chkL p = true) :
    Calls Tryz.prog 16 #[.slice A n c, .agg (icells p)] w (ValQ w (rdV bs p)) := by
  have HC := Lib.hid (fun u => rbcheck_any p true 0 u lp hp rfl)
  have HG := Lib.hid (fun u (h : Rd u A n bs) => rguess_any A n c bs p u (Lib.hid h) lp hp)
  have HP := Lib.hid hp
  have LP := Lib.hid lp
  have HM := Lib.hid (MV.start w)
  clear lp hp
  go_enter Tryz.func16, Tryz.ntmps16
  go_wp2_with (first | (refine wv_zeroF rfl rfl ?_) | (first | ((first | refine wv_box rfl _ _ rfl rfl HM ?_ | refine wv_alloc rfl _ rfl (by exact rowOf) HM ?_); first | (have q:dV HM = 0:=rfl;clear q HM;intro g1 u1 HG1 HM) | (have q:dV HM = 1:=rfl;clear q HM;intro g2 u2 HG2 HM) | (have q:dV HM = 2:=rfl;clear q HM;intro g3 u3 HG3 HM) | (have q:dV HM = 3:=rfl;clear q HM;intro g4 u4 HG4 HM)) | (refine wv_load rfl _ _ rfl rfl (by exact rowOf) HM (by exact vmemOf) (by exact vsizOf) ?_) | (refine wv_store rfl _ _ _ rfl rfl rfl (by exact rowOf) HM (by exact vidxOf) (by exact vsizOf) (by exact vsizOf) (by exact voneOf) ?_; clear HM; intro us HM; dsimp only [List.set] at HM) | (refine wl_zero rfl _ rfl (by exact arrOf) (by kernel_rfl) ?_)) | (refine wv_elem rfl _ rfl rfl HM (by exact vmemOf) (by exact velOf) ?_) | (refine wv_put rfl _ _ rfl rfl rfl HM (by exact vidxOf) (by exact vltOf) ?_; clear HM; intro us HM; dsimp only [List.set] at HM) | (refine wv_loadS rfl _ _ rfl rfl (by exact arrOf) HM (by exact vmemOf) (by exact vsubF) (by exact lenOf) ?_))
  refine (HC.out _).mono ?_
  rintro e w2 ⟨rfl, h1⟩
  have HM2 := Lib.hid (HM.out.below h1)
  clear h1 HM HC
  have HM := HM2
  clear HM2
  go_wp2_with (first | (refine wv_zeroF rfl rfl ?_) | (first | ((first | refine wv_box rfl _ _ rfl rfl HM ?_ | refine wv_alloc rfl _ rfl (by exact rowOf) HM ?_); first | (have q:dV HM = 0:=rfl;clear q HM;intro g1 u1 HG1 HM) | (have q:dV HM = 1:=rfl;clear q HM;intro g2 u2 HG2 HM) | (have q:dV HM = 2:=rfl;clear q HM;intro g3 u3 HG3 HM) | (have q:dV HM = 3:=rfl;clear q HM;intro g4 u4 HG4 HM)) | (refine wv_load rfl _ _ rfl rfl (by exact rowOf) HM (by exact vmemOf) (by exact vsizOf) ?_) | (refine wv_store rfl _ _ _ rfl rfl rfl (by exact rowOf) HM (by exact vidxOf) (by exact vsizOf) (by exact vsizOf) (by exact voneOf) ?_; clear HM; intro us HM; dsimp only [List.set] at HM) | (refine wl_zero rfl _ rfl (by exact arrOf) (by kernel_rfl) ?_)) | (refine wv_elem rfl _ rfl rfl HM (by exact vmemOf) (by exact velOf) ?_) | (refine wv_put rfl _ _ rfl rfl rfl HM (by exact vidxOf) (by exact vltOf) ?_; clear HM; intro us HM; dsimp only [List.set] at HM) | (refine wv_loadS rfl _ _ rfl rfl (by exact arrOf) HM (by exact vmemOf) (by exact vsubF) (by exact lenOf) ?_))
  refine (HG.out _ (hr.out.below HM.out.1)).mono ?_
  rintro e w3 (⟨K, l, q, hgs, rfl, h1⟩ | ⟨hgs, F, hF, rfl, h1⟩)
  rotate_left
  · have HV := Lib.hid (show rdV bs p = .tuple #[.agg (icells (zr 23)), .int .i64 21] by
      unfold rdV rdR
      unfold gsB at hgs
      rw [if_pos HP.out]
      by_cases hl : bs.length ≤ 40
      · rw [if_pos hl] at hgs ⊢; rw [hgs]
      · rw [if_neg hl])
    have LF := Lib.hid hF
    have HM2 := Lib.hid (HM.out.below h1)
    clear h1 HM HG hgs hF
    have HM := HM2
    clear HM2
    go_wp2_with (first | (refine wv_zeroF rfl rfl ?_) | (first | ((first | refine wv_box rfl _ _ rfl rfl HM ?_ | refine wv_alloc rfl _ rfl (by exact rowOf) HM ?_); first | (have q:dV HM = 0:=rfl;clear q HM;intro g1 u1 HG1 HM) | (have q:dV HM = 1:=rfl;clear q HM;intro g2 u2 HG2 HM) | (have q:dV HM = 2:=rfl;clear q HM;intro g3 u3 HG3 HM) | (have q:dV HM = 3:=rfl;clear q HM;intro g4 u4 HG4 HM)) | (refine wv_load rfl _ _ rfl rfl (by exact rowOf) HM (by exact vmemOf) (by exact vsizOf) ?_) | (refine wv_store rfl _ _ _ rfl rfl rfl (by exact rowOf) HM (by exact vidxOf) (by exact vsizOf) (by exact vsizOf) (by exact voneOf) ?_; clear HM; intro us HM; dsimp only [List.set] at HM) | (refine wl_zero rfl _ rfl (by exact arrOf) (by kernel_rfl) ?_)) | (refine wv_elem rfl _ rfl rfl HM (by exact vmemOf) (by exact velOf) ?_) | (refine wv_put rfl _ _ rfl rfl rfl HM (by exact vidxOf) (by exact vltOf) ?_; clear HM; intro us HM; dsimp only [List.set] at HM) | (refine wv_loadS rfl _ _ rfl rfl (by exact arrOf) HM (by exact vmemOf) (by exact vsubF) (by exact lenOf) ?_))
    exact bodyPost_ret (v := .tuple #[.agg (icells (zr 23)), .int .i64 21]) (vres_two rfl _ rfl rfl rowFr HM (by exact vmemOf) (by exact vsizOf)) rfl ⟨by rw [HV.out], HM.out.1⟩
  have hl40 : bs.length ≤ 40 := by
    unfold gsB at hgs
    by_cases hl : bs.length ≤ 40
    · exact hl
    · rw [if_neg hl] at hgs; cases hgs
  have hg2 : gsR (inB bs) p = some (K, l, q) := by unfold gsB at hgs; rw [if_pos hl40] at hgs; exact hgs
  obtain ⟨ll, lq⟩ := gsR_len hg2
  have hFS := frS_mk (K := K) ll lq
  have HE := Lib.hid (show rdR bs p = if chkB K l q p = true ∧ wrB K l q p = bs then some (K, l, q) else none by unfold rdR; rw [if_pos hl40, hg2])
  obtain ⟨F, hF⟩ : ∃ F, F = frL K l q := ⟨_, rfl⟩
  rw [← hF] at hFS ⊢
  have HFF := Lib.hid hF
  have LF := Lib.hid hFS.len
  have HCH := Lib.hid (fun u => rfcheck_any F K l q p u hFS LP.out)
  have HM2 := Lib.hid (HM.out.below h1)
  clear h1 HM HG hgs hF hg2
  have HM := HM2
  clear HM2
  cases hc : chkB K l q p with
  | false =>
    have HV := Lib.hid (show rdV bs p = .tuple #[.agg (icells (zr 23)), .int .i64 21] by
      unfold rdV
      rw [if_pos HP.out, HE.out, if_neg (by rw [hc]; exact fun h => Bool.false_ne_true h.1)])
    unfold errC at HCH
    rw [hc, if_neg Bool.false_ne_true] at HCH
    clear hc
    go_wp2_with (first | (refine wv_zeroF rfl rfl ?_) | (first | ((first | refine wv_box rfl _ _ rfl rfl HM ?_ | refine wv_alloc rfl _ rfl (by exact rowOf) HM ?_); first | (have q:dV HM = 0:=rfl;clear q HM;intro g1 u1 HG1 HM) | (have q:dV HM = 1:=rfl;clear q HM;intro g2 u2 HG2 HM) | (have q:dV HM = 2:=rfl;clear q HM;intro g3 u3 HG3 HM) | (have q:dV HM = 3:=rfl;clear q HM;intro g4 u4 HG4 HM)) | (refine wv_load rfl _ _ rfl rfl (by exact rowOf) HM (by exact vmemOf) (by exact vsizOf) ?_) | (refine wv_store rfl _ _ _ rfl rfl rfl (by exact rowOf) HM (by exact vidxOf) (by exact vsizOf) (by exact vsizOf) (by exact voneOf) ?_; clear HM; intro us HM; dsimp only [List.set] at HM) | (refine wl_zero rfl _ rfl (by exact arrOf) (by kernel_rfl) ?_)) | (refine wv_elem rfl _ rfl rfl HM (by exact vmemOf) (by exact velOf) ?_) | (refine wv_put rfl _ _ rfl rfl rfl HM (by exact vidxOf) (by exact vltOf) ?_; clear HM; intro us HM; dsimp only [List.set] at HM) | (refine wv_loadS rfl _ _ rfl rfl (by exact arrOf) HM (by exact vmemOf) (by exact vsubF) (by exact lenOf) ?_))
    refine (HCH.out _).mono ?_
    rintro e w4 ⟨rfl, h1⟩
    have HM2 := Lib.hid (HM.out.below h1)
    clear h1 HM HCH
    have HM := HM2
    clear HM2
    go_wp2_with (first | (refine wv_zeroF rfl rfl ?_) | (first | ((first | refine wv_box rfl _ _ rfl rfl HM ?_ | refine wv_alloc rfl _ rfl (by exact rowOf) HM ?_); first | (have q:dV HM = 0:=rfl;clear q HM;intro g1 u1 HG1 HM) | (have q:dV HM = 1:=rfl;clear q HM;intro g2 u2 HG2 HM) | (have q:dV HM = 2:=rfl;clear q HM;intro g3 u3 HG3 HM) | (have q:dV HM = 3:=rfl;clear q HM;intro g4 u4 HG4 HM)) | (refine wv_load rfl _ _ rfl rfl (by exact rowOf) HM (by exact vmemOf) (by exact vsizOf) ?_) | (refine wv_store rfl _ _ _ rfl rfl rfl (by exact rowOf) HM (by exact vidxOf) (by exact vsizOf) (by exact vsizOf) (by exact voneOf) ?_; clear HM; intro us HM; dsimp only [List.set] at HM) | (refine wl_zero rfl _ rfl (by exact arrOf) (by kernel_rfl) ?_)) | (refine wv_elem rfl _ rfl rfl HM (by exact vmemOf) (by exact velOf) ?_) | (refine wv_put rfl _ _ rfl rfl rfl HM (by exact vidxOf) (by exact vltOf) ?_; clear HM; intro us HM; dsimp only [List.set] at HM) | (refine wv_loadS rfl _ _ rfl rfl (by exact arrOf) HM (by exact vmemOf) (by exact vsubF) (by exact lenOf) ?_))
    exact bodyPost_ret (v := .tuple #[.agg (icells (zr 23)), .int .i64 21]) (vres_two rfl _ rfl rfl rowFr HM (by exact vmemOf) (by exact vsizOf)) rfl ⟨by rw [HV.out], HM.out.1⟩
  | true =>
    have HWR := Lib.hid (fun u => rwrite_yes F K l q p u hFS LP.out hc)
    unfold errC at HCH
    rw [hc, if_pos rfl] at HCH
    have HC1 := Lib.hid hc
    clear hc
    go_wp2_with (first | (refine wv_zeroF rfl rfl ?_) | (first | ((first | refine wv_box rfl _ _ rfl rfl HM ?_ | refine wv_alloc rfl _ rfl (by exact rowOf) HM ?_); first | (have q:dV HM = 0:=rfl;clear q HM;intro g1 u1 HG1 HM) | (have q:dV HM = 1:=rfl;clear q HM;intro g2 u2 HG2 HM) | (have q:dV HM = 2:=rfl;clear q HM;intro g3 u3 HG3 HM) | (have q:dV HM = 3:=rfl;clear q HM;intro g4 u4 HG4 HM)) | (refine wv_load rfl _ _ rfl rfl (by exact rowOf) HM (by exact vmemOf) (by exact vsizOf) ?_) | (refine wv_store rfl _ _ _ rfl rfl rfl (by exact rowOf) HM (by exact vidxOf) (by exact vsizOf) (by exact vsizOf) (by exact voneOf) ?_; clear HM; intro us HM; dsimp only [List.set] at HM) | (refine wl_zero rfl _ rfl (by exact arrOf) (by kernel_rfl) ?_)) | (refine wv_elem rfl _ rfl rfl HM (by exact vmemOf) (by exact velOf) ?_) | (refine wv_put rfl _ _ rfl rfl rfl HM (by exact vidxOf) (by exact vltOf) ?_; clear HM; intro us HM; dsimp only [List.set] at HM) | (refine wv_loadS rfl _ _ rfl rfl (by exact arrOf) HM (by exact vmemOf) (by exact vsubF) (by exact lenOf) ?_))
    refine (HCH.out _).mono ?_
    rintro e w4 ⟨rfl, h1⟩
    have HM2 := Lib.hid (HM.out.below h1)
    clear h1 HM HCH
    have HM := HM2
    clear HM2
    go_wp2_with (first | (refine wv_zeroF rfl rfl ?_) | (first | ((first | refine wv_box rfl _ _ rfl rfl HM ?_ | refine wv_alloc rfl _ rfl (by exact rowOf) HM ?_); first | (have q:dV HM = 0:=rfl;clear q HM;intro g1 u1 HG1 HM) | (have q:dV HM = 1:=rfl;clear q HM;intro g2 u2 HG2 HM) | (have q:dV HM = 2:=rfl;clear q HM;intro g3 u3 HG3 HM) | (have q:dV HM = 3:=rfl;clear q HM;intro g4 u4 HG4 HM)) | (refine wv_load rfl _ _ rfl rfl (by exact rowOf) HM (by exact vmemOf) (by exact vsizOf) ?_) | (refine wv_store rfl _ _ _ rfl rfl rfl (by exact rowOf) HM (by exact vidxOf) (by exact vsizOf) (by exact vsizOf) (by exact voneOf) ?_; clear HM; intro us HM; dsimp only [List.set] at HM) | (refine wl_zero rfl _ rfl (by exact arrOf) (by kernel_rfl) ?_)) | (refine wv_elem rfl _ rfl rfl HM (by exact vmemOf) (by exact velOf) ?_) | (refine wv_put rfl _ _ rfl rfl rfl HM (by exact vidxOf) (by exact vltOf) ?_; clear HM; intro us HM; dsimp only [List.set] at HM) | (refine wv_loadS rfl _ _ rfl rfl (by exact arrOf) HM (by exact vmemOf) (by exact vsubF) (by exact lenOf) ?_))
    refine (HWR.out _).mono ?_
    rintro e w5 ⟨A5, n5, c5, rfl, hr5, h1⟩
    have HR5 := Lib.hid hr5
    have HM2 := Lib.hid (HM.out.below h1)
    clear h1 HM HWR hr5
    have HM := HM2
    clear HM2
    have e1 := run_str c5 HR5.out
    have e2 := run_str c (hr.out.below HM.out.1)
    have hs := str_beqF (wrB K l q p) bs HR5.out.2.1 hr.out.2.1
    by_cases hw : wrB K l q p = bs
    · have HV := Lib.hid (show rdV bs p = .tuple #[.agg (icells F), .int .i64 0] by
        unfold rdV
        rw [if_pos HP.out, HE.out, if_pos ⟨HC1.out, hw⟩, HFF.out])
      rw [decide_eq_true hw] at hs
      clear hw
      go_wp2_with (first | (refine wv_zeroF rfl rfl ?_) | (first | ((first | refine wv_box rfl _ _ rfl rfl HM ?_ | refine wv_alloc rfl _ rfl (by exact rowOf) HM ?_); first | (have q:dV HM = 0:=rfl;clear q HM;intro g1 u1 HG1 HM) | (have q:dV HM = 1:=rfl;clear q HM;intro g2 u2 HG2 HM) | (have q:dV HM = 2:=rfl;clear q HM;intro g3 u3 HG3 HM) | (have q:dV HM = 3:=rfl;clear q HM;intro g4 u4 HG4 HM)) | (refine wv_load rfl _ _ rfl rfl (by exact rowOf) HM (by exact vmemOf) (by exact vsizOf) ?_) | (refine wv_store rfl _ _ _ rfl rfl rfl (by exact rowOf) HM (by exact vidxOf) (by exact vsizOf) (by exact vsizOf) (by exact voneOf) ?_; clear HM; intro us HM; dsimp only [List.set] at HM) | (refine wl_zero rfl _ rfl (by exact arrOf) (by kernel_rfl) ?_)) | (refine wv_elem rfl _ rfl rfl HM (by exact vmemOf) (by exact velOf) ?_) | (refine wv_put rfl _ _ rfl rfl rfl HM (by exact vidxOf) (by exact vltOf) ?_; clear HM; intro us HM; dsimp only [List.set] at HM) | (refine wv_loadS rfl _ _ rfl rfl (by exact arrOf) HM (by exact vmemOf) (by exact vsubF) (by exact lenOf) ?_))
      exact bodyPost_ret (v := .tuple #[.agg (icells F), .int .i64 0]) (vres_two rfl _ rfl rfl rowFr HM (by exact vmemOf) (by exact vsizOf)) rfl ⟨by rw [HV.out], HM.out.1⟩
    · have HV := Lib.hid (show rdV bs p = .tuple #[.agg (icells (zr 23)), .int .i64 21] by
        unfold rdV
        rw [if_pos HP.out, HE.out, if_neg (fun h => hw h.2)])
      rw [decide_eq_false hw] at hs
      clear hw
      go_wp2_with (first | (refine wv_zeroF rfl rfl ?_) | (first | ((first | refine wv_box rfl _ _ rfl rfl HM ?_ | refine wv_alloc rfl _ rfl (by exact rowOf) HM ?_); first | (have q:dV HM = 0:=rfl;clear q HM;intro g1 u1 HG1 HM) | (have q:dV HM = 1:=rfl;clear q HM;intro g2 u2 HG2 HM) | (have q:dV HM = 2:=rfl;clear q HM;intro g3 u3 HG3 HM) | (have q:dV HM = 3:=rfl;clear q HM;intro g4 u4 HG4 HM)) | (refine wv_load rfl _ _ rfl rfl (by exact rowOf) HM (by exact vmemOf) (by exact vsizOf) ?_) | (refine wv_store rfl _ _ _ rfl rfl rfl (by exact rowOf) HM (by exact vidxOf) (by exact vsizOf) (by exact vsizOf) (by exact voneOf) ?_; clear HM; intro us HM; dsimp only [List.set] at HM) | (refine wl_zero rfl _ rfl (by exact arrOf) (by kernel_rfl) ?_)) | (refine wv_elem rfl _ rfl rfl HM (by exact vmemOf) (by exact velOf) ?_) | (refine wv_put rfl _ _ rfl rfl rfl HM (by exact vidxOf) (by exact vltOf) ?_; clear HM; intro us HM; dsimp only [List.set] at HM) | (refine wv_loadS rfl _ _ rfl rfl (by exact arrOf) HM (by exact vmemOf) (by exact vsubF) (by exact lenOf) ?_))
      exact bodyPost_ret (v := .tuple #[.agg (icells (zr 23)), .int .i64 21]) (vres_two rfl _ rfl rfl rowFr HM (by exact vmemOf) (by exact vsizOf)) rfl ⟨by rw [HV.out], HM.out.1⟩
theorem rread_any (A : Option Addr) (n c : Nat) (bs : List Nat) (p : List Int) (w : World) (hr : Hid (Rd w A n bs)) (lp : p.length = 6) :
    Calls Tryz.prog 16 #[.slice A n c, .agg (icells p)] w (ValQ w (rdV bs p)) := by
  cases hp : chkL p with
  | false => exact rread_arg A n c bs p w lp hp
  | true => exact rread_ok A n c bs p w hr lp hp
end Go.Proofs.YtgpdgegelipboaaGreatDoor.Lp
namespace Go.Proofs.YtgpdgegelipboaaGreatDoor.Lp
open Go.RowKit Fx Fq Tb
open Yr (rdR rd_one gsR_len rdR_gs inB kindR)
theorem rdV_parts (bs : List Nat) (p : List Int) : ∃ (F : List Int) (K : Int) (l q : List Int) (er : Int), FrS F K l q ∧ rdV bs p = .tuple #[.agg (icells F), .int .i64 er] := by
  unfold rdV
  split
  · cases h : rdR bs p with
    | none => exact ⟨zr 23, _, _, _, 21, frS_zero, rfl⟩
    | some x =>
      obtain ⟨K, l, q⟩ := x
      obtain ⟨h3, h4⟩ := gsR_len (rdR_gs h)
      exact ⟨_, _, _, _, 0, frS_mk h3 h4, rfl⟩
  · exact ⟨zr 23, _, _, _, 1, frS_zero, rfl⟩
theorem kdV_parts (bs : List Nat) : ∃ k er : Int, kdV bs = .tuple #[.int .i64 k, .int .i64 er] := by
  unfold kdV
  split
  · exact ⟨_, _, rfl⟩
  · exact ⟨_, _, rfl⟩
set_option maxHeartbeats 8000000 in
theorem reads_law (A : Option Addr) (n c : Nat) (bs : List Nat) (p : List Int) (w : World) (hr : Hid (Rd w A n bs)) (hn : n ≤ maxLen) (lp : p.length = 6) (he : Edg w) :
    Calls Tryz.prog 4 #[.slice A n c, .agg (icells p)] w (ValQ w (.bool true)) := by
  have HM := Lib.hid (MV.start w)
  have HE := Lib.hid he
  have LP := Lib.hid lp
  have HN := Lib.hid hn
  have b1 : n ≤ 9223372036854775807 := by unfold maxLen at hn; omega
  clear he lp hn
  go_enter Tryz.func4, Tryz.ntmps4
  go_wp2_with (first | (refine wv_zeroF rfl rfl ?_) | (first | ((first | refine wv_box rfl _ _ rfl rfl HM ?_ | refine wv_alloc rfl _ rfl (by exact rowOf) HM ?_); first | (have q:dV HM = 0:=rfl;clear q HM;intro g1 u1 HG1 HM) | (have q:dV HM = 1:=rfl;clear q HM;intro g2 u2 HG2 HM) | (have q:dV HM = 2:=rfl;clear q HM;intro g3 u3 HG3 HM) | (have q:dV HM = 3:=rfl;clear q HM;intro g4 u4 HG4 HM)) | (refine wv_load rfl _ _ rfl rfl (by exact rowOf) HM (by exact vmemOf) (by exact vsizOf) ?_) | (refine wv_store rfl _ _ _ rfl rfl rfl (by exact rowOf) HM (by exact vidxOf) (by exact vsizOf) (by exact vsizOf) (by exact voneOf) ?_; clear HM; intro us HM; dsimp only [List.set] at HM) | (refine wl_zero rfl _ rfl (by exact arrOf) (by kernel_rfl) ?_)) | (refine wv_elem rfl _ rfl rfl HM (by exact vmemOf) (by exact velOf) ?_) | (refine wv_put rfl _ _ rfl rfl rfl HM (by exact vidxOf) (by exact vltOf) ?_; clear HM; intro us HM; dsimp only [List.set] at HM) | (refine wv_loadS rfl _ _ rfl rfl (by exact arrOf) HM (by exact vmemOf) (by exact vsubF) (by exact lenOf) ?_))
  refine (flive_any _ (HE.out.below HM.out.1)).mono ?_
  rintro e w2 ⟨rfl, hb⟩
  have HM2 := Lib.hid (HM.out.below hb)
  clear hb HM
  have HM := HM2
  clear HM2
  by_cases hl : 1000 < n
  · have d1 : decide ((1000 : Int) < (n : Int)) = true := decide_eq_true (by omega)
    go_wp2_with (first | (refine wv_zeroF rfl rfl ?_) | (first | ((first | refine wv_box rfl _ _ rfl rfl HM ?_ | refine wv_alloc rfl _ rfl (by exact rowOf) HM ?_); first | (have q:dV HM = 0:=rfl;clear q HM;intro g1 u1 HG1 HM) | (have q:dV HM = 1:=rfl;clear q HM;intro g2 u2 HG2 HM) | (have q:dV HM = 2:=rfl;clear q HM;intro g3 u3 HG3 HM) | (have q:dV HM = 3:=rfl;clear q HM;intro g4 u4 HG4 HM)) | (refine wv_load rfl _ _ rfl rfl (by exact rowOf) HM (by exact vmemOf) (by exact vsizOf) ?_) | (refine wv_store rfl _ _ _ rfl rfl rfl (by exact rowOf) HM (by exact vidxOf) (by exact vsizOf) (by exact vsizOf) (by exact voneOf) ?_; clear HM; intro us HM; dsimp only [List.set] at HM) | (refine wl_zero rfl _ rfl (by exact arrOf) (by kernel_rfl) ?_)) | (refine wv_elem rfl _ rfl rfl HM (by exact vmemOf) (by exact velOf) ?_) | (refine wv_put rfl _ _ rfl rfl rfl HM (by exact vidxOf) (by exact vltOf) ?_; clear HM; intro us HM; dsimp only [List.set] at HM) | (refine wv_loadS rfl _ _ rfl rfl (by exact arrOf) HM (by exact vmemOf) (by exact vsubF) (by exact lenOf) ?_))
    go_ret
    exact ⟨rfl, HM.out.1⟩
  have d1 : decide ((1000 : Int) < (n : Int)) = false := decide_eq_false (by omega)
  have d2 : ¬ (1000 : Int) < (n : Int) := by omega
  obtain ⟨F, K, l, q, er, hfs, hv⟩ := rdV_parts bs p
  obtain ⟨k, ek, hkv⟩ := kdV_parts bs
  have HV := Lib.hid hv
  have HKV := Lib.hid hkv
  have LF := Lib.hid hfs.len
  have hgd := grdFrame
  have heq := fun u => run_eq_fr hfs hfs u
  simp only [decide_true, Bool.and_self] at heq
  clear hv hkv hfs
  have e0 := run_str c (hr.out.below HM.out.1)
  go_wp2_with (first | (refine wv_zeroF rfl rfl ?_) | (first | ((first | refine wv_box rfl _ _ rfl rfl HM ?_ | refine wv_alloc rfl _ rfl (by exact rowOf) HM ?_); first | (have q:dV HM = 0:=rfl;clear q HM;intro g1 u1 HG1 HM) | (have q:dV HM = 1:=rfl;clear q HM;intro g2 u2 HG2 HM) | (have q:dV HM = 2:=rfl;clear q HM;intro g3 u3 HG3 HM) | (have q:dV HM = 3:=rfl;clear q HM;intro g4 u4 HG4 HM)) | (refine wv_load rfl _ _ rfl rfl (by exact rowOf) HM (by exact vmemOf) (by exact vsizOf) ?_) | (refine wv_store rfl _ _ _ rfl rfl rfl (by exact rowOf) HM (by exact vidxOf) (by exact vsizOf) (by exact vsizOf) (by exact voneOf) ?_; clear HM; intro us HM; dsimp only [List.set] at HM) | (refine wl_zero rfl _ rfl (by exact arrOf) (by kernel_rfl) ?_)) | (refine wv_elem rfl _ rfl rfl HM (by exact vmemOf) (by exact velOf) ?_) | (refine wv_put rfl _ _ rfl rfl rfl HM (by exact vidxOf) (by exact vltOf) ?_; clear HM; intro us HM; dsimp only [List.set] at HM) | (refine wv_loadS rfl _ _ rfl rfl (by exact arrOf) HM (by exact vmemOf) (by exact vsubF) (by exact lenOf) ?_))
  clear e0
  refine (fread_any A n c bs p _ (Lib.hid (hr.out.below HM.out.1)) LP.out (HE.out.below HM.out.1)).mono ?_
  rw [HV.out]
  rintro e w3 ⟨rfl, hb⟩
  have HM2 := Lib.hid (HM.out.below hb)
  clear hb HM
  have HM := HM2
  clear HM2
  go_wp2_with (first | (refine wv_zeroF rfl rfl ?_) | (first | ((first | refine wv_box rfl _ _ rfl rfl HM ?_ | refine wv_alloc rfl _ rfl (by exact rowOf) HM ?_); first | (have q:dV HM = 0:=rfl;clear q HM;intro g1 u1 HG1 HM) | (have q:dV HM = 1:=rfl;clear q HM;intro g2 u2 HG2 HM) | (have q:dV HM = 2:=rfl;clear q HM;intro g3 u3 HG3 HM) | (have q:dV HM = 3:=rfl;clear q HM;intro g4 u4 HG4 HM)) | (refine wv_load rfl _ _ rfl rfl (by exact rowOf) HM (by exact vmemOf) (by exact vsizOf) ?_) | (refine wv_store rfl _ _ _ rfl rfl rfl (by exact rowOf) HM (by exact vidxOf) (by exact vsizOf) (by exact vsizOf) (by exact voneOf) ?_; clear HM; intro us HM; dsimp only [List.set] at HM) | (refine wl_zero rfl _ rfl (by exact arrOf) (by kernel_rfl) ?_)) | (refine wv_elem rfl _ rfl rfl HM (by exact vmemOf) (by exact velOf) ?_) | (refine wv_put rfl _ _ rfl rfl rfl HM (by exact vidxOf) (by exact vltOf) ?_; clear HM; intro us HM; dsimp only [List.set] at HM) | (refine wv_loadS rfl _ _ rfl rfl (by exact arrOf) HM (by exact vmemOf) (by exact vsubF) (by exact lenOf) ?_))
  refine (rread_any A n c bs p _ (Lib.hid (hr.out.below HM.out.1)) LP.out).mono ?_
  rw [HV.out]
  rintro e w4 ⟨rfl, hb⟩
  have HM2 := Lib.hid (HM.out.below hb)
  clear hb HM
  have HM := HM2
  clear HM2
  go_wp2_with (first | (refine wv_zeroF rfl rfl ?_) | (first | ((first | refine wv_box rfl _ _ rfl rfl HM ?_ | refine wv_alloc rfl _ rfl (by exact rowOf) HM ?_); first | (have q:dV HM = 0:=rfl;clear q HM;intro g1 u1 HG1 HM) | (have q:dV HM = 1:=rfl;clear q HM;intro g2 u2 HG2 HM) | (have q:dV HM = 2:=rfl;clear q HM;intro g3 u3 HG3 HM) | (have q:dV HM = 3:=rfl;clear q HM;intro g4 u4 HG4 HM)) | (refine wv_load rfl _ _ rfl rfl (by exact rowOf) HM (by exact vmemOf) (by exact vsizOf) ?_) | (refine wv_store rfl _ _ _ rfl rfl rfl (by exact rowOf) HM (by exact vidxOf) (by exact vsizOf) (by exact vsizOf) (by exact voneOf) ?_; clear HM; intro us HM; dsimp only [List.set] at HM) | (refine wl_zero rfl _ rfl (by exact arrOf) (by kernel_rfl) ?_)) | (refine wv_elem rfl _ rfl rfl HM (by exact vmemOf) (by exact velOf) ?_) | (refine wv_put rfl _ _ rfl rfl rfl HM (by exact vidxOf) (by exact vltOf) ?_; clear HM; intro us HM; dsimp only [List.set] at HM) | (refine wv_loadS rfl _ _ rfl rfl (by exact arrOf) HM (by exact vmemOf) (by exact vsubF) (by exact lenOf) ?_))
  refine (fkind_any A n c bs _ (Lib.hid (hr.out.below HM.out.1)) HN.out).mono ?_
  rw [HKV.out]
  rintro e w5 ⟨rfl, hb⟩
  have HM2 := Lib.hid (HM.out.below hb)
  clear hb HM
  have HM := HM2
  clear HM2
  go_wp2_with (first | (refine wv_zeroF rfl rfl ?_) | (first | ((first | refine wv_box rfl _ _ rfl rfl HM ?_ | refine wv_alloc rfl _ rfl (by exact rowOf) HM ?_); first | (have q:dV HM = 0:=rfl;clear q HM;intro g1 u1 HG1 HM) | (have q:dV HM = 1:=rfl;clear q HM;intro g2 u2 HG2 HM) | (have q:dV HM = 2:=rfl;clear q HM;intro g3 u3 HG3 HM) | (have q:dV HM = 3:=rfl;clear q HM;intro g4 u4 HG4 HM)) | (refine wv_load rfl _ _ rfl rfl (by exact rowOf) HM (by exact vmemOf) (by exact vsizOf) ?_) | (refine wv_store rfl _ _ _ rfl rfl rfl (by exact rowOf) HM (by exact vidxOf) (by exact vsizOf) (by exact vsizOf) (by exact voneOf) ?_; clear HM; intro us HM; dsimp only [List.set] at HM) | (refine wl_zero rfl _ rfl (by exact arrOf) (by kernel_rfl) ?_)) | (refine wv_elem rfl _ rfl rfl HM (by exact vmemOf) (by exact velOf) ?_) | (refine wv_put rfl _ _ rfl rfl rfl HM (by exact vidxOf) (by exact vltOf) ?_; clear HM; intro us HM; dsimp only [List.set] at HM) | (refine wv_loadS rfl _ _ rfl rfl (by exact arrOf) HM (by exact vmemOf) (by exact vsubF) (by exact lenOf) ?_))
  refine (rkind_any A n c bs _ (Lib.hid (hr.out.below HM.out.1)) HN.out).mono ?_
  rw [HKV.out]
  rintro e w6 ⟨rfl, hb⟩
  have HM2 := Lib.hid (HM.out.below hb)
  clear hb HM
  have HM := HM2
  clear HM2
  have e1 := run_str c (hr.out.below HM.out.1)
  have hs := str_beqF bs bs hr.out.2.1 hr.out.2.1
  rw [decide_eq_true rfl] at hs
  go_wp2_with (first | (refine wv_zeroF rfl rfl ?_) | (first | ((first | refine wv_box rfl _ _ rfl rfl HM ?_ | refine wv_alloc rfl _ rfl (by exact rowOf) HM ?_); first | (have q:dV HM = 0:=rfl;clear q HM;intro g1 u1 HG1 HM) | (have q:dV HM = 1:=rfl;clear q HM;intro g2 u2 HG2 HM) | (have q:dV HM = 2:=rfl;clear q HM;intro g3 u3 HG3 HM) | (have q:dV HM = 3:=rfl;clear q HM;intro g4 u4 HG4 HM)) | (refine wv_load rfl _ _ rfl rfl (by exact rowOf) HM (by exact vmemOf) (by exact vsizOf) ?_) | (refine wv_store rfl _ _ _ rfl rfl rfl (by exact rowOf) HM (by exact vidxOf) (by exact vsizOf) (by exact vsizOf) (by exact voneOf) ?_; clear HM; intro us HM; dsimp only [List.set] at HM) | (refine wl_zero rfl _ rfl (by exact arrOf) (by kernel_rfl) ?_)) | (refine wv_elem rfl _ rfl rfl HM (by exact vmemOf) (by exact velOf) ?_) | (refine wv_put rfl _ _ rfl rfl rfl HM (by exact vidxOf) (by exact vltOf) ?_; clear HM; intro us HM; dsimp only [List.set] at HM) | (refine wv_loadS rfl _ _ rfl rfl (by exact arrOf) HM (by exact vmemOf) (by exact vsubF) (by exact lenOf) ?_))
  go_ret
  exact ⟨rfl, HM.out.1⟩
end Go.Proofs.YtgpdgegelipboaaGreatDoor.Lp
namespace Go.Proofs.YtgpdgegelipboaaGreatDoor
open Go.ChangeShapes Go.WideShapes Go.ChangeAt Go.RowKit Go.Joins Go.Deep
theorem laidOut : laidOutB Tryz.prog = true := by kernel_rfl
theorem own : ownKnob Tryz.prog.godebug = none := by kernel_rfl
theorem cells_u8 : Tryz.prog.cellsOf 5 = 1 := by kernel_rfl
section
variable {H : Type} {enc : TypeId × Value → H} {W : World} {base : Nat} {spare : Nat → Bool} {held : Bool}
theorem open_bytes {fuel : Nat} {v : Value} {y : DataW H × List MemPlace} (h : DataW.trod enc Tryz.prog W base spare held fuel 28 [v] = some y) :
    ∃ A n c bs, v = .slice A n c ∧ Rd W A n bs ∧ n ≤ maxLen := by
  rcases open_ints Tryz.underlying28 Tryz.underlying5 cells_u8 h with ⟨hcs, _⟩ | ⟨x, l, c, zs, hcs, _, hl, hm, hz, _, hcell, hwz⟩
  · simp only [List.cons.injEq, and_true] at hcs
    exact ⟨none, 0, 0, [], hcs, Rd.none_, by unfold maxLen; omega⟩
  · simp only [List.cons.injEq, and_true] at hcs
    have hlen : l ≤ zs.length := by rw [hz]; split <;> omega
    have hb : ∀ z ∈ zs, 0 ≤ z ∧ z ≤ 255 := fun z hz => bounds_u8 (hwz z hz)
    refine ⟨some x, l, c, (zs.take l).map Int.toNat, hcs, ⟨by rw [List.length_map, List.length_take]; omega, ?_, fun _ => ⟨x, rfl, ?_⟩⟩, by omega⟩
    · intro y hy
      obtain ⟨z, hz', rfl⟩ := List.mem_map.1 hy
      have := hb z (List.mem_of_mem_take hz')
      omega
    · intro j y hy
      rw [List.getElem?_map] at hy
      obtain ⟨z, hz', rfl⟩ := Option.map_eq_some_iff.1 hy
      obtain ⟨hj, e⟩ := List.getElem?_eq_some_iff.1 hz'
      rw [List.length_take] at hj
      rw [List.getElem_take] at e
      have hm' : z ∈ zs := by rw [← e]; exact List.getElem_mem _
      have := hb z hm'
      rw [hcell j (by omega)]
      have e2 : zs.getD j 0 = z := by rw [← e]; simp [List.getD_eq_getElem?_getD, show j < zs.length by omega]
      rw [e2, byteV, Int.toNat_of_nonneg this.1]
end
end Go.Proofs.YtgpdgegelipboaaGreatDoor
namespace Go.Proofs.YtgpdgegelipboaaGreatDoor.Lp
open Go.ChangeShapes Go.WideShapes Go.ChangeAt Go.RowKit Go.Joins Go.Deep Fq
section
variable {H : Type} {enc : TypeId × Value → H} {W : World} {base : Nat} {spare : Nat → Bool} {held : Bool}
theorem trod_ints {T : TypeId} {n fuel : Nat} {l : List Value} {x : DataW H × List MemPlace} (hT : Tryz.prog.underlying T = some (.array n 3)) (h : DataW.trod enc Tryz.prog W base spare held fuel T l = some x) (hl : l.length = n) : ∃ zs : List Int, zs.length = n ∧ l = zs.map fun x => Value.int .i64 x := by
  obtain ⟨xs, m, rfl, _, _, hn, hel⟩ := DataW.trod_array hT h
  exact ints_of n l hl fun i hi => by
    have hi' := hel i hi
    rw [cells_int, Nat.mul_one] at hi'
    have hx : xs[i]? = some xs[i] := List.getElem?_eq_getElem (by omega)
    rw [hx] at hi'
    obtain ⟨z, hz, _⟩ := DataW.trod_int Tryz.underlying3 hi'
    exact ⟨z, by simpa [Value.cells] using hz⟩
theorem cells_lev : Tryz.prog.cellsOf 23 = 6 := by kernel_rfl
theorem cells_hop : Tryz.prog.cellsOf 24 = 16 := by kernel_rfl
theorem cells_frame : Tryz.prog.cellsOf 26 = 23 := by kernel_rfl
set_option maxRecDepth 20000 in
theorem open_fr {b0 : Nat} {r : Reach} {v : Value} {d : DataW H} {p : List MemPlace} (hv : Value.okWide Tryz.prog W r b0 26 v) (h : DataW.Trod enc Tryz.prog W base spare held 26 v d p) : ∃ zs : List Int, v = .agg (icells zs) ∧ zs.length = 23 := by
  obtain ⟨cs, rfl, hsz⟩ : ∃ cs, v = .agg cs ∧ cs.size = 23 := by
    simp only [Value.okWide, und_frame] at hv
    obtain ⟨cs, h1, h2, _⟩ := hv
    exact ⟨cs, h1, by rw [h2, cells_frame]⟩
  obtain ⟨fuel, hf⟩ := h
  obtain ⟨xs, m, rfl, _, _, hn, hel⟩ := DataW.trod_struct und_frame hf
  have hfl := flds_frame
  generalize Tryz.prog.fieldsOf 26 = fs at hel hn hfl
  obtain ⟨f1, s1, e0, e1, hfl⟩ := List.map_eq_cons_iff.1 hfl
  obtain ⟨f2, s2, rfl, e2, hfl⟩ := List.map_eq_cons_iff.1 hfl
  obtain ⟨f3, s3, rfl, e3, hfl⟩ := List.map_eq_cons_iff.1 hfl
  obtain rfl := List.map_eq_nil_iff.1 hfl
  simp only [Prod.mk.injEq] at e1 e2 e3
  have hl3 : fs.size = 3 := by rw [← Array.length_toList, e0]; rfl
  have g1 : fs[0]? = some f1 := by rw [← Array.getElem?_toList, e0]; rfl
  have g2 : fs[1]? = some f2 := by rw [← Array.getElem?_toList, e0]; rfl
  have g3 : fs[2]? = some f3 := by rw [← Array.getElem?_toList, e0]; rfl
  have h1 := hel 0 f1 g1
  have h2 := hel 1 f2 g2
  have h3 := hel 2 f3 g3
  rw [e1.2.1, e1.2.2, cells_int, List.getElem?_eq_getElem (by omega)] at h1
  rw [e2.2.1, e2.2.2, cells_lev, List.getElem?_eq_getElem (by omega)] at h2
  rw [e3.2.1, e3.2.2, cells_hop, List.getElem?_eq_getElem (by omega)] at h3
  simp only [Value.cells] at h1 h2 h3
  have hcl : cs.toList.length = 23 := by rw [Array.length_toList, hsz]
  obtain ⟨z, hz, _⟩ := DataW.trod_int Tryz.underlying3 h1
  obtain ⟨l2, hl2, q2⟩ := trod_ints (n := 6) (by kernel_rfl) h2 (by rw [List.length_take, List.length_drop, hcl]; rfl)
  obtain ⟨l3, hl3', q3⟩ := trod_ints (n := 16) (by kernel_rfl) h3 (by rw [List.length_take, List.length_drop, hcl]; rfl)
  refine ⟨z :: (l2 ++ l3), ?_, by rw [List.length_cons, List.length_append, hl2, hl3']⟩
  have e : cs.toList = (z :: (l2 ++ l3)).map fun x => Value.int .i64 x := by
    rw [List.map_cons, List.map_append, ← q2, ← q3]
    have a1 : cs.toList = cs.toList.take 1 ++ cs.toList.drop 1 := (List.take_append_drop 1 _).symm
    have a2 : cs.toList.drop 1 = (cs.toList.drop 1).take 6 ++ (cs.toList.drop 1).drop 6 := (List.take_append_drop 6 _).symm
    have a3 : (cs.toList.drop 7).take 16 = cs.toList.drop 7 := List.take_of_length_le (by rw [List.length_drop, hcl]; omega)
    rw [List.drop_drop] at a2
    have a4 : cs.toList.take 1 = [.int .i64 z] := by simpa using hz
    rw [a3]
    conv => lhs; rw [a1, a4, a2]
    rfl
  unfold icells
  rw [← e]
theorem open_bytesV {b0 : Nat} {r : Reach} {v : Value} {d : DataW H} {p : List MemPlace} (hv : Value.okWide Tryz.prog W r b0 28 v) (h : DataW.Trod enc Tryz.prog W base spare held 28 v d p) :
    ∃ A n c bs, v = .slice A n c ∧ Rd W A n bs ∧ n ≤ maxLen := by
  obtain ⟨a0, len0, cap0, rfl⟩ := okWide_slice Tryz.underlying28 hv
  obtain ⟨fuel, hf⟩ := h
  exact open_bytes hf
end
end Go.Proofs.YtgpdgegelipboaaGreatDoor.Lp
namespace Go.Proofs.YtgpdgegelipboaaGreatDoor.Lp
open Go.RowKit Fx Fq Tb
open Yr (chkB wrB symsP nearB)
open Cd (Tb RdT tbs)
def wrV (K : Int) (l q p : List Int) : List Nat := if chkB K l q p = true then wrB K l q p else []
theorem WrOut.uni {w w' : World} {K : Int} {l q p : List Int} {e : Ending} (h : WrOut w K l q p e w') : ∃ A n c, e = .returned (.tuple #[.slice A n c, .int .i64 (errC K l q p)]) ∧ Rd w' A n (wrV K l q p) ∧ Below w.heap.size w w' := by
  unfold WrOut at h
  unfold wrV errC
  split at h
  · rename_i hc
    obtain ⟨A, n, c, h1, h2, h3⟩ := h
    rw [if_pos hc, if_pos hc]
    exact ⟨A, n, c, h1, h2, h3⟩
  · rename_i hc
    rw [if_neg hc, if_neg hc]
    exact ⟨none, 0, 0, h.1, Rd.none_, h.2⟩
def tbX (K : Int) (l q : List Int) : List (List Int) := if ¬ K = 1 ∧ chkB K l q (zr 6) = true then (symsP K l q (zr 6)).map (·.2) else []
def tbS (K : Int) (l q : List Int) : List Int := if ¬ K = 1 ∧ chkB K l q (zr 6) = true then (symsP K l q (zr 6)).map (·.1) else []
def tbE (K : Int) (l q : List Int) : Int := if ¬ K = 1 ∧ chkB K l q (zr 6) = true then 0 else 1
theorem TbOut.uni {w w' : World} {K : Int} {l q : List Int} {e : Ending} (h : TbOut w K l q e w') : ∃ A c L d ts, e = .returned (.tuple #[.slice L (tbX K l q).length d, .slice A (tbX K l q).length c, .int .i64 (tbE K l q)]) ∧ RdI w' A (tbX K l q).length (tbS K l q) ∧ RdT w' L (tbX K l q).length ts ∧ tbs ts = tbX K l q ∧ Below w.heap.size w w' := by
  unfold TbOut at h
  unfold tbX tbS tbE
  split at h
  · rename_i hc
    obtain ⟨A, n, c, L, d, ts, h1, h2, h3, h4, h5, h6⟩ := h
    rw [if_pos hc, if_pos hc, if_pos hc, List.length_map, h2]
    exact ⟨A, c, L, d, ts, h1, h3, h4, h5, h6⟩
  · rename_i hc
    rw [if_neg hc, if_neg hc, if_neg hc]
    exact ⟨none, 0, none, 0, [], h.1, RdI.none_, RdT.none_, rfl, h.2⟩
theorem tbX_len (K : Int) (l q : List Int) : (tbX K l q).length ≤ 40 := by
  unfold tbX
  split
  · rw [List.length_map]; exact syms_len K l q (zr 6)
  · exact Nat.zero_le _
theorem run_load_levP {u : World} {g : Nat} {T : TypeId} {F l : List Int} (hb : Blk u g T (icells F)) (hy : (F.drop 1).take 6 = l) (hl : l.length = 6) : (loadVar 23 ⟨g, 1, none⟩).run Tryz.prog u = .ok (.agg (icells l)) u :=
  run_load_part (T := 23) (z := icells (zr 6)) arrLev.row hb (o := 1) (ys := l) (fun j hj => by
    have hx : l[j]? = some (l.getD j 0) := by rw [List.getD_eq_getElem?_getD, List.getElem?_eq_getElem (by rw [hl]; exact hj)]; rfl
    rw [← hy, List.getElem?_take] at hx
    rw [if_pos hj, List.getElem?_drop, hy] at hx
    unfold icells
    rw [List.getElem?_toArray, List.getElem?_map, hx]
    rfl) hl
set_option maxHeartbeats 8000000 in
theorem writes_law (F p : List Int) (K : Int) (l q : List Int) (w : World) (hF : FrS F K l q) (lp : p.length = 6) (he : Edg w) :
    Calls Tryz.prog 3 #[.agg (icells F), .agg (icells p)] w (ValQ w (.bool true)) := by
  have HM := Lib.hid (MV.start w)
  have HE := Lib.hid he
  have HF := Lib.hid hF
  have LF := Lib.hid hF.len
  have LP := Lib.hid lp
  have SL := Lib.hid hF.lev
  have LL := Lib.hid hF.ll
  clear he hF lp
  go_enter Tryz.func3, Tryz.ntmps3
  go_wp2_with (first | (refine wv_zeroF rfl rfl ?_) | (first | ((first | refine wv_box rfl _ _ rfl rfl HM ?_ | refine wv_alloc rfl _ rfl (by exact rowOf) HM ?_); first | (have q:dV HM = 0:=rfl;clear q HM;intro g1 u1 HG1 HM) | (have q:dV HM = 1:=rfl;clear q HM;intro g2 u2 HG2 HM) | (have q:dV HM = 2:=rfl;clear q HM;intro g3 u3 HG3 HM) | (have q:dV HM = 3:=rfl;clear q HM;intro g4 u4 HG4 HM) | (have q:dV HM = 4:=rfl;clear q HM;intro g5 u5 HG5 HM) | (have q:dV HM = 5:=rfl;clear q HM;intro g6 u6 HG6 HM)) | (refine wv_load rfl _ _ rfl rfl (by exact rowOf) HM (by exact vmemOf) (by exact vsizOf) ?_) | (refine wv_store rfl _ _ _ rfl rfl rfl (by exact rowOf) HM (by exact vidxOf) (by exact vsizOf) (by exact vsizOf) (by exact voneOf) ?_; clear HM; intro us HM; dsimp only [List.set] at HM) | (refine wl_zero rfl _ rfl (by exact arrOf) (by kernel_rfl) ?_)) | (refine wv_elem rfl _ rfl rfl HM (by exact vmemOf) (by exact velOf) ?_) | (refine wv_put rfl _ _ rfl rfl rfl HM (by exact vidxOf) (by exact vltOf) ?_; clear HM; intro us HM; dsimp only [List.set] at HM) | (refine wv_loadS rfl _ _ rfl rfl (by exact arrOf) HM (by exact vmemOf) (by exact vsubF) (by exact lenOf) ?_))
  refine (flive_any _ (HE.out.below HM.out.1)).mono ?_
  rintro e w2 ⟨rfl, hb⟩
  have HM2 := Lib.hid (HM.out.below hb)
  clear hb HM
  have HM := HM2
  clear HM2
  go_wp2_with (first | (refine wv_zeroF rfl rfl ?_) | (first | ((first | refine wv_box rfl _ _ rfl rfl HM ?_ | refine wv_alloc rfl _ rfl (by exact rowOf) HM ?_); first | (have q:dV HM = 0:=rfl;clear q HM;intro g1 u1 HG1 HM) | (have q:dV HM = 1:=rfl;clear q HM;intro g2 u2 HG2 HM) | (have q:dV HM = 2:=rfl;clear q HM;intro g3 u3 HG3 HM) | (have q:dV HM = 3:=rfl;clear q HM;intro g4 u4 HG4 HM) | (have q:dV HM = 4:=rfl;clear q HM;intro g5 u5 HG5 HM) | (have q:dV HM = 5:=rfl;clear q HM;intro g6 u6 HG6 HM)) | (refine wv_load rfl _ _ rfl rfl (by exact rowOf) HM (by exact vmemOf) (by exact vsizOf) ?_) | (refine wv_store rfl _ _ _ rfl rfl rfl (by exact rowOf) HM (by exact vidxOf) (by exact vsizOf) (by exact vsizOf) (by exact voneOf) ?_; clear HM; intro us HM; dsimp only [List.set] at HM) | (refine wl_zero rfl _ rfl (by exact arrOf) (by kernel_rfl) ?_)) | (refine wv_elem rfl _ rfl rfl HM (by exact vmemOf) (by exact velOf) ?_) | (refine wv_put rfl _ _ rfl rfl rfl HM (by exact vidxOf) (by exact vltOf) ?_; clear HM; intro us HM; dsimp only [List.set] at HM) | (refine wv_loadS rfl _ _ rfl rfl (by exact arrOf) HM (by exact vmemOf) (by exact vsubF) (by exact lenOf) ?_))
  refine (fwrite_any F K l q p _ HF.out LP.out (HE.out.below HM.out.1)).mono ?_
  intro e w3 ho
  obtain ⟨A3, n3, c3, rfl, hr3, hb⟩ := ho.uni
  have HR3 := Lib.hid hr3
  have HM2 := Lib.hid (HM.out.below hb)
  clear hb HM hr3 ho
  have HM := HM2
  clear HM2
  go_wp2_with (first | (refine wv_zeroF rfl rfl ?_) | (first | ((first | refine wv_box rfl _ _ rfl rfl HM ?_ | refine wv_alloc rfl _ rfl (by exact rowOf) HM ?_); first | (have q:dV HM = 0:=rfl;clear q HM;intro g1 u1 HG1 HM) | (have q:dV HM = 1:=rfl;clear q HM;intro g2 u2 HG2 HM) | (have q:dV HM = 2:=rfl;clear q HM;intro g3 u3 HG3 HM) | (have q:dV HM = 3:=rfl;clear q HM;intro g4 u4 HG4 HM) | (have q:dV HM = 4:=rfl;clear q HM;intro g5 u5 HG5 HM) | (have q:dV HM = 5:=rfl;clear q HM;intro g6 u6 HG6 HM)) | (refine wv_load rfl _ _ rfl rfl (by exact rowOf) HM (by exact vmemOf) (by exact vsizOf) ?_) | (refine wv_store rfl _ _ _ rfl rfl rfl (by exact rowOf) HM (by exact vidxOf) (by exact vsizOf) (by exact vsizOf) (by exact voneOf) ?_; clear HM; intro us HM; dsimp only [List.set] at HM) | (refine wl_zero rfl _ rfl (by exact arrOf) (by kernel_rfl) ?_)) | (refine wv_elem rfl _ rfl rfl HM (by exact vmemOf) (by exact velOf) ?_) | (refine wv_put rfl _ _ rfl rfl rfl HM (by exact vidxOf) (by exact vltOf) ?_; clear HM; intro us HM; dsimp only [List.set] at HM) | (refine wv_loadS rfl _ _ rfl rfl (by exact arrOf) HM (by exact vmemOf) (by exact vsubF) (by exact lenOf) ?_))
  refine (rwrite_any F K l q p _ HF.out LP.out).mono ?_
  intro e w4 ho
  obtain ⟨A4, n4, c4, rfl, hr4, hb⟩ := ho.uni
  have HR4 := Lib.hid hr4
  have HR3b := Lib.hid (HR3.out.below hb)
  have HM2 := Lib.hid (HM.out.below hb)
  clear hb HM hr4 ho HR3
  have HM := HM2
  clear HM2
  go_wp2_with (first | (refine wv_zeroF rfl rfl ?_) | (first | ((first | refine wv_box rfl _ _ rfl rfl HM ?_ | refine wv_alloc rfl _ rfl (by exact rowOf) HM ?_); first | (have q:dV HM = 0:=rfl;clear q HM;intro g1 u1 HG1 HM) | (have q:dV HM = 1:=rfl;clear q HM;intro g2 u2 HG2 HM) | (have q:dV HM = 2:=rfl;clear q HM;intro g3 u3 HG3 HM) | (have q:dV HM = 3:=rfl;clear q HM;intro g4 u4 HG4 HM) | (have q:dV HM = 4:=rfl;clear q HM;intro g5 u5 HG5 HM) | (have q:dV HM = 5:=rfl;clear q HM;intro g6 u6 HG6 HM)) | (refine wv_load rfl _ _ rfl rfl (by exact rowOf) HM (by exact vmemOf) (by exact vsizOf) ?_) | (refine wv_store rfl _ _ _ rfl rfl rfl (by exact rowOf) HM (by exact vidxOf) (by exact vsizOf) (by exact vsizOf) (by exact voneOf) ?_; clear HM; intro us HM; dsimp only [List.set] at HM) | (refine wl_zero rfl _ rfl (by exact arrOf) (by kernel_rfl) ?_)) | (refine wv_elem rfl _ rfl rfl HM (by exact vmemOf) (by exact velOf) ?_) | (refine wv_put rfl _ _ rfl rfl rfl HM (by exact vidxOf) (by exact vltOf) ?_; clear HM; intro us HM; dsimp only [List.set] at HM) | (refine wv_loadS rfl _ _ rfl rfl (by exact arrOf) HM (by exact vmemOf) (by exact vsubF) (by exact lenOf) ?_))
  refine (ftables_any F K l q _ HF.out (HE.out.below HM.out.1)).mono ?_
  intro e w5 ho
  obtain ⟨A5, c5, L5, d5, ts5, rfl, hi5, ht5, hx5, hb⟩ := ho.uni
  have HI5 := Lib.hid hi5
  have HT5 := Lib.hid ht5
  have HX5 := Lib.hid hx5
  have HR4b := Lib.hid (HR4.out.below hb)
  have HR3 := Lib.hid (HR3b.out.below hb)
  have HM2 := Lib.hid (HM.out.below hb)
  clear hb HM hi5 ht5 hx5 ho HR3b HR4
  have HM := HM2
  clear HM2
  go_wp2_with (first | (refine wv_zeroF rfl rfl ?_) | (first | ((first | refine wv_box rfl _ _ rfl rfl HM ?_ | refine wv_alloc rfl _ rfl (by exact rowOf) HM ?_); first | (have q:dV HM = 0:=rfl;clear q HM;intro g1 u1 HG1 HM) | (have q:dV HM = 1:=rfl;clear q HM;intro g2 u2 HG2 HM) | (have q:dV HM = 2:=rfl;clear q HM;intro g3 u3 HG3 HM) | (have q:dV HM = 3:=rfl;clear q HM;intro g4 u4 HG4 HM) | (have q:dV HM = 4:=rfl;clear q HM;intro g5 u5 HG5 HM) | (have q:dV HM = 5:=rfl;clear q HM;intro g6 u6 HG6 HM)) | (refine wv_load rfl _ _ rfl rfl (by exact rowOf) HM (by exact vmemOf) (by exact vsizOf) ?_) | (refine wv_store rfl _ _ _ rfl rfl rfl (by exact rowOf) HM (by exact vidxOf) (by exact vsizOf) (by exact vsizOf) (by exact voneOf) ?_; clear HM; intro us HM; dsimp only [List.set] at HM) | (refine wl_zero rfl _ rfl (by exact arrOf) (by kernel_rfl) ?_)) | (refine wv_elem rfl _ rfl rfl HM (by exact vmemOf) (by exact velOf) ?_) | (refine wv_put rfl _ _ rfl rfl rfl HM (by exact vidxOf) (by exact vltOf) ?_; clear HM; intro us HM; dsimp only [List.set] at HM) | (refine wv_loadS rfl _ _ rfl rfl (by exact arrOf) HM (by exact vmemOf) (by exact vsubF) (by exact lenOf) ?_))
  refine (rtables_any F K l q _ HF.out).mono ?_
  intro e w6 ho
  obtain ⟨A6, c6, L6, d6, ts6, rfl, hi6, ht6, hx6, hb⟩ := ho.uni
  have HI6 := Lib.hid hi6
  have HT6 := Lib.hid ht6
  have HX6 := Lib.hid hx6
  have HI5b := Lib.hid (HI5.out.below hb)
  have HT5b := Lib.hid (HT5.out.below hb)
  have HR4 := Lib.hid (HR4b.out.below hb)
  have HR3b := Lib.hid (HR3.out.below hb)
  have HM2 := Lib.hid (HM.out.below hb)
  clear hb HM hi6 ht6 hx6 ho HR3 HR4b HI5 HT5
  have HM := HM2
  clear HM2
  have HXL := Lib.hid (tbX_len K l q)
  have hs := str_beqF (wrV K l q p) (wrV K l q p) HR4.out.2.1 HR4.out.2.1
  rw [decide_eq_true rfl] at hs
  generalize tbX K l q = X at HX5 HX6 HI5b HT5b HI6 HT6 HXL ⊢
  generalize tbS K l q = ss at HI5b HI6 ⊢
  generalize tbE K l q = et
  have HCK := Lib.hid (fun u h => fcheck_any F K l q p u HF.out LP.out h)
  have HCR := Lib.hid (fun u => rfcheck_any F K l q p u HF.out LP.out)
  generalize errC K l q p = ec at HCK HCR ⊢
  have HNP := Lib.hid (fun u => fnear_any l p u LL.out LP.out)
  have HNR := Lib.hid (fun u => rnear_any l p u LL.out LP.out)
  generalize nearB l p = nb at HNP HNR
  generalize wrV K l q p = wv at HR3b HR4 hs
  obtain ⟨m, hm⟩ : ∃ m, m = X.length := ⟨_, rfl⟩
  rw [← hm] at HI5b HT5b HI6 HT6 HXL ⊢
  have hm40 : m ≤ 40 := HXL.out
  have HMX := Lib.hid hm
  clear hm HXL
  have HE6 := Lib.hid (HE.out.below HM.out.1)
  have bF := HM.out.get (g := g1) (T := 26) (cs := icells F) (by exact vmemOf)
  have bP := HM.out.get (g := g2) (T := 23) (cs := icells p) (by exact vmemOf)
  have HLF := Lib.hid (fun (u : World) (hu : Below w6.heap.size w6 u) => run_load_blk rowFr (bF.below hu bF.lt) ((icells_size F).trans LF.out))
  have HLP := Lib.hid (fun (u : World) (hu : Below w6.heap.size w6 u) => run_load_blk arrLev.row (bP.below hu bP.lt) ((icells_size p).trans LP.out))
  have HLL := Lib.hid (fun (u : World) (hu : Below w6.heap.size w6 u) => run_load_levP (bF.below hu bF.lt) SL.out LL.out)
  have HW6 := Lib.hid HM.out.1
  have hnb : (nb != nb) = false := by simp
  have hmm : ((m : Int) != (m : Int)) = false := by simp
  clear bF bP
  go_wp2_with fail
  refine wp_region_held_drew (S := fun u => Below w6.heap.size w6 u) (by kernel_rfl) (Below.drew (Below.refl _ _)) (fun hHeld => ?_)
  have HB := Lib.hid (show Below w6.heap.size w6 (World.drew w6) from Below.drew (Below.refl _ _))
  generalize World.drew w6 = u0 at HB hHeld ⊢
  (refine wa_take (i := 0) (v := .slice A3 n3 c3) rfl (by kernel_rfl) (by kernel_rfl) (by kernel_rfl) (fun _ _ _ h => h) (yi_free rfl (fun u => rfl)) hHeld rfl ?_; (try simp only [Act.put, qz1, qz2, qz3]))
  (refine wa_take (i := 1) rfl (by kernel_rfl) (by kernel_rfl) (by kernel_rfl) (fun _ _ _ h => h) (yv_str rfl _ rfl rfl (fun u hu => HR3b.out.below hu)) hHeld rfl ?_; (try simp only [Act.put, qz1, qz2, qz3]))
  (refine wa_take (i := 2) (v := .slice A4 n4 c4) rfl (by kernel_rfl) (by kernel_rfl) (by kernel_rfl) (fun _ _ _ h => h) (yi_free rfl (fun u => rfl)) hHeld rfl ?_; (try simp only [Act.put, qz1, qz2, qz3]))
  (refine wa_take (i := 3) rfl (by kernel_rfl) (by kernel_rfl) (by kernel_rfl) (fun _ _ _ h => h) (yv_str rfl _ rfl rfl (fun u hu => HR4.out.below hu)) hHeld rfl ?_; (try simp only [Act.put, qz1, qz2, qz3]))
  (refine wa_take (i := 4) (v := .bool false) rfl (by kernel_rfl) (by kernel_rfl) (by kernel_rfl) (fun _ _ _ h => h) (yi_free rfl (fun u => by go_simp)) hHeld rfl ?_; (try simp only [Act.put, qz1, qz2, qz3]))
  (refine wa_take (i := 5) (v := .bool false) rfl (by kernel_rfl) (by kernel_rfl) (by kernel_rfl) (fun _ _ _ h => h) (yi_free rfl (fun u => rfl)) hHeld rfl ?_; (try simp only [Act.put, qz1, qz2, qz3]))
  (refine wa_take (i := 6) (v := .int .i64 ec) rfl (by kernel_rfl) (by kernel_rfl) (by kernel_rfl) (fun _ _ _ h => h) (yi_free rfl (fun u => rfl)) hHeld rfl ?_; (try simp only [Act.put, qz1, qz2, qz3]))
  (refine wa_take (i := 7) (v := .int .i64 ec) rfl (by kernel_rfl) (by kernel_rfl) (by kernel_rfl) (fun _ _ _ h => h) (yi_free rfl (fun u => rfl)) hHeld rfl ?_; (try simp only [Act.put, qz1, qz2, qz3]))
  (refine wa_take (i := 8) (v := .bool false) rfl (by kernel_rfl) (by kernel_rfl) (by kernel_rfl) (fun _ _ _ h => h) (yi_free rfl (fun u => by go_simp)) hHeld rfl ?_; (try simp only [Act.put, qz1, qz2, qz3]))
  (refine wa_take (i := 9) (v := .bool false) rfl (by kernel_rfl) (by kernel_rfl) (by kernel_rfl) (fun _ _ _ h => h) (yi_free rfl (fun u => rfl)) hHeld rfl ?_; (try simp only [Act.put, qz1, qz2, qz3]))
  (refine wa_take (i := 10) (v := .bool false) rfl (by kernel_rfl) (by kernel_rfl) (by kernel_rfl) (fun _ _ _ h => h) (yi_free rfl (fun u => rfl)) hHeld rfl ?_; (try simp only [Act.put, qz1, qz2, qz3]))
  (refine wa_take (i := 11) (v := .slice A5 m c5) rfl (by kernel_rfl) (by kernel_rfl) (by kernel_rfl) (fun _ _ _ h => h) (yi_free rfl (fun u => rfl)) hHeld rfl ?_; (try simp only [Act.put, qz1, qz2, qz3]))
  (refine wa_take (i := 12) (v := .slice A6 m c6) rfl (by kernel_rfl) (by kernel_rfl) (by kernel_rfl) (fun _ _ _ h => h) (yi_free rfl (fun u => rfl)) hHeld rfl ?_; (try simp only [Act.put, qz1, qz2, qz3]))
  refine wpAnyH_ready (rs := [13]) (by kernel_rfl) (by simp) ?_; refine AllReadyH.cons rfl (fun K hK => ?_) (AllReadyH.nil)
  rw [if_pos (by rfl)]; go_simp
  refine (requal_any A5 A6 m m c5 c6 ss ss true _ (by unfold maxLen; omega) (by unfold maxLen; omega) (HI5b.out.below HB.out) (HI6.out.below HB.out) (decide_eq_true rfl)).mono ?_
  rintro e u1 ⟨rfl, q7, rfl⟩
  have HB1 := Lib.hid (HB.out.trans ((below_drewN (Below.refl _ _) q7).mono HB.out.size))
  clear HB
  have HB := HB1
  clear HB1
  generalize World.drewN _ q7 = u1 at HB ⊢
  go_wp2_with fail
  refine hK.out _ _ HB.out (fun hHeld => ?_)
  clear hK K
  (try simp only [Act.put, qz1, qz2, qz3])
  (refine wa_take (i := 14) (v := .bool false) rfl (by kernel_rfl) (by kernel_rfl) (by kernel_rfl) (fun _ _ _ h => h) (yi_free rfl (fun u => rfl)) hHeld rfl ?_; (try simp only [Act.put, qz1, qz2, qz3]))
  (refine wa_take (i := 15) (v := .bool false) rfl (by kernel_rfl) (by kernel_rfl) (by kernel_rfl) (fun _ _ _ h => h) (yi_free rfl (fun u => rfl)) hHeld rfl ?_; (try simp only [Act.put, qz1, qz2, qz3]))
  (refine wa_take (i := 16) (v := .bool false) rfl (by kernel_rfl) (by kernel_rfl) (by kernel_rfl) (fun _ _ _ h => h) (yi_free rfl (fun u => rfl)) hHeld rfl ?_; (try simp only [Act.put, qz1, qz2, qz3]))
  (refine wa_take (i := 17) (v := .int .i64 et) rfl (by kernel_rfl) (by kernel_rfl) (by kernel_rfl) (fun _ _ _ h => h) (yi_free rfl (fun u => rfl)) hHeld rfl ?_; (try simp only [Act.put, qz1, qz2, qz3]))
  (refine wa_take (i := 18) (v := .int .i64 et) rfl (by kernel_rfl) (by kernel_rfl) (by kernel_rfl) (fun _ _ _ h => h) (yi_free rfl (fun u => rfl)) hHeld rfl ?_; (try simp only [Act.put, qz1, qz2, qz3]))
  (refine wa_take (i := 19) (v := .bool false) rfl (by kernel_rfl) (by kernel_rfl) (by kernel_rfl) (fun _ _ _ h => h) (yi_free rfl (fun u => by go_simp)) hHeld rfl ?_; (try simp only [Act.put, qz1, qz2, qz3]))
  (refine wa_take (i := 20) (v := .bool false) rfl (by kernel_rfl) (by kernel_rfl) (by kernel_rfl) (fun _ _ _ h => h) (yi_free rfl (fun u => rfl)) hHeld rfl ?_; (try simp only [Act.put, qz1, qz2, qz3]))
  (refine wa_take (i := 21) (v := .bool false) rfl (by kernel_rfl) (by kernel_rfl) (by kernel_rfl) (fun _ _ _ h => h) (yi_free rfl (fun u => rfl)) hHeld rfl ?_; (try simp only [Act.put, qz1, qz2, qz3]))
  (refine wa_take (i := 22) (v := .slice L5 m d5) rfl (by kernel_rfl) (by kernel_rfl) (by kernel_rfl) (fun _ _ _ h => h) (yi_free rfl (fun u => rfl)) hHeld rfl ?_; (try simp only [Act.put, qz1, qz2, qz3]))
  (refine wa_take (i := 23) (v := .int .i64 ((m : Int))) rfl (by kernel_rfl) (by kernel_rfl) (by kernel_rfl) (fun _ _ _ h => h) (yi_free rfl (fun u => by go_simp)) hHeld rfl ?_; (try simp only [Act.put, qz1, qz2, qz3]))
  (refine wa_take (i := 24) (v := .slice L6 m d6) rfl (by kernel_rfl) (by kernel_rfl) (by kernel_rfl) (fun _ _ _ h => h) (yi_free rfl (fun u => rfl)) hHeld rfl ?_; (try simp only [Act.put, qz1, qz2, qz3]))
  (refine wa_take (i := 25) (v := .int .i64 ((m : Int))) rfl (by kernel_rfl) (by kernel_rfl) (by kernel_rfl) (fun _ _ _ h => h) (yi_free rfl (fun u => by go_simp)) hHeld rfl ?_; (try simp only [Act.put, qz1, qz2, qz3]))
  (refine wa_take (i := 26) (v := .bool false) rfl (by kernel_rfl) (by kernel_rfl) (by kernel_rfl) (fun _ _ _ h => h) (yi_free rfl (fun u => by go_simp)) hHeld rfl ?_; (try simp only [Act.put, qz1, qz2, qz3]))
  (refine wa_take (i := 27) (v := .bool false) rfl (by kernel_rfl) (by kernel_rfl) (by kernel_rfl) (fun _ _ _ h => h) (yi_free rfl (fun u => rfl)) hHeld rfl ?_; (try simp only [Act.put, qz1, qz2, qz3]))
  (refine wa_take (i := 28) (v := .bool false) rfl (by kernel_rfl) (by kernel_rfl) (by kernel_rfl) (fun _ _ _ h => h) (yi_free rfl (fun u => rfl)) hHeld rfl ?_; (try simp only [Act.put, qz1, qz2, qz3]))
  (refine wa_take (i := 29) rfl (by kernel_rfl) (by kernel_rfl) (by kernel_rfl) (fun _ _ _ h => h) (yv_load rfl _ _ rfl rfl (HLF.out)) hHeld rfl ?_; (try simp only [Act.put, qz1, qz2, qz3]))
  (refine wa_take (i := 30) rfl (by kernel_rfl) (by kernel_rfl) (by kernel_rfl) (fun _ _ _ h => h) (yv_load rfl _ _ rfl rfl (HLP.out)) hHeld rfl ?_; (try simp only [Act.put, qz1, qz2, qz3]))
  (refine wa_take (i := 32) rfl (by kernel_rfl) (by kernel_rfl) (by kernel_rfl) (fun _ _ _ h => h) (yv_load rfl _ _ rfl rfl (HLF.out)) hHeld rfl ?_; (try simp only [Act.put, qz1, qz2, qz3]))
  (refine wa_take (i := 33) rfl (by kernel_rfl) (by kernel_rfl) (by kernel_rfl) (fun _ _ _ h => h) (yv_load rfl _ _ rfl rfl (HLP.out)) hHeld rfl ?_; (try simp only [Act.put, qz1, qz2, qz3]))
  refine wpAnyH_ready (rs := [31]) (by kernel_rfl) (by simp) ?_; refine AllReadyH.cons rfl (fun K hK => ?_) (AllReadyH.nil)
  rw [if_pos (by rfl)]; go_simp
  refine (HCK.out _ (HE6.out.below HB.out)).mono ?_
  rintro e u2 ⟨rfl, hb⟩
  have HB1 := Lib.hid (HB.out.trans (hb.mono HB.out.size))
  clear hb HB
  have HB := HB1
  clear HB1
  go_wp2_with fail
  refine hK.out _ _ HB.out (fun hHeld => ?_)
  clear hK K
  (try simp only [Act.put, qz1, qz2, qz3])
  refine wpAnyH_ready (rs := [34]) (by kernel_rfl) (by simp) ?_; refine AllReadyH.cons rfl (fun K hK => ?_) (AllReadyH.nil)
  rw [if_pos (by rfl)]; go_simp
  refine (HCR.out _).mono ?_
  rintro e u3 ⟨rfl, hb⟩
  have HB1 := Lib.hid (HB.out.trans (hb.mono HB.out.size))
  clear hb HB
  have HB := HB1
  clear HB1
  go_wp2_with fail
  refine hK.out _ _ HB.out (fun hHeld => ?_)
  clear hK K
  (try simp only [Act.put, qz1, qz2, qz3])
  (refine wa_take (i := 35) (v := .bool false) rfl (by kernel_rfl) (by kernel_rfl) (by kernel_rfl) (fun _ _ _ h => h) (yi_free rfl (fun u => by go_simp)) hHeld rfl ?_; (try simp only [Act.put, qz1, qz2, qz3]))
  (refine wa_take (i := 36) (v := .bool false) rfl (by kernel_rfl) (by kernel_rfl) (by kernel_rfl) (fun _ _ _ h => h) (yi_free rfl (fun u => rfl)) hHeld rfl ?_; (try simp only [Act.put, qz1, qz2, qz3]))
  (refine wa_take (i := 37) (v := .bool false) rfl (by kernel_rfl) (by kernel_rfl) (by kernel_rfl) (fun _ _ _ h => h) (yi_free rfl (fun u => rfl)) hHeld rfl ?_; (try simp only [Act.put, qz1, qz2, qz3]))
  (refine wa_take (i := 38) (v := .pointer (some ⟨g1, 1, none⟩)) rfl (by kernel_rfl) (by kernel_rfl) (by kernel_rfl) (fun _ _ _ h => h) (yi_free rfl (fun u => by go_simp)) hHeld rfl ?_; (try simp only [Act.put, qz1, qz2, qz3]))
  (refine wa_take (i := 39) rfl (by kernel_rfl) (by kernel_rfl) (by kernel_rfl) (fun _ _ _ h => h) (yv_load rfl _ _ rfl rfl (HLL.out)) hHeld rfl ?_; (try simp only [Act.put, qz1, qz2, qz3]))
  (refine wa_take (i := 40) rfl (by kernel_rfl) (by kernel_rfl) (by kernel_rfl) (fun _ _ _ h => h) (yv_load rfl _ _ rfl rfl (HLP.out)) hHeld rfl ?_; (try simp only [Act.put, qz1, qz2, qz3]))
  (refine wa_take (i := 42) (v := .pointer (some ⟨g1, 1, none⟩)) rfl (by kernel_rfl) (by kernel_rfl) (by kernel_rfl) (fun _ _ _ h => h) (yi_free rfl (fun u => by go_simp)) hHeld rfl ?_; (try simp only [Act.put, qz1, qz2, qz3]))
  (refine wa_take (i := 43) rfl (by kernel_rfl) (by kernel_rfl) (by kernel_rfl) (fun _ _ _ h => h) (yv_load rfl _ _ rfl rfl (HLL.out)) hHeld rfl ?_; (try simp only [Act.put, qz1, qz2, qz3]))
  (refine wa_take (i := 44) rfl (by kernel_rfl) (by kernel_rfl) (by kernel_rfl) (fun _ _ _ h => h) (yv_load rfl _ _ rfl rfl (HLP.out)) hHeld rfl ?_; (try simp only [Act.put, qz1, qz2, qz3]))
  refine wpAnyH_ready (rs := [41]) (by kernel_rfl) (by simp) ?_; refine AllReadyH.cons rfl (fun K hK => ?_) (AllReadyH.nil)
  rw [if_pos (by rfl)]; go_simp
  refine (HNP.out _).mono ?_
  rintro e u4 ⟨rfl, hb⟩
  have HB1 := Lib.hid (HB.out.trans (hb.mono HB.out.size))
  clear hb HB
  have HB := HB1
  clear HB1
  go_wp2_with fail
  refine hK.out _ _ HB.out (fun hHeld => ?_)
  clear hK K
  (try simp only [Act.put, qz1, qz2, qz3])
  refine wpAnyH_ready (rs := [45]) (by kernel_rfl) (by simp) ?_; refine AllReadyH.cons rfl (fun K hK => ?_) (AllReadyH.nil)
  rw [if_pos (by rfl)]; go_simp
  refine (HNR.out _).mono ?_
  rintro e u5 ⟨rfl, hb⟩
  have HB1 := Lib.hid (HB.out.trans (hb.mono HB.out.size))
  clear hb HB
  have HB := HB1
  clear HB1
  go_wp2_with fail
  refine hK.out _ _ HB.out (fun hHeld => ?_)
  clear hK K
  (try simp only [Act.put, qz1, qz2, qz3])
  (refine wa_take (i := 46) (v := .bool false) rfl (by kernel_rfl) (by kernel_rfl) (by kernel_rfl) (fun _ _ _ h => h) (yi_free rfl (fun u => by go_simp)) hHeld rfl ?_; (try simp only [Act.put, qz1, qz2, qz3]))
  (refine wa_take (i := 47) (v := .bool false) rfl (by kernel_rfl) (by kernel_rfl) (by kernel_rfl) (fun _ _ _ h => h) (yi_free rfl (fun u => rfl)) hHeld rfl ?_; (try simp only [Act.put, qz1, qz2, qz3]))
  refine wpAnyH_done (by kernel_rfl) ?_ _
  have HTA := Lib.hid (HT5b.out.below HB.out)
  have HTB := Lib.hid (HT6.out.below HB.out)
  have HW := Lib.hid (HW6.out.trans (HB.out.mono HW6.out.size))
  clear HM HB hHeld HLF HLP HLL HCK HCR HNP HNR HR3b HR4 HI5b HI6 HT5b HT6 hs
  go_wp2_with fail
  go_loopw [16, 94] (fun _ vi wr => ∃ k : Nat, vi = .int .i64 (k : Int) ∧ k ≤ m ∧ Hid (Below u5.heap.size u5 wr)) (fun _ vi _ => m - (intOf vi).toNat)
  case atStart => exact ⟨0, rfl, by omega, Lib.hid (Below.refl _ _)⟩
  case round =>
    obtain ⟨k, rfl, hk, HZ⟩ := hrel
    by_cases hlt : k < m
    · have kn : (k : Int) < (m : Int) := by omega
      obtain ⟨ad, t, rfl, hget, -, x2, hx, hmt⟩ := (HTA.out.below HZ.out).at_ hlt
      obtain ⟨ad', t', rfl, hget', -, x2', hx', hmt'⟩ := (HTB.out.below HZ.out).at_ hlt
      have hxs : t'.xs = t.xs := by
        have h1 : (tbs ts5)[k]? = some t.xs := by unfold tbs; rw [List.getElem?_map, hget]; rfl
        have h2 : (tbs ts6)[k]? = some t'.xs := by unfold tbs; rw [List.getElem?_map, hget']; rfl
        rw [HX5.out] at h1
        rw [HX6.out] at h2
        exact Option.some.inj (h2.symm.trans h1)
      obtain ⟨C, mm, dd, xs⟩ := t
      obtain ⟨C', mm', dd', xs'⟩ := t'
      dsimp only at hxs x2 x2' hx hx' hmt hmt'
      subst hxs
      have HX := Lib.hid hx
      have HX' := Lib.hid hx'
      clear hget hget' hx hx'
      have HC1 := Lib.hid (fun (u : World) (hu : Below wr.heap.size wr u) => run_load_one aggS ((hu.cell (World.block_lt_of_cell? _ _ x2)).trans x2))
      have HC2 := Lib.hid (fun (u : World) (hu : Below wr.heap.size wr u) => run_load_one aggS ((hu.cell (World.block_lt_of_cell? _ _ x2')).trans x2'))
      clear x2 x2'
      go_wp2_with fail
      refine wp_region_held_drew (S := fun u => Below wr.heap.size wr u) (by kernel_rfl) (Below.drew (Below.refl _ _)) (fun hHeld => ?_)
      have HB := Lib.hid (show Below wr.heap.size wr (World.drew wr) from Below.drew (Below.refl _ _))
      generalize World.drew wr = v0 at HB hHeld ⊢
      (refine wa_take (i := 0) (v := .slice (some ad) m d5) rfl (by kernel_rfl) (by kernel_rfl) (by kernel_rfl) (fun _ _ _ h => h) (yi_free rfl (fun u => rfl)) hHeld rfl ?_; (try simp only [Act.put, qz1, qz2, qz3]))
      (refine wa_take (i := 1) (v := .int .i64 (k : Int)) rfl (by kernel_rfl) (by kernel_rfl) (by kernel_rfl) (fun _ _ _ h => h) (yi_free rfl (fun u => rfl)) hHeld rfl ?_; (try simp only [Act.put, qz1, qz2, qz3]))
      (refine wa_take (i := 2) (v := .pointer (some (ad.add k))) rfl (by kernel_rfl) (by kernel_rfl) (by kernel_rfl) (fun _ _ _ h => h) (yi_free rfl (fun u => by go_simp)) hHeld rfl ?_; (try simp only [Act.put, qz1, qz2, qz3]))
      (refine wa_take (i := 3) (v := .pointer (some (ad.add k))) rfl (by kernel_rfl) (by kernel_rfl) (by kernel_rfl) (fun _ _ _ h => h) (yi_free rfl (fun u => by go_simp)) hHeld rfl ?_; (try simp only [Act.put, qz1, qz2, qz3]))
      (refine wa_take (i := 4) rfl (by kernel_rfl) (by kernel_rfl) (by kernel_rfl) (fun _ _ _ h => h) (yv_load rfl _ _ rfl rfl (HC1.out)) hHeld rfl ?_; (try simp only [Act.put, qz1, qz2, qz3]))
      (refine wa_take (i := 5) (v := .slice (some ad') m d6) rfl (by kernel_rfl) (by kernel_rfl) (by kernel_rfl) (fun _ _ _ h => h) (yi_free rfl (fun u => rfl)) hHeld rfl ?_; (try simp only [Act.put, qz1, qz2, qz3]))
      (refine wa_take (i := 6) (v := .int .i64 (k : Int)) rfl (by kernel_rfl) (by kernel_rfl) (by kernel_rfl) (fun _ _ _ h => h) (yi_free rfl (fun u => rfl)) hHeld rfl ?_; (try simp only [Act.put, qz1, qz2, qz3]))
      (refine wa_take (i := 7) (v := .pointer (some (ad'.add k))) rfl (by kernel_rfl) (by kernel_rfl) (by kernel_rfl) (fun _ _ _ h => h) (yi_free rfl (fun u => by go_simp)) hHeld rfl ?_; (try simp only [Act.put, qz1, qz2, qz3]))
      (refine wa_take (i := 8) (v := .pointer (some (ad'.add k))) rfl (by kernel_rfl) (by kernel_rfl) (by kernel_rfl) (fun _ _ _ h => h) (yi_free rfl (fun u => by go_simp)) hHeld rfl ?_; (try simp only [Act.put, qz1, qz2, qz3]))
      (refine wa_take (i := 9) rfl (by kernel_rfl) (by kernel_rfl) (by kernel_rfl) (fun _ _ _ h => h) (yv_load rfl _ _ rfl rfl (HC2.out)) hHeld rfl ?_; (try simp only [Act.put, qz1, qz2, qz3]))
      refine wpAnyH_ready (rs := [10]) (by kernel_rfl) (by simp) ?_; refine AllReadyH.cons rfl (fun K hK => ?_) (AllReadyH.nil)
      rw [if_pos (by rfl)]; go_simp
      refine (requal_any C C' mm mm' dd dd' xs' xs' true _ hmt hmt' (HX.out.below HB.out) (HX'.out.below HB.out) (decide_eq_true rfl)).mono ?_
      rintro e w7 ⟨rfl, q7, rfl⟩
      have HB1 := Lib.hid (below_drewN HB.out q7)
      clear HB
      have HB := HB1
      clear HB1
      generalize World.drewN _ q7 = v1 at HB ⊢
      go_wp2_with fail
      refine hK.out _ _ HB.out (fun hHeld => ?_)
      clear hK K
      (try simp only [Act.put, qz1, qz2, qz3])
      (refine wa_take (i := 11) (v := .bool false) rfl (by kernel_rfl) (by kernel_rfl) (by kernel_rfl) (fun _ _ _ h => h) (yi_free rfl (fun u => rfl)) hHeld rfl ?_; (try simp only [Act.put, qz1, qz2, qz3]))
      refine wpAnyH_done (by kernel_rfl) ?_ _
      have HZ7 := Lib.hid (HZ.out.trans (HB.out.mono HZ.out.size))
      go_wp2_with fail
      go_roundw
      case rel => exact ⟨k + 1, by go_num, by omega, HZ7⟩
      case measure => simp [intOf]; omega
    · obtain rfl : k = m := by omega
      have HBW := Lib.hid (HW.out.trans (HZ.out.mono HW.out.size))
      go_wp2
      go_ret
      exact ⟨rfl, HBW.out⟩
end Go.Proofs.YtgpdgegelipboaaGreatDoor.Lp
