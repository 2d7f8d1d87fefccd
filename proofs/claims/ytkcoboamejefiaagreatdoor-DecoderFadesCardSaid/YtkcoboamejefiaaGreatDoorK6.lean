/-
  Own texts, laid together: Dg, Dj, Dk, Du, Do, Dz, Db, Dh, Dl, Dv, Dq, Ls, Ev.
-/
import Derived.Test.YtkcoboamejefiaaGreatDoorK5
set_option maxHeartbeats 8000000
set_option linter.unusedSimpArgs false
set_option linter.unusedVariables false
set_option maxRecDepth 100000
namespace Go.Proofs.YtkcoboamejefiaaGreatDoor.Lp
open Go.RowKit Fx Fq Tb
open Yr (rdR rd_one rd_back Fr chkB chkB_iff gsR_len rdR_gs)
theorem okW_zr32 : okW (zr 32) = true := by decide +kernel
theorem lapV_no {t v : List Int} (h : okW t = false) : lapV t v = .tuple #[.agg (icells (zr 16)), .agg (icells (zr 16)), .int .i64 1] := by
 unfold lapV
 rw [if_neg (by rw [h]; exact fun e => Bool.false_ne_true e.1)]
theorem pcheck_any (s : Sy) (z : Int) (w : World) (hs : Hid (SyW s)) (hz : (if okSy s = true then 0 else 1) = z) :
  Calls Tryz.prog 22 #[.agg (syC s)] w (ValQ w (.int .i64 z)) := by
 have HM := Lib.hid (MV.start w)
 have HSW := hs
 have HLP := Lib.hid (fun u => lap_any s.t (zr 32) u hs.out.lt (zr_length 32))
 have HB := Lib.hid (fun c z hc hz u => bcheck_any s.l c z u hs.out.ll hc hz)
 have LZ := Lib.hid (zr_length 16)
 have LZ2 := Lib.hid (zr_length 32)
 unfold okSy at hz
 clear hs
 cases h1 : okW s.t with
 | false =>
  rw [h1] at hz
  obtain rfl : z = 1 := by rw [← hz]; rfl
  rw [lapV_no h1] at HLP
  clear hz h1
  go_enter Tryz.func22, Tryz.ntmps22
  go_wp2_with (first | (refine q9l ?_; first | (first | (refine q8a rfl _ rfl rfl HM (by exact q7m) (by exact q7w) ?_) | (refine q8b rfl _ rfl rfl HM (by exact q7m) (by exact q7w) ?_) | (refine q8c rfl _ rfl rfl HM (by exact q7m) (by exact q7w) (by with_reducible assumption) ?_) | (refine q8d rfl _ rfl rfl HM (by exact q7m) (by exact q7w) (by with_reducible assumption) ?_) | (refine q8c rfl _ rfl rfl HM (by exact q7m) (by exact q7w) (Lib.hid rfl) ?_) | (refine q8d rfl _ rfl rfl HM (by exact q7m) (by exact q7w) (Lib.hid rfl) ?_) | (refine q8e rfl _ rfl rfl HM (by exact q7m) (by exact q7w) ?_) | (refine q8f rfl _ rfl rfl HM (by exact q7m) (by exact q7w) ?_)) | (refine q8q rfl _ _ rfl rfl (by exact q7r) HM (by exact q7m) (by exact q7s) ?_) | (refine q8r rfl _ _ rfl rfl (by exact q7a) HM (by exact q7m) (by exact q7f) (by exact q7l) ?_)) | (refine q9s ?_; first | ((first | refine q8o rfl _ _ rfl rfl rfl HM (by exact q7i) (by exact q7w) (by exact q7w) ?_ | refine q8p rfl _ _ rfl rfl rfl HM (by exact q7i) (by exact q7w) (by exact q7w) ?_); clear HM; intro us HM; dsimp only [List.set] at HM) | ((first | refine q8j rfl _ _ rfl rfl rfl HM (by exact q7i) HSW (by exact q7l) ?_ | refine q8k rfl _ _ rfl rfl rfl HM (by exact q7i) HSW (by exact q7l) ?_ | refine q8l rfl _ _ rfl rfl rfl HM (by exact q7i) HSW ?_ | refine q8m rfl _ _ rfl rfl rfl HM (by exact q7i) HSW ?_ | refine q8n rfl _ _ rfl rfl rfl HM (by exact q7i) HSW (by with_reducible assumption) ?_); clear HM HSW; intro us HM HSW; dsimp only [List.set] at HM HSW) | (refine q8s rfl _ _ _ rfl rfl rfl (by exact q7r) HM (by exact q7i) (by exact q7s) (by exact q7s) (by exact q7o) ?_; clear HM; intro us HM; dsimp only [List.set] at HM)) | (refine q9b ?_; (first | (refine q8g rfl rfl ?_) | (refine q8h rfl _ rfl rfl ?_) | (refine q8i rfl _ rfl rfl (by exact q7w) ?_) | (refine q8v rfl _ rfl (by exact q7a) (by kernel_rfl) ?_))) | ((first | refine q9a ?_ | refine q9x ?_); ((first | refine q8t rfl _ _ rfl rfl HM ?_ | refine q8u rfl _ rfl rowSyn HM ?_ | refine q8u rfl _ rfl rowMou HM ?_ | refine q8u rfl _ rfl (by exact q7r) HM ?_); first | (have q:dV HM = 0:=rfl;clear q HM;intro g1 u1 HG1 HM) | (have q:dV HM = 1:=rfl;clear q HM;intro g2 u2 HG2 HM) | (have q:dV HM = 2:=rfl;clear q HM;intro g3 u3 HG3 HM) | (have q:dV HM = 3:=rfl;clear q HM;intro g4 u4 HG4 HM))))
  refine (HLP.out _).mono ?_
  rintro e w3 ⟨rfl, hb⟩
  replace HM := Lib.hid (HM.out.below hb)
  clear hb HLP
  go_wp2_with (first | (refine q8w (by rfl) ?_) | (first | (refine q9l ?_; first | (first | (refine q8a rfl _ rfl rfl HM (by exact q7m) (by exact q7w) ?_) | (refine q8b rfl _ rfl rfl HM (by exact q7m) (by exact q7w) ?_) | (refine q8c rfl _ rfl rfl HM (by exact q7m) (by exact q7w) (by with_reducible assumption) ?_) | (refine q8d rfl _ rfl rfl HM (by exact q7m) (by exact q7w) (by with_reducible assumption) ?_) | (refine q8c rfl _ rfl rfl HM (by exact q7m) (by exact q7w) (Lib.hid rfl) ?_) | (refine q8d rfl _ rfl rfl HM (by exact q7m) (by exact q7w) (Lib.hid rfl) ?_) | (refine q8e rfl _ rfl rfl HM (by exact q7m) (by exact q7w) ?_) | (refine q8f rfl _ rfl rfl HM (by exact q7m) (by exact q7w) ?_)) | (refine q8q rfl _ _ rfl rfl (by exact q7r) HM (by exact q7m) (by exact q7s) ?_) | (refine q8r rfl _ _ rfl rfl (by exact q7a) HM (by exact q7m) (by exact q7f) (by exact q7l) ?_)) | (refine q9s ?_; first | ((first | refine q8o rfl _ _ rfl rfl rfl HM (by exact q7i) (by exact q7w) (by exact q7w) ?_ | refine q8p rfl _ _ rfl rfl rfl HM (by exact q7i) (by exact q7w) (by exact q7w) ?_); clear HM; intro us HM; dsimp only [List.set] at HM) | ((first | refine q8j rfl _ _ rfl rfl rfl HM (by exact q7i) HSW (by exact q7l) ?_ | refine q8k rfl _ _ rfl rfl rfl HM (by exact q7i) HSW (by exact q7l) ?_ | refine q8l rfl _ _ rfl rfl rfl HM (by exact q7i) HSW ?_ | refine q8m rfl _ _ rfl rfl rfl HM (by exact q7i) HSW ?_ | refine q8n rfl _ _ rfl rfl rfl HM (by exact q7i) HSW (by with_reducible assumption) ?_); clear HM HSW; intro us HM HSW; dsimp only [List.set] at HM HSW) | (refine q8s rfl _ _ _ rfl rfl rfl (by exact q7r) HM (by exact q7i) (by exact q7s) (by exact q7s) (by exact q7o) ?_; clear HM; intro us HM; dsimp only [List.set] at HM)) | (refine q9b ?_; (first | (refine q8g rfl rfl ?_) | (refine q8h rfl _ rfl rfl ?_) | (refine q8i rfl _ rfl rfl (by exact q7w) ?_) | (refine q8v rfl _ rfl (by exact q7a) (by kernel_rfl) ?_))) | ((first | refine q9a ?_ | refine q9x ?_); ((first | refine q8t rfl _ _ rfl rfl HM ?_ | refine q8u rfl _ rfl rowSyn HM ?_ | refine q8u rfl _ rfl rowMou HM ?_ | refine q8u rfl _ rfl (by exact q7r) HM ?_); first | (have q:dV HM = 0:=rfl;clear q HM;intro g1 u1 HG1 HM) | (have q:dV HM = 1:=rfl;clear q HM;intro g2 u2 HG2 HM) | (have q:dV HM = 2:=rfl;clear q HM;intro g3 u3 HG3 HM) | (have q:dV HM = 3:=rfl;clear q HM;intro g4 u4 HG4 HM)))))
  go_ret
  exact ⟨rfl, HM.out.1⟩
 | true =>
  rw [h1] at hz
  rw [lapV_ok h1 okW_zr32] at HLP
  have LP := Lib.hid (show (lapL s.t (zr 32)).length = 16 from tab_length 16 _)
  have LT := Lib.hid (show (leftL (zr 32)).length = 16 from tab_length 16 _)
  generalize lapL s.t (zr 32) = p at HLP LP
  generalize leftL (zr 32) = t at HLP LT
  clear h1
  cases h2 : chkL s.l with
  | false =>
   rw [h2] at hz
   obtain rfl : z = 1 := by rw [← hz]; rfl
   have HC := Lib.hid (HB.out false 1 h2 rfl)
   clear hz h2 HB
   go_enter Tryz.func22, Tryz.ntmps22
   go_wp2_with (first | (refine q9l ?_; first | (first | (refine q8a rfl _ rfl rfl HM (by exact q7m) (by exact q7w) ?_) | (refine q8b rfl _ rfl rfl HM (by exact q7m) (by exact q7w) ?_) | (refine q8c rfl _ rfl rfl HM (by exact q7m) (by exact q7w) (by with_reducible assumption) ?_) | (refine q8d rfl _ rfl rfl HM (by exact q7m) (by exact q7w) (by with_reducible assumption) ?_) | (refine q8c rfl _ rfl rfl HM (by exact q7m) (by exact q7w) (Lib.hid rfl) ?_) | (refine q8d rfl _ rfl rfl HM (by exact q7m) (by exact q7w) (Lib.hid rfl) ?_) | (refine q8e rfl _ rfl rfl HM (by exact q7m) (by exact q7w) ?_) | (refine q8f rfl _ rfl rfl HM (by exact q7m) (by exact q7w) ?_)) | (refine q8q rfl _ _ rfl rfl (by exact q7r) HM (by exact q7m) (by exact q7s) ?_) | (refine q8r rfl _ _ rfl rfl (by exact q7a) HM (by exact q7m) (by exact q7f) (by exact q7l) ?_)) | (refine q9s ?_; first | ((first | refine q8o rfl _ _ rfl rfl rfl HM (by exact q7i) (by exact q7w) (by exact q7w) ?_ | refine q8p rfl _ _ rfl rfl rfl HM (by exact q7i) (by exact q7w) (by exact q7w) ?_); clear HM; intro us HM; dsimp only [List.set] at HM) | ((first | refine q8j rfl _ _ rfl rfl rfl HM (by exact q7i) HSW (by exact q7l) ?_ | refine q8k rfl _ _ rfl rfl rfl HM (by exact q7i) HSW (by exact q7l) ?_ | refine q8l rfl _ _ rfl rfl rfl HM (by exact q7i) HSW ?_ | refine q8m rfl _ _ rfl rfl rfl HM (by exact q7i) HSW ?_ | refine q8n rfl _ _ rfl rfl rfl HM (by exact q7i) HSW (by with_reducible assumption) ?_); clear HM HSW; intro us HM HSW; dsimp only [List.set] at HM HSW) | (refine q8s rfl _ _ _ rfl rfl rfl (by exact q7r) HM (by exact q7i) (by exact q7s) (by exact q7s) (by exact q7o) ?_; clear HM; intro us HM; dsimp only [List.set] at HM)) | (refine q9b ?_; (first | (refine q8g rfl rfl ?_) | (refine q8h rfl _ rfl rfl ?_) | (refine q8i rfl _ rfl rfl (by exact q7w) ?_) | (refine q8v rfl _ rfl (by exact q7a) (by kernel_rfl) ?_))) | ((first | refine q9a ?_ | refine q9x ?_); ((first | refine q8t rfl _ _ rfl rfl HM ?_ | refine q8u rfl _ rfl rowSyn HM ?_ | refine q8u rfl _ rfl rowMou HM ?_ | refine q8u rfl _ rfl (by exact q7r) HM ?_); first | (have q:dV HM = 0:=rfl;clear q HM;intro g1 u1 HG1 HM) | (have q:dV HM = 1:=rfl;clear q HM;intro g2 u2 HG2 HM) | (have q:dV HM = 2:=rfl;clear q HM;intro g3 u3 HG3 HM) | (have q:dV HM = 3:=rfl;clear q HM;intro g4 u4 HG4 HM))))
   refine (HLP.out _).mono ?_
   rintro e w3 ⟨rfl, hb⟩
   replace HM := Lib.hid (HM.out.below hb)
   clear hb HLP
   go_wp2_with (first | (refine q8w (by rfl) ?_) | (first | (refine q9l ?_; first | (first | (refine q8a rfl _ rfl rfl HM (by exact q7m) (by exact q7w) ?_) | (refine q8b rfl _ rfl rfl HM (by exact q7m) (by exact q7w) ?_) | (refine q8c rfl _ rfl rfl HM (by exact q7m) (by exact q7w) (by with_reducible assumption) ?_) | (refine q8d rfl _ rfl rfl HM (by exact q7m) (by exact q7w) (by with_reducible assumption) ?_) | (refine q8c rfl _ rfl rfl HM (by exact q7m) (by exact q7w) (Lib.hid rfl) ?_) | (refine q8d rfl _ rfl rfl HM (by exact q7m) (by exact q7w) (Lib.hid rfl) ?_) | (refine q8e rfl _ rfl rfl HM (by exact q7m) (by exact q7w) ?_) | (refine q8f rfl _ rfl rfl HM (by exact q7m) (by exact q7w) ?_)) | (refine q8q rfl _ _ rfl rfl (by exact q7r) HM (by exact q7m) (by exact q7s) ?_) | (refine q8r rfl _ _ rfl rfl (by exact q7a) HM (by exact q7m) (by exact q7f) (by exact q7l) ?_)) | (refine q9s ?_; first | ((first | refine q8o rfl _ _ rfl rfl rfl HM (by exact q7i) (by exact q7w) (by exact q7w) ?_ | refine q8p rfl _ _ rfl rfl rfl HM (by exact q7i) (by exact q7w) (by exact q7w) ?_); clear HM; intro us HM; dsimp only [List.set] at HM) | ((first | refine q8j rfl _ _ rfl rfl rfl HM (by exact q7i) HSW (by exact q7l) ?_ | refine q8k rfl _ _ rfl rfl rfl HM (by exact q7i) HSW (by exact q7l) ?_ | refine q8l rfl _ _ rfl rfl rfl HM (by exact q7i) HSW ?_ | refine q8m rfl _ _ rfl rfl rfl HM (by exact q7i) HSW ?_ | refine q8n rfl _ _ rfl rfl rfl HM (by exact q7i) HSW (by with_reducible assumption) ?_); clear HM HSW; intro us HM HSW; dsimp only [List.set] at HM HSW) | (refine q8s rfl _ _ _ rfl rfl rfl (by exact q7r) HM (by exact q7i) (by exact q7s) (by exact q7s) (by exact q7o) ?_; clear HM; intro us HM; dsimp only [List.set] at HM)) | (refine q9b ?_; (first | (refine q8g rfl rfl ?_) | (refine q8h rfl _ rfl rfl ?_) | (refine q8i rfl _ rfl rfl (by exact q7w) ?_) | (refine q8v rfl _ rfl (by exact q7a) (by kernel_rfl) ?_))) | ((first | refine q9a ?_ | refine q9x ?_); ((first | refine q8t rfl _ _ rfl rfl HM ?_ | refine q8u rfl _ rfl rowSyn HM ?_ | refine q8u rfl _ rfl rowMou HM ?_ | refine q8u rfl _ rfl (by exact q7r) HM ?_); first | (have q:dV HM = 0:=rfl;clear q HM;intro g1 u1 HG1 HM) | (have q:dV HM = 1:=rfl;clear q HM;intro g2 u2 HG2 HM) | (have q:dV HM = 2:=rfl;clear q HM;intro g3 u3 HG3 HM) | (have q:dV HM = 3:=rfl;clear q HM;intro g4 u4 HG4 HM)))))
   refine (HC.out _).mono ?_
   rintro e w3 ⟨rfl, hb⟩
   replace HM := Lib.hid (HM.out.below hb)
   clear hb HC
   go_wp2_with (first | (refine q8w (by rfl) ?_) | (first | (refine q9l ?_; first | (first | (refine q8a rfl _ rfl rfl HM (by exact q7m) (by exact q7w) ?_) | (refine q8b rfl _ rfl rfl HM (by exact q7m) (by exact q7w) ?_) | (refine q8c rfl _ rfl rfl HM (by exact q7m) (by exact q7w) (by with_reducible assumption) ?_) | (refine q8d rfl _ rfl rfl HM (by exact q7m) (by exact q7w) (by with_reducible assumption) ?_) | (refine q8c rfl _ rfl rfl HM (by exact q7m) (by exact q7w) (Lib.hid rfl) ?_) | (refine q8d rfl _ rfl rfl HM (by exact q7m) (by exact q7w) (Lib.hid rfl) ?_) | (refine q8e rfl _ rfl rfl HM (by exact q7m) (by exact q7w) ?_) | (refine q8f rfl _ rfl rfl HM (by exact q7m) (by exact q7w) ?_)) | (refine q8q rfl _ _ rfl rfl (by exact q7r) HM (by exact q7m) (by exact q7s) ?_) | (refine q8r rfl _ _ rfl rfl (by exact q7a) HM (by exact q7m) (by exact q7f) (by exact q7l) ?_)) | (refine q9s ?_; first | ((first | refine q8o rfl _ _ rfl rfl rfl HM (by exact q7i) (by exact q7w) (by exact q7w) ?_ | refine q8p rfl _ _ rfl rfl rfl HM (by exact q7i) (by exact q7w) (by exact q7w) ?_); clear HM; intro us HM; dsimp only [List.set] at HM) | ((first | refine q8j rfl _ _ rfl rfl rfl HM (by exact q7i) HSW (by exact q7l) ?_ | refine q8k rfl _ _ rfl rfl rfl HM (by exact q7i) HSW (by exact q7l) ?_ | refine q8l rfl _ _ rfl rfl rfl HM (by exact q7i) HSW ?_ | refine q8m rfl _ _ rfl rfl rfl HM (by exact q7i) HSW ?_ | refine q8n rfl _ _ rfl rfl rfl HM (by exact q7i) HSW (by with_reducible assumption) ?_); clear HM HSW; intro us HM HSW; dsimp only [List.set] at HM HSW) | (refine q8s rfl _ _ _ rfl rfl rfl (by exact q7r) HM (by exact q7i) (by exact q7s) (by exact q7s) (by exact q7o) ?_; clear HM; intro us HM; dsimp only [List.set] at HM)) | (refine q9b ?_; (first | (refine q8g rfl rfl ?_) | (refine q8h rfl _ rfl rfl ?_) | (refine q8i rfl _ rfl rfl (by exact q7w) ?_) | (refine q8v rfl _ rfl (by exact q7a) (by kernel_rfl) ?_))) | ((first | refine q9a ?_ | refine q9x ?_); ((first | refine q8t rfl _ _ rfl rfl HM ?_ | refine q8u rfl _ rfl rowSyn HM ?_ | refine q8u rfl _ rfl rowMou HM ?_ | refine q8u rfl _ rfl (by exact q7r) HM ?_); first | (have q:dV HM = 0:=rfl;clear q HM;intro g1 u1 HG1 HM) | (have q:dV HM = 1:=rfl;clear q HM;intro g2 u2 HG2 HM) | (have q:dV HM = 2:=rfl;clear q HM;intro g3 u3 HG3 HM) | (have q:dV HM = 3:=rfl;clear q HM;intro g4 u4 HG4 HM)))))
   go_ret
   exact ⟨rfl, HM.out.1⟩
  | true =>
   rw [h2] at hz
   have HC := Lib.hid (HB.out true 0 h2 rfl)
   clear h2 HB
   cases h3 : s.live with
   | false =>
    rw [h3] at hz
    obtain rfl : z = 0 := by rw [← hz]; rfl
    have HLV := Lib.hid h3
    clear hz h3
    go_enter Tryz.func22, Tryz.ntmps22
    go_wp2_with (first | (refine q9l ?_; first | (first | (refine q8a rfl _ rfl rfl HM (by exact q7m) (by exact q7w) ?_) | (refine q8b rfl _ rfl rfl HM (by exact q7m) (by exact q7w) ?_) | (refine q8c rfl _ rfl rfl HM (by exact q7m) (by exact q7w) (by with_reducible assumption) ?_) | (refine q8d rfl _ rfl rfl HM (by exact q7m) (by exact q7w) (by with_reducible assumption) ?_) | (refine q8c rfl _ rfl rfl HM (by exact q7m) (by exact q7w) (Lib.hid rfl) ?_) | (refine q8d rfl _ rfl rfl HM (by exact q7m) (by exact q7w) (Lib.hid rfl) ?_) | (refine q8e rfl _ rfl rfl HM (by exact q7m) (by exact q7w) ?_) | (refine q8f rfl _ rfl rfl HM (by exact q7m) (by exact q7w) ?_)) | (refine q8q rfl _ _ rfl rfl (by exact q7r) HM (by exact q7m) (by exact q7s) ?_) | (refine q8r rfl _ _ rfl rfl (by exact q7a) HM (by exact q7m) (by exact q7f) (by exact q7l) ?_)) | (refine q9s ?_; first | ((first | refine q8o rfl _ _ rfl rfl rfl HM (by exact q7i) (by exact q7w) (by exact q7w) ?_ | refine q8p rfl _ _ rfl rfl rfl HM (by exact q7i) (by exact q7w) (by exact q7w) ?_); clear HM; intro us HM; dsimp only [List.set] at HM) | ((first | refine q8j rfl _ _ rfl rfl rfl HM (by exact q7i) HSW (by exact q7l) ?_ | refine q8k rfl _ _ rfl rfl rfl HM (by exact q7i) HSW (by exact q7l) ?_ | refine q8l rfl _ _ rfl rfl rfl HM (by exact q7i) HSW ?_ | refine q8m rfl _ _ rfl rfl rfl HM (by exact q7i) HSW ?_ | refine q8n rfl _ _ rfl rfl rfl HM (by exact q7i) HSW (by with_reducible assumption) ?_); clear HM HSW; intro us HM HSW; dsimp only [List.set] at HM HSW) | (refine q8s rfl _ _ _ rfl rfl rfl (by exact q7r) HM (by exact q7i) (by exact q7s) (by exact q7s) (by exact q7o) ?_; clear HM; intro us HM; dsimp only [List.set] at HM)) | (refine q9b ?_; (first | (refine q8g rfl rfl ?_) | (refine q8h rfl _ rfl rfl ?_) | (refine q8i rfl _ rfl rfl (by exact q7w) ?_) | (refine q8v rfl _ rfl (by exact q7a) (by kernel_rfl) ?_))) | ((first | refine q9a ?_ | refine q9x ?_); ((first | refine q8t rfl _ _ rfl rfl HM ?_ | refine q8u rfl _ rfl rowSyn HM ?_ | refine q8u rfl _ rfl rowMou HM ?_ | refine q8u rfl _ rfl (by exact q7r) HM ?_); first | (have q:dV HM = 0:=rfl;clear q HM;intro g1 u1 HG1 HM) | (have q:dV HM = 1:=rfl;clear q HM;intro g2 u2 HG2 HM) | (have q:dV HM = 2:=rfl;clear q HM;intro g3 u3 HG3 HM) | (have q:dV HM = 3:=rfl;clear q HM;intro g4 u4 HG4 HM))))
    refine (HLP.out _).mono ?_
    rintro e w3 ⟨rfl, hb⟩
    replace HM := Lib.hid (HM.out.below hb)
    clear hb HLP
    go_wp2_with (first | (refine q8w (by rfl) ?_) | (first | (refine q9l ?_; first | (first | (refine q8a rfl _ rfl rfl HM (by exact q7m) (by exact q7w) ?_) | (refine q8b rfl _ rfl rfl HM (by exact q7m) (by exact q7w) ?_) | (refine q8c rfl _ rfl rfl HM (by exact q7m) (by exact q7w) (by with_reducible assumption) ?_) | (refine q8d rfl _ rfl rfl HM (by exact q7m) (by exact q7w) (by with_reducible assumption) ?_) | (refine q8c rfl _ rfl rfl HM (by exact q7m) (by exact q7w) (Lib.hid rfl) ?_) | (refine q8d rfl _ rfl rfl HM (by exact q7m) (by exact q7w) (Lib.hid rfl) ?_) | (refine q8e rfl _ rfl rfl HM (by exact q7m) (by exact q7w) ?_) | (refine q8f rfl _ rfl rfl HM (by exact q7m) (by exact q7w) ?_)) | (refine q8q rfl _ _ rfl rfl (by exact q7r) HM (by exact q7m) (by exact q7s) ?_) | (refine q8r rfl _ _ rfl rfl (by exact q7a) HM (by exact q7m) (by exact q7f) (by exact q7l) ?_)) | (refine q9s ?_; first | ((first | refine q8o rfl _ _ rfl rfl rfl HM (by exact q7i) (by exact q7w) (by exact q7w) ?_ | refine q8p rfl _ _ rfl rfl rfl HM (by exact q7i) (by exact q7w) (by exact q7w) ?_); clear HM; intro us HM; dsimp only [List.set] at HM) | ((first | refine q8j rfl _ _ rfl rfl rfl HM (by exact q7i) HSW (by exact q7l) ?_ | refine q8k rfl _ _ rfl rfl rfl HM (by exact q7i) HSW (by exact q7l) ?_ | refine q8l rfl _ _ rfl rfl rfl HM (by exact q7i) HSW ?_ | refine q8m rfl _ _ rfl rfl rfl HM (by exact q7i) HSW ?_ | refine q8n rfl _ _ rfl rfl rfl HM (by exact q7i) HSW (by with_reducible assumption) ?_); clear HM HSW; intro us HM HSW; dsimp only [List.set] at HM HSW) | (refine q8s rfl _ _ _ rfl rfl rfl (by exact q7r) HM (by exact q7i) (by exact q7s) (by exact q7s) (by exact q7o) ?_; clear HM; intro us HM; dsimp only [List.set] at HM)) | (refine q9b ?_; (first | (refine q8g rfl rfl ?_) | (refine q8h rfl _ rfl rfl ?_) | (refine q8i rfl _ rfl rfl (by exact q7w) ?_) | (refine q8v rfl _ rfl (by exact q7a) (by kernel_rfl) ?_))) | ((first | refine q9a ?_ | refine q9x ?_); ((first | refine q8t rfl _ _ rfl rfl HM ?_ | refine q8u rfl _ rfl rowSyn HM ?_ | refine q8u rfl _ rfl rowMou HM ?_ | refine q8u rfl _ rfl (by exact q7r) HM ?_); first | (have q:dV HM = 0:=rfl;clear q HM;intro g1 u1 HG1 HM) | (have q:dV HM = 1:=rfl;clear q HM;intro g2 u2 HG2 HM) | (have q:dV HM = 2:=rfl;clear q HM;intro g3 u3 HG3 HM) | (have q:dV HM = 3:=rfl;clear q HM;intro g4 u4 HG4 HM)))))
    refine (HC.out _).mono ?_
    rintro e w3 ⟨rfl, hb⟩
    replace HM := Lib.hid (HM.out.below hb)
    clear hb HC
    go_wp2_with (first | (refine q8w (by rfl) ?_) | (first | (refine q9l ?_; first | (first | (refine q8a rfl _ rfl rfl HM (by exact q7m) (by exact q7w) ?_) | (refine q8b rfl _ rfl rfl HM (by exact q7m) (by exact q7w) ?_) | (refine q8c rfl _ rfl rfl HM (by exact q7m) (by exact q7w) (by with_reducible assumption) ?_) | (refine q8d rfl _ rfl rfl HM (by exact q7m) (by exact q7w) (by with_reducible assumption) ?_) | (refine q8c rfl _ rfl rfl HM (by exact q7m) (by exact q7w) (Lib.hid rfl) ?_) | (refine q8d rfl _ rfl rfl HM (by exact q7m) (by exact q7w) (Lib.hid rfl) ?_) | (refine q8e rfl _ rfl rfl HM (by exact q7m) (by exact q7w) ?_) | (refine q8f rfl _ rfl rfl HM (by exact q7m) (by exact q7w) ?_)) | (refine q8q rfl _ _ rfl rfl (by exact q7r) HM (by exact q7m) (by exact q7s) ?_) | (refine q8r rfl _ _ rfl rfl (by exact q7a) HM (by exact q7m) (by exact q7f) (by exact q7l) ?_)) | (refine q9s ?_; first | ((first | refine q8o rfl _ _ rfl rfl rfl HM (by exact q7i) (by exact q7w) (by exact q7w) ?_ | refine q8p rfl _ _ rfl rfl rfl HM (by exact q7i) (by exact q7w) (by exact q7w) ?_); clear HM; intro us HM; dsimp only [List.set] at HM) | ((first | refine q8j rfl _ _ rfl rfl rfl HM (by exact q7i) HSW (by exact q7l) ?_ | refine q8k rfl _ _ rfl rfl rfl HM (by exact q7i) HSW (by exact q7l) ?_ | refine q8l rfl _ _ rfl rfl rfl HM (by exact q7i) HSW ?_ | refine q8m rfl _ _ rfl rfl rfl HM (by exact q7i) HSW ?_ | refine q8n rfl _ _ rfl rfl rfl HM (by exact q7i) HSW (by with_reducible assumption) ?_); clear HM HSW; intro us HM HSW; dsimp only [List.set] at HM HSW) | (refine q8s rfl _ _ _ rfl rfl rfl (by exact q7r) HM (by exact q7i) (by exact q7s) (by exact q7s) (by exact q7o) ?_; clear HM; intro us HM; dsimp only [List.set] at HM)) | (refine q9b ?_; (first | (refine q8g rfl rfl ?_) | (refine q8h rfl _ rfl rfl ?_) | (refine q8i rfl _ rfl rfl (by exact q7w) ?_) | (refine q8v rfl _ rfl (by exact q7a) (by kernel_rfl) ?_))) | ((first | refine q9a ?_ | refine q9x ?_); ((first | refine q8t rfl _ _ rfl rfl HM ?_ | refine q8u rfl _ rfl rowSyn HM ?_ | refine q8u rfl _ rfl rowMou HM ?_ | refine q8u rfl _ rfl (by exact q7r) HM ?_); first | (have q:dV HM = 0:=rfl;clear q HM;intro g1 u1 HG1 HM) | (have q:dV HM = 1:=rfl;clear q HM;intro g2 u2 HG2 HM) | (have q:dV HM = 2:=rfl;clear q HM;intro g3 u3 HG3 HM) | (have q:dV HM = 3:=rfl;clear q HM;intro g4 u4 HG4 HM)))))
    go_ret
    exact ⟨rfl, HM.out.1⟩
   | true =>
    rw [h3] at hz
    have HLV := Lib.hid h3
    obtain ⟨v, hv⟩ : ∃ v, s.hush = v := ⟨_, rfl⟩
    rw [hv] at hz
    have HHU := Lib.hid hv
    clear h3 hv
    cases v
    all_goals
     first
      | (have ez : z = 0 := hz.symm; subst ez)
      | (have ez : z = 1 := hz.symm; subst ez)
     clear hz
     go_enter Tryz.func22, Tryz.ntmps22
     go_wp2_with (first | (refine q9l ?_; first | (first | (refine q8a rfl _ rfl rfl HM (by exact q7m) (by exact q7w) ?_) | (refine q8b rfl _ rfl rfl HM (by exact q7m) (by exact q7w) ?_) | (refine q8c rfl _ rfl rfl HM (by exact q7m) (by exact q7w) (by with_reducible assumption) ?_) | (refine q8d rfl _ rfl rfl HM (by exact q7m) (by exact q7w) (by with_reducible assumption) ?_) | (refine q8c rfl _ rfl rfl HM (by exact q7m) (by exact q7w) (Lib.hid rfl) ?_) | (refine q8d rfl _ rfl rfl HM (by exact q7m) (by exact q7w) (Lib.hid rfl) ?_) | (refine q8e rfl _ rfl rfl HM (by exact q7m) (by exact q7w) ?_) | (refine q8f rfl _ rfl rfl HM (by exact q7m) (by exact q7w) ?_)) | (refine q8q rfl _ _ rfl rfl (by exact q7r) HM (by exact q7m) (by exact q7s) ?_) | (refine q8r rfl _ _ rfl rfl (by exact q7a) HM (by exact q7m) (by exact q7f) (by exact q7l) ?_)) | (refine q9s ?_; first | ((first | refine q8o rfl _ _ rfl rfl rfl HM (by exact q7i) (by exact q7w) (by exact q7w) ?_ | refine q8p rfl _ _ rfl rfl rfl HM (by exact q7i) (by exact q7w) (by exact q7w) ?_); clear HM; intro us HM; dsimp only [List.set] at HM) | ((first | refine q8j rfl _ _ rfl rfl rfl HM (by exact q7i) HSW (by exact q7l) ?_ | refine q8k rfl _ _ rfl rfl rfl HM (by exact q7i) HSW (by exact q7l) ?_ | refine q8l rfl _ _ rfl rfl rfl HM (by exact q7i) HSW ?_ | refine q8m rfl _ _ rfl rfl rfl HM (by exact q7i) HSW ?_ | refine q8n rfl _ _ rfl rfl rfl HM (by exact q7i) HSW (by with_reducible assumption) ?_); clear HM HSW; intro us HM HSW; dsimp only [List.set] at HM HSW) | (refine q8s rfl _ _ _ rfl rfl rfl (by exact q7r) HM (by exact q7i) (by exact q7s) (by exact q7s) (by exact q7o) ?_; clear HM; intro us HM; dsimp only [List.set] at HM)) | (refine q9b ?_; (first | (refine q8g rfl rfl ?_) | (refine q8h rfl _ rfl rfl ?_) | (refine q8i rfl _ rfl rfl (by exact q7w) ?_) | (refine q8v rfl _ rfl (by exact q7a) (by kernel_rfl) ?_))) | ((first | refine q9a ?_ | refine q9x ?_); ((first | refine q8t rfl _ _ rfl rfl HM ?_ | refine q8u rfl _ rfl rowSyn HM ?_ | refine q8u rfl _ rfl rowMou HM ?_ | refine q8u rfl _ rfl (by exact q7r) HM ?_); first | (have q:dV HM = 0:=rfl;clear q HM;intro g1 u1 HG1 HM) | (have q:dV HM = 1:=rfl;clear q HM;intro g2 u2 HG2 HM) | (have q:dV HM = 2:=rfl;clear q HM;intro g3 u3 HG3 HM) | (have q:dV HM = 3:=rfl;clear q HM;intro g4 u4 HG4 HM))))
     refine (HLP.out _).mono ?_
     rintro e w3 ⟨rfl, hb⟩
     replace HM := Lib.hid (HM.out.below hb)
     clear hb HLP
     go_wp2_with (first | (refine q8w (by rfl) ?_) | (first | (refine q9l ?_; first | (first | (refine q8a rfl _ rfl rfl HM (by exact q7m) (by exact q7w) ?_) | (refine q8b rfl _ rfl rfl HM (by exact q7m) (by exact q7w) ?_) | (refine q8c rfl _ rfl rfl HM (by exact q7m) (by exact q7w) (by with_reducible assumption) ?_) | (refine q8d rfl _ rfl rfl HM (by exact q7m) (by exact q7w) (by with_reducible assumption) ?_) | (refine q8c rfl _ rfl rfl HM (by exact q7m) (by exact q7w) (Lib.hid rfl) ?_) | (refine q8d rfl _ rfl rfl HM (by exact q7m) (by exact q7w) (Lib.hid rfl) ?_) | (refine q8e rfl _ rfl rfl HM (by exact q7m) (by exact q7w) ?_) | (refine q8f rfl _ rfl rfl HM (by exact q7m) (by exact q7w) ?_)) | (refine q8q rfl _ _ rfl rfl (by exact q7r) HM (by exact q7m) (by exact q7s) ?_) | (refine q8r rfl _ _ rfl rfl (by exact q7a) HM (by exact q7m) (by exact q7f) (by exact q7l) ?_)) | (refine q9s ?_; first | ((first | refine q8o rfl _ _ rfl rfl rfl HM (by exact q7i) (by exact q7w) (by exact q7w) ?_ | refine q8p rfl _ _ rfl rfl rfl HM (by exact q7i) (by exact q7w) (by exact q7w) ?_); clear HM; intro us HM; dsimp only [List.set] at HM) | ((first | refine q8j rfl _ _ rfl rfl rfl HM (by exact q7i) HSW (by exact q7l) ?_ | refine q8k rfl _ _ rfl rfl rfl HM (by exact q7i) HSW (by exact q7l) ?_ | refine q8l rfl _ _ rfl rfl rfl HM (by exact q7i) HSW ?_ | refine q8m rfl _ _ rfl rfl rfl HM (by exact q7i) HSW ?_ | refine q8n rfl _ _ rfl rfl rfl HM (by exact q7i) HSW (by with_reducible assumption) ?_); clear HM HSW; intro us HM HSW; dsimp only [List.set] at HM HSW) | (refine q8s rfl _ _ _ rfl rfl rfl (by exact q7r) HM (by exact q7i) (by exact q7s) (by exact q7s) (by exact q7o) ?_; clear HM; intro us HM; dsimp only [List.set] at HM)) | (refine q9b ?_; (first | (refine q8g rfl rfl ?_) | (refine q8h rfl _ rfl rfl ?_) | (refine q8i rfl _ rfl rfl (by exact q7w) ?_) | (refine q8v rfl _ rfl (by exact q7a) (by kernel_rfl) ?_))) | ((first | refine q9a ?_ | refine q9x ?_); ((first | refine q8t rfl _ _ rfl rfl HM ?_ | refine q8u rfl _ rfl rowSyn HM ?_ | refine q8u rfl _ rfl rowMou HM ?_ | refine q8u rfl _ rfl (by exact q7r) HM ?_); first | (have q:dV HM = 0:=rfl;clear q HM;intro g1 u1 HG1 HM) | (have q:dV HM = 1:=rfl;clear q HM;intro g2 u2 HG2 HM) | (have q:dV HM = 2:=rfl;clear q HM;intro g3 u3 HG3 HM) | (have q:dV HM = 3:=rfl;clear q HM;intro g4 u4 HG4 HM)))))
     refine (HC.out _).mono ?_
     rintro e w3 ⟨rfl, hb⟩
     replace HM := Lib.hid (HM.out.below hb)
     clear hb HC
     go_wp2_with (first | (refine q8w (by rfl) ?_) | (first | (refine q9l ?_; first | (first | (refine q8a rfl _ rfl rfl HM (by exact q7m) (by exact q7w) ?_) | (refine q8b rfl _ rfl rfl HM (by exact q7m) (by exact q7w) ?_) | (refine q8c rfl _ rfl rfl HM (by exact q7m) (by exact q7w) (by with_reducible assumption) ?_) | (refine q8d rfl _ rfl rfl HM (by exact q7m) (by exact q7w) (by with_reducible assumption) ?_) | (refine q8c rfl _ rfl rfl HM (by exact q7m) (by exact q7w) (Lib.hid rfl) ?_) | (refine q8d rfl _ rfl rfl HM (by exact q7m) (by exact q7w) (Lib.hid rfl) ?_) | (refine q8e rfl _ rfl rfl HM (by exact q7m) (by exact q7w) ?_) | (refine q8f rfl _ rfl rfl HM (by exact q7m) (by exact q7w) ?_)) | (refine q8q rfl _ _ rfl rfl (by exact q7r) HM (by exact q7m) (by exact q7s) ?_) | (refine q8r rfl _ _ rfl rfl (by exact q7a) HM (by exact q7m) (by exact q7f) (by exact q7l) ?_)) | (refine q9s ?_; first | ((first | refine q8o rfl _ _ rfl rfl rfl HM (by exact q7i) (by exact q7w) (by exact q7w) ?_ | refine q8p rfl _ _ rfl rfl rfl HM (by exact q7i) (by exact q7w) (by exact q7w) ?_); clear HM; intro us HM; dsimp only [List.set] at HM) | ((first | refine q8j rfl _ _ rfl rfl rfl HM (by exact q7i) HSW (by exact q7l) ?_ | refine q8k rfl _ _ rfl rfl rfl HM (by exact q7i) HSW (by exact q7l) ?_ | refine q8l rfl _ _ rfl rfl rfl HM (by exact q7i) HSW ?_ | refine q8m rfl _ _ rfl rfl rfl HM (by exact q7i) HSW ?_ | refine q8n rfl _ _ rfl rfl rfl HM (by exact q7i) HSW (by with_reducible assumption) ?_); clear HM HSW; intro us HM HSW; dsimp only [List.set] at HM HSW) | (refine q8s rfl _ _ _ rfl rfl rfl (by exact q7r) HM (by exact q7i) (by exact q7s) (by exact q7s) (by exact q7o) ?_; clear HM; intro us HM; dsimp only [List.set] at HM)) | (refine q9b ?_; (first | (refine q8g rfl rfl ?_) | (refine q8h rfl _ rfl rfl ?_) | (refine q8i rfl _ rfl rfl (by exact q7w) ?_) | (refine q8v rfl _ rfl (by exact q7a) (by kernel_rfl) ?_))) | ((first | refine q9a ?_ | refine q9x ?_); ((first | refine q8t rfl _ _ rfl rfl HM ?_ | refine q8u rfl _ rfl rowSyn HM ?_ | refine q8u rfl _ rfl rowMou HM ?_ | refine q8u rfl _ rfl (by exact q7r) HM ?_); first | (have q:dV HM = 0:=rfl;clear q HM;intro g1 u1 HG1 HM) | (have q:dV HM = 1:=rfl;clear q HM;intro g2 u2 HG2 HM) | (have q:dV HM = 2:=rfl;clear q HM;intro g3 u3 HG3 HM) | (have q:dV HM = 3:=rfl;clear q HM;intro g4 u4 HG4 HM)))))
     go_ret
     exact ⟨rfl, HM.out.1⟩
def dsV (d : Ds) : Value := match d with
 | .ok (s, p) => .tuple #[.agg (syC s), .agg (icells p), .int .i64 0]
 | .error z => .tuple #[.agg (syC Sy.z), .agg (icells (zr 16)), .int .i64 z]
theorem pstart_any (w : World) : Calls Tryz.prog 14 #[] w (ValQ w (.agg (syC Sy.one))) := by
 have HM := Lib.hid (MV.start w)
 go_enter Tryz.func14, Tryz.ntmps14
 go_wp2_with (first | (refine q9l ?_; first | (first | (refine q8a rfl _ rfl rfl HM (by exact q7m) (by exact q7w) ?_) | (refine q8b rfl _ rfl rfl HM (by exact q7m) (by exact q7w) ?_) | (refine q8c rfl _ rfl rfl HM (by exact q7m) (by exact q7w) (by with_reducible assumption) ?_) | (refine q8d rfl _ rfl rfl HM (by exact q7m) (by exact q7w) (by with_reducible assumption) ?_) | (refine q8c rfl _ rfl rfl HM (by exact q7m) (by exact q7w) (Lib.hid rfl) ?_) | (refine q8d rfl _ rfl rfl HM (by exact q7m) (by exact q7w) (Lib.hid rfl) ?_) | (refine q8e rfl _ rfl rfl HM (by exact q7m) (by exact q7w) ?_) | (refine q8f rfl _ rfl rfl HM (by exact q7m) (by exact q7w) ?_)) | (refine q8q rfl _ _ rfl rfl (by exact q7r) HM (by exact q7m) (by exact q7s) ?_) | (refine q8r rfl _ _ rfl rfl (by exact q7a) HM (by exact q7m) (by exact q7f) (by exact q7l) ?_)) | (refine q9s ?_; first | ((first | refine q8o rfl _ _ rfl rfl rfl HM (by exact q7i) (by exact q7w) (by exact q7w) ?_ | refine q8p rfl _ _ rfl rfl rfl HM (by exact q7i) (by exact q7w) (by exact q7w) ?_); clear HM; intro us HM; dsimp only [List.set] at HM) | ((first | refine q8j rfl _ _ rfl rfl rfl HM (by exact q7i) HSW (by exact q7l) ?_ | refine q8k rfl _ _ rfl rfl rfl HM (by exact q7i) HSW (by exact q7l) ?_ | refine q8l rfl _ _ rfl rfl rfl HM (by exact q7i) HSW ?_ | refine q8m rfl _ _ rfl rfl rfl HM (by exact q7i) HSW ?_ | refine q8n rfl _ _ rfl rfl rfl HM (by exact q7i) HSW (by with_reducible assumption) ?_); clear HM HSW; intro us HM HSW; dsimp only [List.set] at HM HSW) | (refine q8s rfl _ _ _ rfl rfl rfl (by exact q7r) HM (by exact q7i) (by exact q7s) (by exact q7s) (by exact q7o) ?_; clear HM; intro us HM; dsimp only [List.set] at HM)) | (refine q9b ?_; (first | (refine q8g rfl rfl ?_) | (refine q8h rfl _ rfl rfl ?_) | (refine q8i rfl _ rfl rfl (by exact q7w) ?_) | (refine q8v rfl _ rfl (by exact q7a) (by kernel_rfl) ?_))) | ((first | refine q9a ?_ | refine q9x ?_); ((first | refine q8t rfl _ _ rfl rfl HM ?_ | refine q8u rfl _ rfl rowSyn HM ?_ | refine q8u rfl _ rfl rowMou HM ?_ | refine q8u rfl _ rfl (by exact q7r) HM ?_); first | (have q:dV HM = 0:=rfl;clear q HM;intro g1 u1 HG1 HM) | (have q:dV HM = 1:=rfl;clear q HM;intro g2 u2 HG2 HM) | (have q:dV HM = 2:=rfl;clear q HM;intro g3 u3 HG3 HM) | (have q:dV HM = 3:=rfl;clear q HM;intro g4 u4 HG4 HM))))
 refine bodyPost_ret (v := .agg (syC Sy.one)) (vres_cs rfl _ rfl rowSyn HM (by exact q7m) (by exact q7z)) rfl ⟨rfl, HM.out.1⟩
def SayQ (w0 w : World) (m : Nat) (d : Ds) (e : Ending) (u : World) : Prop := e = .returned (dsV d) ∧ (∃ cs, MV w0 w [(m, 61, cs)] u) ∧ match d with
 | .ok (s, p) => SyW s ∧ p.length = 16
 | .error z => (z == 0) = false
theorem say_any {w0 w : World} {m : Nat} (s : Sy) (d : Ds) (g : Nat) (fs lb : Array Value) (eg : ∀ (args : Array Value) (u : World), (callFunc g args).run Tryz.prog u = .ok (.enter g args) u) (hm : Hid (MV w0 w [(m, 61, syC s)] w)) (hs : Hid (SyW s)) (hd : okSy s = false → d = .error 1)
  (hT : Hid (okSy s = true → ∀ u, MV w0 w [(m, 61, syC s)] u → Calls Tryz.prog g (fs ++ lb) u (SdQ w0 u m d))) :
  Calls Tryz.prog 26 #[.pointer (some ⟨m, 0, none⟩), .func (.func g) fs lb] w (SayQ w0 w m d) := by
 have HM := hm
 have HSW := hs
 have LZ := Lib.hid (zr_length 16)
 unfold SayQ
 cases hk : okSy s with
 | false =>
  have HCK := Lib.hid (fun u => pcheck_any s 1 u hs (by rw [hk]; rfl))
  obtain rfl := hd hk
  clear hd hk hT hm hs
  go_enter Tryz.func26, Tryz.ntmps26
  go_wp2_with (first | (refine q9l ?_; first | (first | (refine q8a rfl _ rfl rfl HM (by exact q7m) (by exact q7w) ?_) | (refine q8b rfl _ rfl rfl HM (by exact q7m) (by exact q7w) ?_) | (refine q8c rfl _ rfl rfl HM (by exact q7m) (by exact q7w) (by with_reducible assumption) ?_) | (refine q8d rfl _ rfl rfl HM (by exact q7m) (by exact q7w) (by with_reducible assumption) ?_) | (refine q8c rfl _ rfl rfl HM (by exact q7m) (by exact q7w) (Lib.hid rfl) ?_) | (refine q8d rfl _ rfl rfl HM (by exact q7m) (by exact q7w) (Lib.hid rfl) ?_) | (refine q8e rfl _ rfl rfl HM (by exact q7m) (by exact q7w) ?_) | (refine q8f rfl _ rfl rfl HM (by exact q7m) (by exact q7w) ?_)) | (refine q8q rfl _ _ rfl rfl (by exact q7r) HM (by exact q7m) (by exact q7s) ?_) | (refine q8r rfl _ _ rfl rfl (by exact q7a) HM (by exact q7m) (by exact q7f) (by exact q7l) ?_)) | (refine q9s ?_; first | ((first | refine q8o rfl _ _ rfl rfl rfl HM (by exact q7i) (by exact q7w) (by exact q7w) ?_ | refine q8p rfl _ _ rfl rfl rfl HM (by exact q7i) (by exact q7w) (by exact q7w) ?_); clear HM; intro us HM; dsimp only [List.set] at HM) | ((first | refine q8j rfl _ _ rfl rfl rfl HM (by exact q7i) HSW (by exact q7l) ?_ | refine q8k rfl _ _ rfl rfl rfl HM (by exact q7i) HSW (by exact q7l) ?_ | refine q8l rfl _ _ rfl rfl rfl HM (by exact q7i) HSW ?_ | refine q8m rfl _ _ rfl rfl rfl HM (by exact q7i) HSW ?_ | refine q8n rfl _ _ rfl rfl rfl HM (by exact q7i) HSW (by with_reducible assumption) ?_); clear HM HSW; intro us HM HSW; dsimp only [List.set] at HM HSW) | (refine q8s rfl _ _ _ rfl rfl rfl (by exact q7r) HM (by exact q7i) (by exact q7s) (by exact q7s) (by exact q7o) ?_; clear HM; intro us HM; dsimp only [List.set] at HM)) | (refine q9b ?_; (first | (refine q8g rfl rfl ?_) | (refine q8h rfl _ rfl rfl ?_) | (refine q8i rfl _ rfl rfl (by exact q7w) ?_) | (refine q8v rfl _ rfl (by exact q7a) (by kernel_rfl) ?_))) | ((first | refine q9a ?_ | refine q9x ?_); ((first | refine q8t rfl _ _ rfl rfl HM ?_ | refine q8u rfl _ rfl rowSyn HM ?_ | refine q8u rfl _ rfl rowMou HM ?_ | refine q8u rfl _ rfl (by exact q7r) HM ?_); first | (have q:dV HM = 0:=rfl;clear q HM;intro g1 u1 HG1 HM) | (have q:dV HM = 1:=rfl;clear q HM;intro g2 u2 HG2 HM) | (have q:dV HM = 2:=rfl;clear q HM;intro g3 u3 HG3 HM) | (have q:dV HM = 3:=rfl;clear q HM;intro g4 u4 HG4 HM) | (have q:dV HM = 4:=rfl;clear q HM;intro g5 u5 HG5 HM))))
  refine (HCK.out _).mono ?_
  rintro e w3 ⟨rfl, hb⟩
  replace HM := Lib.hid (HM.out.below hb)
  clear hb HCK
  go_wp2_with (first | (refine q9l ?_; first | (first | (refine q8a rfl _ rfl rfl HM (by exact q7m) (by exact q7w) ?_) | (refine q8b rfl _ rfl rfl HM (by exact q7m) (by exact q7w) ?_) | (refine q8c rfl _ rfl rfl HM (by exact q7m) (by exact q7w) (by with_reducible assumption) ?_) | (refine q8d rfl _ rfl rfl HM (by exact q7m) (by exact q7w) (by with_reducible assumption) ?_) | (refine q8c rfl _ rfl rfl HM (by exact q7m) (by exact q7w) (Lib.hid rfl) ?_) | (refine q8d rfl _ rfl rfl HM (by exact q7m) (by exact q7w) (Lib.hid rfl) ?_) | (refine q8e rfl _ rfl rfl HM (by exact q7m) (by exact q7w) ?_) | (refine q8f rfl _ rfl rfl HM (by exact q7m) (by exact q7w) ?_)) | (refine q8q rfl _ _ rfl rfl (by exact q7r) HM (by exact q7m) (by exact q7s) ?_) | (refine q8r rfl _ _ rfl rfl (by exact q7a) HM (by exact q7m) (by exact q7f) (by exact q7l) ?_)) | (refine q9s ?_; first | ((first | refine q8o rfl _ _ rfl rfl rfl HM (by exact q7i) (by exact q7w) (by exact q7w) ?_ | refine q8p rfl _ _ rfl rfl rfl HM (by exact q7i) (by exact q7w) (by exact q7w) ?_); clear HM; intro us HM; dsimp only [List.set] at HM) | ((first | refine q8j rfl _ _ rfl rfl rfl HM (by exact q7i) HSW (by exact q7l) ?_ | refine q8k rfl _ _ rfl rfl rfl HM (by exact q7i) HSW (by exact q7l) ?_ | refine q8l rfl _ _ rfl rfl rfl HM (by exact q7i) HSW ?_ | refine q8m rfl _ _ rfl rfl rfl HM (by exact q7i) HSW ?_ | refine q8n rfl _ _ rfl rfl rfl HM (by exact q7i) HSW (by with_reducible assumption) ?_); clear HM HSW; intro us HM HSW; dsimp only [List.set] at HM HSW) | (refine q8s rfl _ _ _ rfl rfl rfl (by exact q7r) HM (by exact q7i) (by exact q7s) (by exact q7s) (by exact q7o) ?_; clear HM; intro us HM; dsimp only [List.set] at HM)) | (refine q9b ?_; (first | (refine q8g rfl rfl ?_) | (refine q8h rfl _ rfl rfl ?_) | (refine q8i rfl _ rfl rfl (by exact q7w) ?_) | (refine q8v rfl _ rfl (by exact q7a) (by kernel_rfl) ?_))) | ((first | refine q9a ?_ | refine q9x ?_); ((first | refine q8t rfl _ _ rfl rfl HM ?_ | refine q8u rfl _ rfl rowSyn HM ?_ | refine q8u rfl _ rfl rowMou HM ?_ | refine q8u rfl _ rfl (by exact q7r) HM ?_); first | (have q:dV HM = 0:=rfl;clear q HM;intro g1 u1 HG1 HM) | (have q:dV HM = 1:=rfl;clear q HM;intro g2 u2 HG2 HM) | (have q:dV HM = 2:=rfl;clear q HM;intro g3 u3 HG3 HM) | (have q:dV HM = 3:=rfl;clear q HM;intro g4 u4 HG4 HM) | (have q:dV HM = 4:=rfl;clear q HM;intro g5 u5 HG5 HM))))
  refine bodyPost_ret (v := .tuple #[.agg (syC Sy.z), .agg (icells (zr 16)), .int .i64 1]) (vres_css rfl _ rfl rfl rfl rowSyn (by exact q7r) HM (by exact q7m) (by exact q7m) (by exact q7z) (by exact q7s)) rfl ⟨rfl, ⟨_, (by have HP := HM.out; (repeat (replace HP := HP.popH (by with_reducible assumption))); exact HP)⟩, rfl⟩
 | true =>
  have HCK := Lib.hid (fun u => pcheck_any s 0 u hs (by rw [hk]; rfl))
  have HCT := Lib.hid (hT.out hk)
  clear hd hk hT hm hs
  cases d with
  | error z =>
   unfold SdQ at HCT
   dsimp only at HCT
   go_enter Tryz.func26, Tryz.ntmps26
   go_wp2_with (first | (refine q9l ?_; first | (first | (refine q8a rfl _ rfl rfl HM (by exact q7m) (by exact q7w) ?_) | (refine q8b rfl _ rfl rfl HM (by exact q7m) (by exact q7w) ?_) | (refine q8c rfl _ rfl rfl HM (by exact q7m) (by exact q7w) (by with_reducible assumption) ?_) | (refine q8d rfl _ rfl rfl HM (by exact q7m) (by exact q7w) (by with_reducible assumption) ?_) | (refine q8c rfl _ rfl rfl HM (by exact q7m) (by exact q7w) (Lib.hid rfl) ?_) | (refine q8d rfl _ rfl rfl HM (by exact q7m) (by exact q7w) (Lib.hid rfl) ?_) | (refine q8e rfl _ rfl rfl HM (by exact q7m) (by exact q7w) ?_) | (refine q8f rfl _ rfl rfl HM (by exact q7m) (by exact q7w) ?_)) | (refine q8q rfl _ _ rfl rfl (by exact q7r) HM (by exact q7m) (by exact q7s) ?_) | (refine q8r rfl _ _ rfl rfl (by exact q7a) HM (by exact q7m) (by exact q7f) (by exact q7l) ?_)) | (refine q9s ?_; first | ((first | refine q8o rfl _ _ rfl rfl rfl HM (by exact q7i) (by exact q7w) (by exact q7w) ?_ | refine q8p rfl _ _ rfl rfl rfl HM (by exact q7i) (by exact q7w) (by exact q7w) ?_); clear HM; intro us HM; dsimp only [List.set] at HM) | ((first | refine q8j rfl _ _ rfl rfl rfl HM (by exact q7i) HSW (by exact q7l) ?_ | refine q8k rfl _ _ rfl rfl rfl HM (by exact q7i) HSW (by exact q7l) ?_ | refine q8l rfl _ _ rfl rfl rfl HM (by exact q7i) HSW ?_ | refine q8m rfl _ _ rfl rfl rfl HM (by exact q7i) HSW ?_ | refine q8n rfl _ _ rfl rfl rfl HM (by exact q7i) HSW (by with_reducible assumption) ?_); clear HM HSW; intro us HM HSW; dsimp only [List.set] at HM HSW) | (refine q8s rfl _ _ _ rfl rfl rfl (by exact q7r) HM (by exact q7i) (by exact q7s) (by exact q7s) (by exact q7o) ?_; clear HM; intro us HM; dsimp only [List.set] at HM)) | (refine q9b ?_; (first | (refine q8g rfl rfl ?_) | (refine q8h rfl _ rfl rfl ?_) | (refine q8i rfl _ rfl rfl (by exact q7w) ?_) | (refine q8v rfl _ rfl (by exact q7a) (by kernel_rfl) ?_))) | ((first | refine q9a ?_ | refine q9x ?_); ((first | refine q8t rfl _ _ rfl rfl HM ?_ | refine q8u rfl _ rfl rowSyn HM ?_ | refine q8u rfl _ rfl rowMou HM ?_ | refine q8u rfl _ rfl (by exact q7r) HM ?_); first | (have q:dV HM = 0:=rfl;clear q HM;intro g1 u1 HG1 HM) | (have q:dV HM = 1:=rfl;clear q HM;intro g2 u2 HG2 HM) | (have q:dV HM = 2:=rfl;clear q HM;intro g3 u3 HG3 HM) | (have q:dV HM = 3:=rfl;clear q HM;intro g4 u4 HG4 HM) | (have q:dV HM = 4:=rfl;clear q HM;intro g5 u5 HG5 HM))))
   refine (HCK.out _).mono ?_
   rintro e w3 ⟨rfl, hb⟩
   replace HM := Lib.hid (HM.out.below hb)
   clear hb HCK
   go_wp2_with (first | (refine q9l ?_; first | (first | (refine q8a rfl _ rfl rfl HM (by exact q7m) (by exact q7w) ?_) | (refine q8b rfl _ rfl rfl HM (by exact q7m) (by exact q7w) ?_) | (refine q8c rfl _ rfl rfl HM (by exact q7m) (by exact q7w) (by with_reducible assumption) ?_) | (refine q8d rfl _ rfl rfl HM (by exact q7m) (by exact q7w) (by with_reducible assumption) ?_) | (refine q8c rfl _ rfl rfl HM (by exact q7m) (by exact q7w) (Lib.hid rfl) ?_) | (refine q8d rfl _ rfl rfl HM (by exact q7m) (by exact q7w) (Lib.hid rfl) ?_) | (refine q8e rfl _ rfl rfl HM (by exact q7m) (by exact q7w) ?_) | (refine q8f rfl _ rfl rfl HM (by exact q7m) (by exact q7w) ?_)) | (refine q8q rfl _ _ rfl rfl (by exact q7r) HM (by exact q7m) (by exact q7s) ?_) | (refine q8r rfl _ _ rfl rfl (by exact q7a) HM (by exact q7m) (by exact q7f) (by exact q7l) ?_)) | (refine q9s ?_; first | ((first | refine q8o rfl _ _ rfl rfl rfl HM (by exact q7i) (by exact q7w) (by exact q7w) ?_ | refine q8p rfl _ _ rfl rfl rfl HM (by exact q7i) (by exact q7w) (by exact q7w) ?_); clear HM; intro us HM; dsimp only [List.set] at HM) | ((first | refine q8j rfl _ _ rfl rfl rfl HM (by exact q7i) HSW (by exact q7l) ?_ | refine q8k rfl _ _ rfl rfl rfl HM (by exact q7i) HSW (by exact q7l) ?_ | refine q8l rfl _ _ rfl rfl rfl HM (by exact q7i) HSW ?_ | refine q8m rfl _ _ rfl rfl rfl HM (by exact q7i) HSW ?_ | refine q8n rfl _ _ rfl rfl rfl HM (by exact q7i) HSW (by with_reducible assumption) ?_); clear HM HSW; intro us HM HSW; dsimp only [List.set] at HM HSW) | (refine q8s rfl _ _ _ rfl rfl rfl (by exact q7r) HM (by exact q7i) (by exact q7s) (by exact q7s) (by exact q7o) ?_; clear HM; intro us HM; dsimp only [List.set] at HM)) | (refine q9b ?_; (first | (refine q8g rfl rfl ?_) | (refine q8h rfl _ rfl rfl ?_) | (refine q8i rfl _ rfl rfl (by exact q7w) ?_) | (refine q8v rfl _ rfl (by exact q7a) (by kernel_rfl) ?_))) | ((first | refine q9a ?_ | refine q9x ?_); ((first | refine q8t rfl _ _ rfl rfl HM ?_ | refine q8u rfl _ rfl rowSyn HM ?_ | refine q8u rfl _ rfl rowMou HM ?_ | refine q8u rfl _ rfl (by exact q7r) HM ?_); first | (have q:dV HM = 0:=rfl;clear q HM;intro g1 u1 HG1 HM) | (have q:dV HM = 1:=rfl;clear q HM;intro g2 u2 HG2 HM) | (have q:dV HM = 2:=rfl;clear q HM;intro g3 u3 HG3 HM) | (have q:dV HM = 3:=rfl;clear q HM;intro g4 u4 HG4 HM) | (have q:dV HM = 4:=rfl;clear q HM;intro g5 u5 HG5 HM))))
   refine (HCT.out _ (by have HP := HM.out; (repeat (replace HP := HP.popH (by with_reducible assumption))); exact HP)).mono ?_
   rintro e w4 ⟨hz, rfl, cs, hm⟩
   have HZ := Lib.hid hz
   have HM2 := Lib.hid (HM.out.after (by exact q7i) hm)
   clear hm HM HCT
   have HM := HM2
   clear HM2
   dsimp only [List.set] at HM
   have hz2 : (z != 0) = true := by simpa using hz
   clear hz
   go_wp2_with (first | (refine q9l ?_; first | (first | (refine q8a rfl _ rfl rfl HM (by exact q7m) (by exact q7w) ?_) | (refine q8b rfl _ rfl rfl HM (by exact q7m) (by exact q7w) ?_) | (refine q8c rfl _ rfl rfl HM (by exact q7m) (by exact q7w) (by with_reducible assumption) ?_) | (refine q8d rfl _ rfl rfl HM (by exact q7m) (by exact q7w) (by with_reducible assumption) ?_) | (refine q8c rfl _ rfl rfl HM (by exact q7m) (by exact q7w) (Lib.hid rfl) ?_) | (refine q8d rfl _ rfl rfl HM (by exact q7m) (by exact q7w) (Lib.hid rfl) ?_) | (refine q8e rfl _ rfl rfl HM (by exact q7m) (by exact q7w) ?_) | (refine q8f rfl _ rfl rfl HM (by exact q7m) (by exact q7w) ?_)) | (refine q8q rfl _ _ rfl rfl (by exact q7r) HM (by exact q7m) (by exact q7s) ?_) | (refine q8r rfl _ _ rfl rfl (by exact q7a) HM (by exact q7m) (by exact q7f) (by exact q7l) ?_)) | (refine q9s ?_; first | ((first | refine q8o rfl _ _ rfl rfl rfl HM (by exact q7i) (by exact q7w) (by exact q7w) ?_ | refine q8p rfl _ _ rfl rfl rfl HM (by exact q7i) (by exact q7w) (by exact q7w) ?_); clear HM; intro us HM; dsimp only [List.set] at HM) | ((first | refine q8j rfl _ _ rfl rfl rfl HM (by exact q7i) HSW (by exact q7l) ?_ | refine q8k rfl _ _ rfl rfl rfl HM (by exact q7i) HSW (by exact q7l) ?_ | refine q8l rfl _ _ rfl rfl rfl HM (by exact q7i) HSW ?_ | refine q8m rfl _ _ rfl rfl rfl HM (by exact q7i) HSW ?_ | refine q8n rfl _ _ rfl rfl rfl HM (by exact q7i) HSW (by with_reducible assumption) ?_); clear HM HSW; intro us HM HSW; dsimp only [List.set] at HM HSW) | (refine q8s rfl _ _ _ rfl rfl rfl (by exact q7r) HM (by exact q7i) (by exact q7s) (by exact q7s) (by exact q7o) ?_; clear HM; intro us HM; dsimp only [List.set] at HM)) | (refine q9b ?_; (first | (refine q8g rfl rfl ?_) | (refine q8h rfl _ rfl rfl ?_) | (refine q8i rfl _ rfl rfl (by exact q7w) ?_) | (refine q8v rfl _ rfl (by exact q7a) (by kernel_rfl) ?_))) | ((first | refine q9a ?_ | refine q9x ?_); ((first | refine q8t rfl _ _ rfl rfl HM ?_ | refine q8u rfl _ rfl rowSyn HM ?_ | refine q8u rfl _ rfl rowMou HM ?_ | refine q8u rfl _ rfl (by exact q7r) HM ?_); first | (have q:dV HM = 0:=rfl;clear q HM;intro g1 u1 HG1 HM) | (have q:dV HM = 1:=rfl;clear q HM;intro g2 u2 HG2 HM) | (have q:dV HM = 2:=rfl;clear q HM;intro g3 u3 HG3 HM) | (have q:dV HM = 3:=rfl;clear q HM;intro g4 u4 HG4 HM) | (have q:dV HM = 4:=rfl;clear q HM;intro g5 u5 HG5 HM))))
   refine bodyPost_ret (v := .tuple #[.agg (syC Sy.z), .agg (icells (zr 16)), .int .i64 z]) (vres_css rfl _ rfl rfl rfl rowSyn (by exact q7r) HM (by exact q7m) (by exact q7m) (by exact q7z) (by exact q7s)) rfl ⟨rfl, ⟨_, (by have HP := HM.out; (repeat (replace HP := HP.popH (by with_reducible assumption))); exact HP)⟩, HZ.out⟩
  | ok r =>
   obtain ⟨s3, p⟩ := r
   unfold SdQ at HCT
   dsimp only at HCT
   go_enter Tryz.func26, Tryz.ntmps26
   go_wp2_with (first | (refine q9l ?_; first | (first | (refine q8a rfl _ rfl rfl HM (by exact q7m) (by exact q7w) ?_) | (refine q8b rfl _ rfl rfl HM (by exact q7m) (by exact q7w) ?_) | (refine q8c rfl _ rfl rfl HM (by exact q7m) (by exact q7w) (by with_reducible assumption) ?_) | (refine q8d rfl _ rfl rfl HM (by exact q7m) (by exact q7w) (by with_reducible assumption) ?_) | (refine q8c rfl _ rfl rfl HM (by exact q7m) (by exact q7w) (Lib.hid rfl) ?_) | (refine q8d rfl _ rfl rfl HM (by exact q7m) (by exact q7w) (Lib.hid rfl) ?_) | (refine q8e rfl _ rfl rfl HM (by exact q7m) (by exact q7w) ?_) | (refine q8f rfl _ rfl rfl HM (by exact q7m) (by exact q7w) ?_)) | (refine q8q rfl _ _ rfl rfl (by exact q7r) HM (by exact q7m) (by exact q7s) ?_) | (refine q8r rfl _ _ rfl rfl (by exact q7a) HM (by exact q7m) (by exact q7f) (by exact q7l) ?_)) | (refine q9s ?_; first | ((first | refine q8o rfl _ _ rfl rfl rfl HM (by exact q7i) (by exact q7w) (by exact q7w) ?_ | refine q8p rfl _ _ rfl rfl rfl HM (by exact q7i) (by exact q7w) (by exact q7w) ?_); clear HM; intro us HM; dsimp only [List.set] at HM) | ((first | refine q8j rfl _ _ rfl rfl rfl HM (by exact q7i) HSW (by exact q7l) ?_ | refine q8k rfl _ _ rfl rfl rfl HM (by exact q7i) HSW (by exact q7l) ?_ | refine q8l rfl _ _ rfl rfl rfl HM (by exact q7i) HSW ?_ | refine q8m rfl _ _ rfl rfl rfl HM (by exact q7i) HSW ?_ | refine q8n rfl _ _ rfl rfl rfl HM (by exact q7i) HSW (by with_reducible assumption) ?_); clear HM HSW; intro us HM HSW; dsimp only [List.set] at HM HSW) | (refine q8s rfl _ _ _ rfl rfl rfl (by exact q7r) HM (by exact q7i) (by exact q7s) (by exact q7s) (by exact q7o) ?_; clear HM; intro us HM; dsimp only [List.set] at HM)) | (refine q9b ?_; (first | (refine q8g rfl rfl ?_) | (refine q8h rfl _ rfl rfl ?_) | (refine q8i rfl _ rfl rfl (by exact q7w) ?_) | (refine q8v rfl _ rfl (by exact q7a) (by kernel_rfl) ?_))) | ((first | refine q9a ?_ | refine q9x ?_); ((first | refine q8t rfl _ _ rfl rfl HM ?_ | refine q8u rfl _ rfl rowSyn HM ?_ | refine q8u rfl _ rfl rowMou HM ?_ | refine q8u rfl _ rfl (by exact q7r) HM ?_); first | (have q:dV HM = 0:=rfl;clear q HM;intro g1 u1 HG1 HM) | (have q:dV HM = 1:=rfl;clear q HM;intro g2 u2 HG2 HM) | (have q:dV HM = 2:=rfl;clear q HM;intro g3 u3 HG3 HM) | (have q:dV HM = 3:=rfl;clear q HM;intro g4 u4 HG4 HM) | (have q:dV HM = 4:=rfl;clear q HM;intro g5 u5 HG5 HM))))
   refine (HCK.out _).mono ?_
   rintro e w3 ⟨rfl, hb⟩
   replace HM := Lib.hid (HM.out.below hb)
   clear hb HCK
   go_wp2_with (first | (refine q9l ?_; first | (first | (refine q8a rfl _ rfl rfl HM (by exact q7m) (by exact q7w) ?_) | (refine q8b rfl _ rfl rfl HM (by exact q7m) (by exact q7w) ?_) | (refine q8c rfl _ rfl rfl HM (by exact q7m) (by exact q7w) (by with_reducible assumption) ?_) | (refine q8d rfl _ rfl rfl HM (by exact q7m) (by exact q7w) (by with_reducible assumption) ?_) | (refine q8c rfl _ rfl rfl HM (by exact q7m) (by exact q7w) (Lib.hid rfl) ?_) | (refine q8d rfl _ rfl rfl HM (by exact q7m) (by exact q7w) (Lib.hid rfl) ?_) | (refine q8e rfl _ rfl rfl HM (by exact q7m) (by exact q7w) ?_) | (refine q8f rfl _ rfl rfl HM (by exact q7m) (by exact q7w) ?_)) | (refine q8q rfl _ _ rfl rfl (by exact q7r) HM (by exact q7m) (by exact q7s) ?_) | (refine q8r rfl _ _ rfl rfl (by exact q7a) HM (by exact q7m) (by exact q7f) (by exact q7l) ?_)) | (refine q9s ?_; first | ((first | refine q8o rfl _ _ rfl rfl rfl HM (by exact q7i) (by exact q7w) (by exact q7w) ?_ | refine q8p rfl _ _ rfl rfl rfl HM (by exact q7i) (by exact q7w) (by exact q7w) ?_); clear HM; intro us HM; dsimp only [List.set] at HM) | ((first | refine q8j rfl _ _ rfl rfl rfl HM (by exact q7i) HSW (by exact q7l) ?_ | refine q8k rfl _ _ rfl rfl rfl HM (by exact q7i) HSW (by exact q7l) ?_ | refine q8l rfl _ _ rfl rfl rfl HM (by exact q7i) HSW ?_ | refine q8m rfl _ _ rfl rfl rfl HM (by exact q7i) HSW ?_ | refine q8n rfl _ _ rfl rfl rfl HM (by exact q7i) HSW (by with_reducible assumption) ?_); clear HM HSW; intro us HM HSW; dsimp only [List.set] at HM HSW) | (refine q8s rfl _ _ _ rfl rfl rfl (by exact q7r) HM (by exact q7i) (by exact q7s) (by exact q7s) (by exact q7o) ?_; clear HM; intro us HM; dsimp only [List.set] at HM)) | (refine q9b ?_; (first | (refine q8g rfl rfl ?_) | (refine q8h rfl _ rfl rfl ?_) | (refine q8i rfl _ rfl rfl (by exact q7w) ?_) | (refine q8v rfl _ rfl (by exact q7a) (by kernel_rfl) ?_))) | ((first | refine q9a ?_ | refine q9x ?_); ((first | refine q8t rfl _ _ rfl rfl HM ?_ | refine q8u rfl _ rfl rowSyn HM ?_ | refine q8u rfl _ rfl rowMou HM ?_ | refine q8u rfl _ rfl (by exact q7r) HM ?_); first | (have q:dV HM = 0:=rfl;clear q HM;intro g1 u1 HG1 HM) | (have q:dV HM = 1:=rfl;clear q HM;intro g2 u2 HG2 HM) | (have q:dV HM = 2:=rfl;clear q HM;intro g3 u3 HG3 HM) | (have q:dV HM = 3:=rfl;clear q HM;intro g4 u4 HG4 HM) | (have q:dV HM = 4:=rfl;clear q HM;intro g5 u5 HG5 HM))))
   refine (HCT.out _ (by have HP := HM.out; (repeat (replace HP := HP.popH (by with_reducible assumption))); exact HP)).mono ?_
   rintro e w4 ⟨rfl, hw, hp, hm⟩
   have HSW3 := Lib.hid hw
   have LP := Lib.hid hp
   have HM2 := Lib.hid (HM.out.after (by exact q7i) hm)
   clear hw hp hm HM HCT HSW
   have HM := HM2
   clear HM2
   dsimp only [List.set] at HM
   go_wp2_with (first | (refine q9l ?_; first | (first | (refine q8a rfl _ rfl rfl HM (by exact q7m) (by exact q7w) ?_) | (refine q8b rfl _ rfl rfl HM (by exact q7m) (by exact q7w) ?_) | (refine q8c rfl _ rfl rfl HM (by exact q7m) (by exact q7w) (by with_reducible assumption) ?_) | (refine q8d rfl _ rfl rfl HM (by exact q7m) (by exact q7w) (by with_reducible assumption) ?_) | (refine q8c rfl _ rfl rfl HM (by exact q7m) (by exact q7w) (Lib.hid rfl) ?_) | (refine q8d rfl _ rfl rfl HM (by exact q7m) (by exact q7w) (Lib.hid rfl) ?_) | (refine q8e rfl _ rfl rfl HM (by exact q7m) (by exact q7w) ?_) | (refine q8f rfl _ rfl rfl HM (by exact q7m) (by exact q7w) ?_)) | (refine q8q rfl _ _ rfl rfl (by exact q7r) HM (by exact q7m) (by exact q7s) ?_) | (refine q8r rfl _ _ rfl rfl (by exact q7a) HM (by exact q7m) (by exact q7f) (by exact q7l) ?_)) | (refine q9s ?_; first | ((first | refine q8o rfl _ _ rfl rfl rfl HM (by exact q7i) (by exact q7w) (by exact q7w) ?_ | refine q8p rfl _ _ rfl rfl rfl HM (by exact q7i) (by exact q7w) (by exact q7w) ?_); clear HM; intro us HM; dsimp only [List.set] at HM) | ((first | refine q8j rfl _ _ rfl rfl rfl HM (by exact q7i) HSW (by exact q7l) ?_ | refine q8k rfl _ _ rfl rfl rfl HM (by exact q7i) HSW (by exact q7l) ?_ | refine q8l rfl _ _ rfl rfl rfl HM (by exact q7i) HSW ?_ | refine q8m rfl _ _ rfl rfl rfl HM (by exact q7i) HSW ?_ | refine q8n rfl _ _ rfl rfl rfl HM (by exact q7i) HSW (by with_reducible assumption) ?_); clear HM HSW; intro us HM HSW; dsimp only [List.set] at HM HSW) | (refine q8s rfl _ _ _ rfl rfl rfl (by exact q7r) HM (by exact q7i) (by exact q7s) (by exact q7s) (by exact q7o) ?_; clear HM; intro us HM; dsimp only [List.set] at HM)) | (refine q9b ?_; (first | (refine q8g rfl rfl ?_) | (refine q8h rfl _ rfl rfl ?_) | (refine q8i rfl _ rfl rfl (by exact q7w) ?_) | (refine q8v rfl _ rfl (by exact q7a) (by kernel_rfl) ?_))) | ((first | refine q9a ?_ | refine q9x ?_); ((first | refine q8t rfl _ _ rfl rfl HM ?_ | refine q8u rfl _ rfl rowSyn HM ?_ | refine q8u rfl _ rfl rowMou HM ?_ | refine q8u rfl _ rfl (by exact q7r) HM ?_); first | (have q:dV HM = 0:=rfl;clear q HM;intro g1 u1 HG1 HM) | (have q:dV HM = 1:=rfl;clear q HM;intro g2 u2 HG2 HM) | (have q:dV HM = 2:=rfl;clear q HM;intro g3 u3 HG3 HM) | (have q:dV HM = 3:=rfl;clear q HM;intro g4 u4 HG4 HM) | (have q:dV HM = 4:=rfl;clear q HM;intro g5 u5 HG5 HM))))
   refine wp_region_held_drew (S := fun y => Blk y m 61 (syC s3) ∧ Blk y g4 41 (icells p)) (by kernel_rfl) ⟨HM.out.drew.get (by exact q7m), HM.out.drew.get (by exact q7m)⟩ (fun hHeld => ?_)
   have HMd := Lib.hid HM.out.drew
   clear HM
   have HM := HMd
   clear HMd
   generalize World.drew _ = wd at HM hHeld ⊢
   (refine wa_take (i := 0) (v := .pointer (some ⟨m, 0, none⟩)) rfl (by kernel_rfl) (by kernel_rfl) (by kernel_rfl) (fun _ _ _ h => h) (yi_free rfl (fun u => rfl)) hHeld rfl ?_; (try simp only [Act.put, qz1, qz2, qz3]))
   (refine wa_take (i := 1) (v := .pointer (some ⟨m, 0, none⟩)) rfl (by kernel_rfl) (by kernel_rfl) (by kernel_rfl) (fun _ _ _ h => h) (yi_free rfl (fun u => rfl)) hHeld rfl ?_; (try simp only [Act.put, qz1, qz2, qz3]))
   (refine wa_take (i := 2) (v := .pointer (some ⟨m, 0, none⟩)) rfl (by kernel_rfl) (by kernel_rfl) (by kernel_rfl) (fun _ _ _ h => h) (yi_free rfl (fun u => by go_simp)) hHeld rfl ?_; (try simp only [Act.put, qz1, qz2, qz3]))
   (refine wa_take (i := 3) rfl (by kernel_rfl) (by kernel_rfl) (by kernel_rfl) (fun _ _ _ h => h) (yv_load rfl _ _ rfl rfl (fun u hu => run_load_blk rowSyn hu.1 (syC_size HSW3.out))) hHeld rfl ?_; (try simp only [Act.put, qz1, qz2, qz3]))
   (refine wa_take (i := 4) rfl (by kernel_rfl) (by kernel_rfl) (by kernel_rfl) (fun _ _ _ h => h) (yv_load rfl _ _ rfl rfl (fun u hu => run_load_blk (Arr.row arrPcm) hu.2 ((icells_size _).trans LP.out))) hHeld rfl ?_; (try simp only [Act.put, qz1, qz2, qz3]))
   refine wpAnyH_ready (rs := [5]) (by kernel_rfl) (by simp) ?_; refine AllReadyH.cons rfl (fun K hK => ?_) (AllReadyH.nil)
   rw [if_pos (by rfl)]
   refine ov_store _ _ _ rfl rfl rfl rowSyn HM (by exact q7i) (by exact q7z) (by exact q7z) (syC_one _) rfl ?_
   clear HM hHeld
   intro us HM
   dsimp only [List.set] at HM
   refine hK.out _ _ ⟨HM.out.get (by exact q7m), HM.out.get (by exact q7m)⟩ (fun hHeld => ?_)
   clear hK K
   (try simp only [Act.put, qz1, qz2, qz3])
   refine wpAnyH_ready (rs := [6]) (by kernel_rfl) (by simp) ?_; refine AllReadyH.cons rfl (fun K hK => ?_) (AllReadyH.nil)
   rw [if_pos (by rfl)]; refine ov_store _ _ _ rfl rfl rfl (by exact q7r) HM (by exact q7i) (by exact q7s) (by exact q7s) (by exact q7o) rfl ?_; clear HM; intro us HM; dsimp only [List.set] at HM
   clear hHeld
   refine hK.out _ _ ⟨HM.out.get (by exact q7m), HM.out.get (by exact q7m)⟩ (fun hHeld => ?_)
   clear hK K
   (try simp only [Act.put, qz1, qz2, qz3])
   (refine wa_take (i := 7) (v := .int .i64 0) rfl (by kernel_rfl) (by kernel_rfl) (by kernel_rfl) (fun _ _ _ h => h) (yi_free rfl (fun u => rfl)) hHeld rfl ?_; (try simp only [Act.put, qz1, qz2, qz3]))
   refine wpAnyH_done (by kernel_rfl) ?_ _
   clear hHeld
   go_wp2_with (first | (refine q9l ?_; first | (first | (refine q8a rfl _ rfl rfl HM (by exact q7m) (by exact q7w) ?_) | (refine q8b rfl _ rfl rfl HM (by exact q7m) (by exact q7w) ?_) | (refine q8c rfl _ rfl rfl HM (by exact q7m) (by exact q7w) (by with_reducible assumption) ?_) | (refine q8d rfl _ rfl rfl HM (by exact q7m) (by exact q7w) (by with_reducible assumption) ?_) | (refine q8c rfl _ rfl rfl HM (by exact q7m) (by exact q7w) (Lib.hid rfl) ?_) | (refine q8d rfl _ rfl rfl HM (by exact q7m) (by exact q7w) (Lib.hid rfl) ?_) | (refine q8e rfl _ rfl rfl HM (by exact q7m) (by exact q7w) ?_) | (refine q8f rfl _ rfl rfl HM (by exact q7m) (by exact q7w) ?_)) | (refine q8q rfl _ _ rfl rfl (by exact q7r) HM (by exact q7m) (by exact q7s) ?_) | (refine q8r rfl _ _ rfl rfl (by exact q7a) HM (by exact q7m) (by exact q7f) (by exact q7l) ?_)) | (refine q9s ?_; first | ((first | refine q8o rfl _ _ rfl rfl rfl HM (by exact q7i) (by exact q7w) (by exact q7w) ?_ | refine q8p rfl _ _ rfl rfl rfl HM (by exact q7i) (by exact q7w) (by exact q7w) ?_); clear HM; intro us HM; dsimp only [List.set] at HM) | ((first | refine q8j rfl _ _ rfl rfl rfl HM (by exact q7i) HSW (by exact q7l) ?_ | refine q8k rfl _ _ rfl rfl rfl HM (by exact q7i) HSW (by exact q7l) ?_ | refine q8l rfl _ _ rfl rfl rfl HM (by exact q7i) HSW ?_ | refine q8m rfl _ _ rfl rfl rfl HM (by exact q7i) HSW ?_ | refine q8n rfl _ _ rfl rfl rfl HM (by exact q7i) HSW (by with_reducible assumption) ?_); clear HM HSW; intro us HM HSW; dsimp only [List.set] at HM HSW) | (refine q8s rfl _ _ _ rfl rfl rfl (by exact q7r) HM (by exact q7i) (by exact q7s) (by exact q7s) (by exact q7o) ?_; clear HM; intro us HM; dsimp only [List.set] at HM)) | (refine q9b ?_; (first | (refine q8g rfl rfl ?_) | (refine q8h rfl _ rfl rfl ?_) | (refine q8i rfl _ rfl rfl (by exact q7w) ?_) | (refine q8v rfl _ rfl (by exact q7a) (by kernel_rfl) ?_))) | ((first | refine q9a ?_ | refine q9x ?_); ((first | refine q8t rfl _ _ rfl rfl HM ?_ | refine q8u rfl _ rfl rowSyn HM ?_ | refine q8u rfl _ rfl rowMou HM ?_ | refine q8u rfl _ rfl (by exact q7r) HM ?_); first | (have q:dV HM = 0:=rfl;clear q HM;intro g1 u1 HG1 HM) | (have q:dV HM = 1:=rfl;clear q HM;intro g2 u2 HG2 HM) | (have q:dV HM = 2:=rfl;clear q HM;intro g3 u3 HG3 HM) | (have q:dV HM = 3:=rfl;clear q HM;intro g4 u4 HG4 HM) | (have q:dV HM = 4:=rfl;clear q HM;intro g5 u5 HG5 HM))))
   refine bodyPost_ret (v := .tuple #[.agg (syC s3), .agg (icells p), .int .i64 0]) (vres_css rfl _ rfl rfl rfl rowSyn (by exact q7r) HM (by exact q7m) (by exact q7m) (by exact q7z) (by exact q7s)) rfl ⟨rfl, ⟨_, (by have HP := HM.out; (repeat (replace HP := HP.popH (by with_reducible assumption))); exact HP)⟩, HSW3.out, LP.out⟩
end Go.Proofs.YtkcoboamejefiaaGreatDoor.Lp
namespace Go.Proofs.YtkcoboamejefiaaGreatDoor.Lp
open Go.RowKit Fx Fq Tb
open Yr (rdR rd_one rd_back Fr chkB chkB_iff gsR_len rdR_gs)
theorem wv_boxV {ops : Array Oper} {rest : List Oper} {o : Oper} {a : Act} {w w0 w1 : World} {Q : Exit → Act → World → Prop} {L : List Ent} (hgd : Region.wanted o (yielded ops a.tmps) = true) (T : TypeId) (x : Operand) (ho : o.op = .box T x) {v : Value} (hx : a.eval x = v) (hv : v.cells = #[v]) (hm : Hid (MV w0 w1 L w))
  (h : ∀ g w', Hid (w1.heap.size ≤ g) → Hid (MV w0 w1 ((g, T, #[v]) :: L) w') → wpList Tryz.prog ops Q rest (a.put o.dst (.pointer (some ⟨g, 0, none⟩))) w') : wpList Tryz.prog ops Q (o :: rest) a w :=
 wl_step hgd fun K hK => by
  have := hK _ _ (h w.heap.size _ (Lib.hid hm.out.2.2.2.2.1) (Lib.hid (hm.out.alloc T #[v])))
  unfold Oper.wp execOp
  simp only [ho, Instr.box, newVar, newRow, Sem.run_bind, hx, hv, Result.andThen, Sem.run_pure]
  exact this
theorem syn8 {s : Sy} (hs : SyW s) : ∀ (k : Nat) (x : Int), (syC s)[k]? ≠ some (Value.int .u8 x) := by
 intro k x h
 have hm : Value.int .u8 x ∈ (syC s).toList := by
  rw [Array.mem_toList_iff]
  exact Array.mem_of_getElem? h
 unfold syC endL icl at hm
 simp at hm
theorem rd_noM {w : World} {A : Option Addr} {n g : Nat} {bs : List Nat} {T : TypeId} {cs : Array Value} (hr : Rd w A n bs) (hb : Blk w g T cs) (h8 : ∀ (k : Nat) (x : Int), cs[k]? ≠ some (Value.int .u8 x)) {ad : Addr} (e : A = some ad) (hn : 0 < n) : g ≠ ad.block := by
 obtain ⟨ad', e', -, -, hc⟩ := hr.at_ (k := 0) hn
 have e2 : ad = ad' := Option.some.inj (e.symm.trans e')
 subst e2
 intro hg
 have h0 : ad.add 0 = ad := rfl
 rw [h0] at hc
 unfold Blk at hb
 unfold World.cell? at hc
 rw [← hg, hb] at hc
 cases hs : ad.spot.isSome with
 | true => simp [hs] at hc
 | false =>
  simp only [hs] at hc
  rw [if_neg Bool.false_ne_true] at hc
  exact h8 _ _ hc
theorem dRd_some {bs : List Nat} {p : List Int} {K : Int} {l q : List Int} (hp : chkL p = true) (h : rdR bs p = some (K, l, q)) : rdV bs p = .tuple #[.agg (icells (frL K l q)), .int .i64 0] := by
 unfold rdV
 rw [if_pos hp, h]
theorem dRd_none {bs : List Nat} {p : List Int} (hp : chkL p = true) (h : rdR bs p = none) : rdV bs p = .tuple #[.agg (icells (zr 23)), .int .i64 21] := by
 unfold rdV
 rw [if_pos hp, h]
theorem stepS_none {s : Sy} {bs : List Nat} (hk : okSy s = true) (h : rdR bs s.l = none) : stepS s bs = .error 21 := by unfold stepS; rw [if_pos hk, h]
theorem stepS_late {s : Sy} {bs : List Nat} {l q : List Int} (hk : okSy s = true) (h : rdR bs s.l = some (1, l, q)) (hv : s.live = false) : stepS s bs = .error 40 := by
 unfold stepS; rw [if_pos hk, h]; dsimp only; rw [if_pos ⟨rfl, hv⟩]
theorem stepS_sid {s : Sy} {bs : List Nat} {l q : List Int} (hk : okSy s = true) (h : rdR bs s.l = some (2, l, q)) : stepS s bs = .ok (hisS { s with l := l, live := false, hush := true }) := by
 unfold stepS; rw [if_pos hk, h]; dsimp only; rw [if_neg (by rintro ⟨e, -⟩; exact absurd e (by decide)), if_pos rfl]
theorem stepS_talk {s : Sy} {bs : List Nat} {K : Int} {l q : List Int} (hk : okSy s = true) (h : rdR bs s.l = some (K, l, q)) (h1 : ¬ (K = 1 ∧ s.live = false)) (h2 : ¬ K = 2) : stepS s bs = .ok (sndS { s with l := l, live := true, hush := false } (greatL q l)) := by
 unfold stepS; rw [if_pos hk, h]; dsimp only; rw [if_neg h1, if_neg h2]
theorem mstep_any {w0 w : World} {m : Nat} (s : Sy) (A : Option Addr) (n c : Nat) (bs : List Nat) (hm : Hid (MV w0 w [(m, 61, syC s)] w)) (hs : Hid (SyW s)) (hk : okSy s = true) (hr : Hid (Rd w A n bs)) (he : Hid (Edg w0)) :
  Calls Tryz.prog 33 #[.pointer (some ⟨m, 0, none⟩), .slice A n c] w (SdQ w0 w m (stepS s bs)) := by
 have HM := hm
 have HSW := hs
 have HE := he
 have LZ := Lib.hid (zr_length 16)
 have LZ3 := Lib.hid (zr_length 23)
 obtain ⟨k1, k2, -⟩ := okSy_iff.1 hk
 have HAP := Lib.hid (show Apt A n [m] from fun ad e hn g hg => by
  rw [List.mem_singleton] at hg
  subst hg
  exact rd_noM hr.out (hm.out.get (.head _)) (syn8 hs.out) e hn)
 have HAL := Lib.hid (rd_lt hr.out)
 cases hq : rdR bs s.l with
 | none =>
  have HRD := Lib.hid (fun u h he => fread_any A n c bs s.l u h hs.out.ll he)
  rw [dRd_none k2 hq] at HRD
  rw [stepS_none hk hq]
  unfold SdQ
  dsimp only
  clear hm hs hk he k1 k2 hq
  go_enter Tryz.func33, Tryz.ntmps33
  go_upto_region 1 with (first | (refine q9l ?_; first | (first | (refine q8a rfl _ rfl rfl HM (by exact q7m) (by exact q7w) ?_) | (refine q8b rfl _ rfl rfl HM (by exact q7m) (by exact q7w) ?_) | (refine q8c rfl _ rfl rfl HM (by exact q7m) (by exact q7w) (by with_reducible assumption) ?_) | (refine q8d rfl _ rfl rfl HM (by exact q7m) (by exact q7w) (by with_reducible assumption) ?_) | (refine q8c rfl _ rfl rfl HM (by exact q7m) (by exact q7w) (Lib.hid rfl) ?_) | (refine q8d rfl _ rfl rfl HM (by exact q7m) (by exact q7w) (Lib.hid rfl) ?_) | (refine q8e rfl _ rfl rfl HM (by exact q7m) (by exact q7w) ?_) | (refine q8f rfl _ rfl rfl HM (by exact q7m) (by exact q7w) ?_)) | (refine q8q rfl _ _ rfl rfl (by exact q7r) HM (by exact q7m) (by exact q7s) ?_) | (refine q8r rfl _ _ rfl rfl (by exact q7a) HM (by exact q7m) (by exact q7f) (by exact q7l) ?_)) | (refine q9s ?_; first | ((first | refine q8o rfl _ _ rfl rfl rfl HM (by exact q7i) (by exact q7w) (by exact q7w) ?_ | refine q8p rfl _ _ rfl rfl rfl HM (by exact q7i) (by exact q7w) (by exact q7w) ?_); clear HM; intro us HM; dsimp only [List.set] at HM) | ((first | refine q8j rfl _ _ rfl rfl rfl HM (by exact q7i) HSW (by exact q7l) ?_ | refine q8k rfl _ _ rfl rfl rfl HM (by exact q7i) HSW (by exact q7l) ?_ | refine q8l rfl _ _ rfl rfl rfl HM (by exact q7i) HSW ?_ | refine q8m rfl _ _ rfl rfl rfl HM (by exact q7i) HSW ?_ | refine q8n rfl _ _ rfl rfl rfl HM (by exact q7i) HSW (by with_reducible assumption) ?_); clear HM HSW; intro us HM HSW; dsimp only [List.set] at HM HSW) | (refine q8s rfl _ _ _ rfl rfl rfl (by exact q7r) HM (by exact q7i) (by exact q7s) (by exact q7s) (by exact q7o) ?_; clear HM; intro us HM; dsimp only [List.set] at HM)) | (refine q9b ?_; (first | (refine q8g rfl rfl ?_) | (refine q8h rfl _ rfl rfl ?_) | (refine q8i rfl _ rfl rfl (by exact q7w) ?_) | (refine q8v rfl _ rfl (by exact q7a) (by kernel_rfl) ?_))) | ((first | refine q9a ?_ | refine q9x ?_); ((first | refine q8t rfl _ _ rfl rfl HM ?_ | refine q8u rfl _ rfl rowSyn HM ?_ | refine q8u rfl _ rfl rowMou HM ?_ | refine q8u rfl _ rfl (by exact q7r) HM ?_); first | (have q:dV HM = 0:=rfl;clear q HM;intro g1 u1 HG1 HM) | (have q:dV HM = 1:=rfl;clear q HM;intro g2 u2 HG2 HM) | (have q:dV HM = 2:=rfl;clear q HM;intro g3 u3 HG3 HM) | (have q:dV HM = 3:=rfl;clear q HM;intro g4 u4 HG4 HM))))
  have HR2 := Lib.hid (HM.out.rdA hr.out (by exact HAP.out.cons HAL.out HG2.out))
  go_wp2_with (first | (refine q9l ?_; first | (first | (refine q8a rfl _ rfl rfl HM (by exact q7m) (by exact q7w) ?_) | (refine q8b rfl _ rfl rfl HM (by exact q7m) (by exact q7w) ?_) | (refine q8c rfl _ rfl rfl HM (by exact q7m) (by exact q7w) (by with_reducible assumption) ?_) | (refine q8d rfl _ rfl rfl HM (by exact q7m) (by exact q7w) (by with_reducible assumption) ?_) | (refine q8c rfl _ rfl rfl HM (by exact q7m) (by exact q7w) (Lib.hid rfl) ?_) | (refine q8d rfl _ rfl rfl HM (by exact q7m) (by exact q7w) (Lib.hid rfl) ?_) | (refine q8e rfl _ rfl rfl HM (by exact q7m) (by exact q7w) ?_) | (refine q8f rfl _ rfl rfl HM (by exact q7m) (by exact q7w) ?_)) | (refine q8q rfl _ _ rfl rfl (by exact q7r) HM (by exact q7m) (by exact q7s) ?_) | (refine q8r rfl _ _ rfl rfl (by exact q7a) HM (by exact q7m) (by exact q7f) (by exact q7l) ?_)) | (refine q9s ?_; first | ((first | refine q8o rfl _ _ rfl rfl rfl HM (by exact q7i) (by exact q7w) (by exact q7w) ?_ | refine q8p rfl _ _ rfl rfl rfl HM (by exact q7i) (by exact q7w) (by exact q7w) ?_); clear HM; intro us HM; dsimp only [List.set] at HM) | ((first | refine q8j rfl _ _ rfl rfl rfl HM (by exact q7i) HSW (by exact q7l) ?_ | refine q8k rfl _ _ rfl rfl rfl HM (by exact q7i) HSW (by exact q7l) ?_ | refine q8l rfl _ _ rfl rfl rfl HM (by exact q7i) HSW ?_ | refine q8m rfl _ _ rfl rfl rfl HM (by exact q7i) HSW ?_ | refine q8n rfl _ _ rfl rfl rfl HM (by exact q7i) HSW (by with_reducible assumption) ?_); clear HM HSW; intro us HM HSW; dsimp only [List.set] at HM HSW) | (refine q8s rfl _ _ _ rfl rfl rfl (by exact q7r) HM (by exact q7i) (by exact q7s) (by exact q7s) (by exact q7o) ?_; clear HM; intro us HM; dsimp only [List.set] at HM)) | (refine q9b ?_; (first | (refine q8g rfl rfl ?_) | (refine q8h rfl _ rfl rfl ?_) | (refine q8i rfl _ rfl rfl (by exact q7w) ?_) | (refine q8v rfl _ rfl (by exact q7a) (by kernel_rfl) ?_))) | ((first | refine q9a ?_ | refine q9x ?_); ((first | refine q8t rfl _ _ rfl rfl HM ?_ | refine q8u rfl _ rfl rowSyn HM ?_ | refine q8u rfl _ rfl rowMou HM ?_ | refine q8u rfl _ rfl (by exact q7r) HM ?_); first | (have q:dV HM = 0:=rfl;clear q HM;intro g1 u1 HG1 HM) | (have q:dV HM = 1:=rfl;clear q HM;intro g2 u2 HG2 HM) | (have q:dV HM = 2:=rfl;clear q HM;intro g3 u3 HG3 HM) | (have q:dV HM = 3:=rfl;clear q HM;intro g4 u4 HG4 HM))))
  refine (HRD.out _ HR2 (HE.out.below HM.out.1)).mono ?_
  rintro e w3 ⟨rfl, hb⟩
  replace HM := Lib.hid (HM.out.below hb)
  clear hb HRD HR2
  go_wp2_with (first | (first | (refine q9l ?_; first | (first | (refine q8a rfl _ rfl rfl HM (by exact q7m) (by exact q7w) ?_) | (refine q8b rfl _ rfl rfl HM (by exact q7m) (by exact q7w) ?_) | (refine q8c rfl _ rfl rfl HM (by exact q7m) (by exact q7w) (by with_reducible assumption) ?_) | (refine q8d rfl _ rfl rfl HM (by exact q7m) (by exact q7w) (by with_reducible assumption) ?_) | (refine q8c rfl _ rfl rfl HM (by exact q7m) (by exact q7w) (Lib.hid rfl) ?_) | (refine q8d rfl _ rfl rfl HM (by exact q7m) (by exact q7w) (Lib.hid rfl) ?_) | (refine q8e rfl _ rfl rfl HM (by exact q7m) (by exact q7w) ?_) | (refine q8f rfl _ rfl rfl HM (by exact q7m) (by exact q7w) ?_)) | (refine q8q rfl _ _ rfl rfl (by exact q7r) HM (by exact q7m) (by exact q7s) ?_) | (refine q8r rfl _ _ rfl rfl (by exact q7a) HM (by exact q7m) (by exact q7f) (by exact q7l) ?_)) | (refine q9s ?_; first | ((first | refine q8o rfl _ _ rfl rfl rfl HM (by exact q7i) (by exact q7w) (by exact q7w) ?_ | refine q8p rfl _ _ rfl rfl rfl HM (by exact q7i) (by exact q7w) (by exact q7w) ?_); clear HM; intro us HM; dsimp only [List.set] at HM) | ((first | refine q8j rfl _ _ rfl rfl rfl HM (by exact q7i) HSW (by exact q7l) ?_ | refine q8k rfl _ _ rfl rfl rfl HM (by exact q7i) HSW (by exact q7l) ?_ | refine q8l rfl _ _ rfl rfl rfl HM (by exact q7i) HSW ?_ | refine q8m rfl _ _ rfl rfl rfl HM (by exact q7i) HSW ?_ | refine q8n rfl _ _ rfl rfl rfl HM (by exact q7i) HSW (by with_reducible assumption) ?_); clear HM HSW; intro us HM HSW; dsimp only [List.set] at HM HSW) | (refine q8s rfl _ _ _ rfl rfl rfl (by exact q7r) HM (by exact q7i) (by exact q7s) (by exact q7s) (by exact q7o) ?_; clear HM; intro us HM; dsimp only [List.set] at HM)) | (refine q9b ?_; (first | (refine q8g rfl rfl ?_) | (refine q8h rfl _ rfl rfl ?_) | (refine q8i rfl _ rfl rfl (by exact q7w) ?_) | (refine q8v rfl _ rfl (by exact q7a) (by kernel_rfl) ?_))) | ((first | refine q9a ?_ | refine q9x ?_); ((first | refine q8t rfl _ _ rfl rfl HM ?_ | refine q8u rfl _ rfl rowSyn HM ?_ | refine q8u rfl _ rfl rowMou HM ?_ | refine q8u rfl _ rfl (by exact q7r) HM ?_); first | (have q:dV HM = 0:=rfl;clear q HM;intro g1 u1 HG1 HM) | (have q:dV HM = 1:=rfl;clear q HM;intro g2 u2 HG2 HM) | (have q:dV HM = 2:=rfl;clear q HM;intro g3 u3 HG3 HM) | (have q:dV HM = 3:=rfl;clear q HM;intro g4 u4 HG4 HM)))) | (first | (refine wv_zeroF rfl rfl ?_) | (first | ((first | refine q8t rfl _ _ rfl rfl HM ?_ | refine q8u rfl _ rfl (by exact q7r) HM ?_); first | (have q:dV HM = 0:=rfl;clear q HM;intro g1 u1 HG1 HM) | (have q:dV HM = 1:=rfl;clear q HM;intro g2 u2 HG2 HM) | (have q:dV HM = 2:=rfl;clear q HM;intro g3 u3 HG3 HM) | (have q:dV HM = 3:=rfl;clear q HM;intro g4 u4 HG4 HM)) | (refine q8q rfl _ _ rfl rfl (by exact q7r) HM (by exact q7m) (by exact q7s) ?_) | (refine q8s rfl _ _ _ rfl rfl rfl (by exact q7r) HM (by exact q7i) (by exact q7s) (by exact q7s) (by exact q7o) ?_; clear HM; intro us HM; dsimp only [List.set] at HM) | (refine q8v rfl _ rfl (by exact q7a) (by kernel_rfl) ?_)) | (refine wv_elem rfl _ rfl rfl HM (by exact q7m) (by exact velOf) ?_) | (refine wv_put rfl _ _ rfl rfl rfl HM (by exact q7i) (by exact vltOf) ?_; clear HM; intro us HM; dsimp only [List.set] at HM) | (refine q8r rfl _ _ rfl rfl (by exact q7a) HM (by exact q7m) (by exact q7f) (by exact q7l) ?_)))
  refine bodyPost_ret (v := .tuple #[.agg (icells (zr 16)), .int .i64 21]) (vres_two rfl _ rfl rfl (by exact q7r) HM (by exact q7m) (by exact q7s)) rfl ⟨rfl, rfl, _, (by have HP := HM.out; (repeat (replace HP := HP.popH (by with_reducible assumption))); exact HP)⟩
 | some x =>
  obtain ⟨K, l, q⟩ := x
  obtain ⟨h1, -, -⟩ := rd_one hq
  have hfr := (chkB_iff _ _ _ _).1 h1
  obtain ⟨l6, q16⟩ := gsR_len (rdR_gs hq)
  have HFS := Lib.hid (frS_mk (K := K) l6 q16)
  have HMY := Lib.hid hfr.may
  have HCL := Lib.hid hfr.lev
  have HRD := Lib.hid (fun u h he => fread_any A n c bs s.l u h hs.out.ll he)
  rw [dRd_some k2 hq] at HRD
  obtain ⟨F, hF⟩ : ∃ F, F = frL K l q := ⟨_, rfl⟩
  rw [← hF] at HFS HRD
  have LF := Lib.hid HFS.out.len
  have SL := Lib.hid HFS.out.lev
  have SQ := Lib.hid HFS.out.num
  have LL := Lib.hid l6
  have LQ := Lib.hid q16
  have F0 := Lib.hid (show 0 < F.length ∧ F.getD 0 0 = K from ⟨by rw [HFS.out.len]; decide, HFS.out.k0⟩)
  have HKT := Lib.hid k1
  clear h1 hfr l6 q16 k1 k2 hF
  by_cases h2 : K = 2
  ·subst h2
   rw [stepS_sid hk hq]
   have HNO := Lib.hid (fun (a b : World) (h : Hid (MV w0 a [(m, 61, syC ⟨s.t, s.l, s.live, true, s.seed⟩)] b)) => mnoise_any ⟨s.t, s.l, s.live, true, s.seed⟩ l h (Lib.hid ⟨hs.out.lt, hs.out.ll, hs.out.sd⟩) LL.out HCL.out HKT.out he)
   dsimp only at HNO
   generalize hisS _ = r at HNO ⊢
   obtain ⟨s3, p⟩ := r
   unfold SdQ at HNO ⊢
   dsimp only at HNO ⊢
   clear hm hs hk he hq
   go_enter Tryz.func33, Tryz.ntmps33
   go_upto_region 1 with (first | (refine q9l ?_; first | (first | (refine q8a rfl _ rfl rfl HM (by exact q7m) (by exact q7w) ?_) | (refine q8b rfl _ rfl rfl HM (by exact q7m) (by exact q7w) ?_) | (refine q8c rfl _ rfl rfl HM (by exact q7m) (by exact q7w) (by with_reducible assumption) ?_) | (refine q8d rfl _ rfl rfl HM (by exact q7m) (by exact q7w) (by with_reducible assumption) ?_) | (refine q8c rfl _ rfl rfl HM (by exact q7m) (by exact q7w) (Lib.hid rfl) ?_) | (refine q8d rfl _ rfl rfl HM (by exact q7m) (by exact q7w) (Lib.hid rfl) ?_) | (refine q8e rfl _ rfl rfl HM (by exact q7m) (by exact q7w) ?_) | (refine q8f rfl _ rfl rfl HM (by exact q7m) (by exact q7w) ?_)) | (refine q8q rfl _ _ rfl rfl (by exact q7r) HM (by exact q7m) (by exact q7s) ?_) | (refine q8r rfl _ _ rfl rfl (by exact q7a) HM (by exact q7m) (by exact q7f) (by exact q7l) ?_)) | (refine q9s ?_; first | ((first | refine q8o rfl _ _ rfl rfl rfl HM (by exact q7i) (by exact q7w) (by exact q7w) ?_ | refine q8p rfl _ _ rfl rfl rfl HM (by exact q7i) (by exact q7w) (by exact q7w) ?_); clear HM; intro us HM; dsimp only [List.set] at HM) | ((first | refine q8j rfl _ _ rfl rfl rfl HM (by exact q7i) HSW (by exact q7l) ?_ | refine q8k rfl _ _ rfl rfl rfl HM (by exact q7i) HSW (by exact q7l) ?_ | refine q8l rfl _ _ rfl rfl rfl HM (by exact q7i) HSW ?_ | refine q8m rfl _ _ rfl rfl rfl HM (by exact q7i) HSW ?_ | refine q8n rfl _ _ rfl rfl rfl HM (by exact q7i) HSW (by with_reducible assumption) ?_); clear HM HSW; intro us HM HSW; dsimp only [List.set] at HM HSW) | (refine q8s rfl _ _ _ rfl rfl rfl (by exact q7r) HM (by exact q7i) (by exact q7s) (by exact q7s) (by exact q7o) ?_; clear HM; intro us HM; dsimp only [List.set] at HM)) | (refine q9b ?_; (first | (refine q8g rfl rfl ?_) | (refine q8h rfl _ rfl rfl ?_) | (refine q8i rfl _ rfl rfl (by exact q7w) ?_) | (refine q8v rfl _ rfl (by exact q7a) (by kernel_rfl) ?_))) | ((first | refine q9a ?_ | refine q9x ?_); ((first | refine q8t rfl _ _ rfl rfl HM ?_ | refine q8u rfl _ rfl rowSyn HM ?_ | refine q8u rfl _ rfl rowMou HM ?_ | refine q8u rfl _ rfl (by exact q7r) HM ?_); first | (have q:dV HM = 0:=rfl;clear q HM;intro g1 u1 HG1 HM) | (have q:dV HM = 1:=rfl;clear q HM;intro g2 u2 HG2 HM) | (have q:dV HM = 2:=rfl;clear q HM;intro g3 u3 HG3 HM) | (have q:dV HM = 3:=rfl;clear q HM;intro g4 u4 HG4 HM))))
   have HR2 := Lib.hid (HM.out.rdA hr.out (by exact HAP.out.cons HAL.out HG2.out))
   go_wp2_with (first | (refine q9l ?_; first | (first | (refine q8a rfl _ rfl rfl HM (by exact q7m) (by exact q7w) ?_) | (refine q8b rfl _ rfl rfl HM (by exact q7m) (by exact q7w) ?_) | (refine q8c rfl _ rfl rfl HM (by exact q7m) (by exact q7w) (by with_reducible assumption) ?_) | (refine q8d rfl _ rfl rfl HM (by exact q7m) (by exact q7w) (by with_reducible assumption) ?_) | (refine q8c rfl _ rfl rfl HM (by exact q7m) (by exact q7w) (Lib.hid rfl) ?_) | (refine q8d rfl _ rfl rfl HM (by exact q7m) (by exact q7w) (Lib.hid rfl) ?_) | (refine q8e rfl _ rfl rfl HM (by exact q7m) (by exact q7w) ?_) | (refine q8f rfl _ rfl rfl HM (by exact q7m) (by exact q7w) ?_)) | (refine q8q rfl _ _ rfl rfl (by exact q7r) HM (by exact q7m) (by exact q7s) ?_) | (refine q8r rfl _ _ rfl rfl (by exact q7a) HM (by exact q7m) (by exact q7f) (by exact q7l) ?_)) | (refine q9s ?_; first | ((first | refine q8o rfl _ _ rfl rfl rfl HM (by exact q7i) (by exact q7w) (by exact q7w) ?_ | refine q8p rfl _ _ rfl rfl rfl HM (by exact q7i) (by exact q7w) (by exact q7w) ?_); clear HM; intro us HM; dsimp only [List.set] at HM) | ((first | refine q8j rfl _ _ rfl rfl rfl HM (by exact q7i) HSW (by exact q7l) ?_ | refine q8k rfl _ _ rfl rfl rfl HM (by exact q7i) HSW (by exact q7l) ?_ | refine q8l rfl _ _ rfl rfl rfl HM (by exact q7i) HSW ?_ | refine q8m rfl _ _ rfl rfl rfl HM (by exact q7i) HSW ?_ | refine q8n rfl _ _ rfl rfl rfl HM (by exact q7i) HSW (by with_reducible assumption) ?_); clear HM HSW; intro us HM HSW; dsimp only [List.set] at HM HSW) | (refine q8s rfl _ _ _ rfl rfl rfl (by exact q7r) HM (by exact q7i) (by exact q7s) (by exact q7s) (by exact q7o) ?_; clear HM; intro us HM; dsimp only [List.set] at HM)) | (refine q9b ?_; (first | (refine q8g rfl rfl ?_) | (refine q8h rfl _ rfl rfl ?_) | (refine q8i rfl _ rfl rfl (by exact q7w) ?_) | (refine q8v rfl _ rfl (by exact q7a) (by kernel_rfl) ?_))) | ((first | refine q9a ?_ | refine q9x ?_); ((first | refine q8t rfl _ _ rfl rfl HM ?_ | refine q8u rfl _ rfl rowSyn HM ?_ | refine q8u rfl _ rfl rowMou HM ?_ | refine q8u rfl _ rfl (by exact q7r) HM ?_); first | (have q:dV HM = 0:=rfl;clear q HM;intro g1 u1 HG1 HM) | (have q:dV HM = 1:=rfl;clear q HM;intro g2 u2 HG2 HM) | (have q:dV HM = 2:=rfl;clear q HM;intro g3 u3 HG3 HM) | (have q:dV HM = 3:=rfl;clear q HM;intro g4 u4 HG4 HM))))
   refine (HRD.out _ HR2 (HE.out.below HM.out.1)).mono ?_
   rintro e w3 ⟨rfl, hb⟩
   replace HM := Lib.hid (HM.out.below hb)
   clear hb HRD HR2
   go_wp2_with (first | (first | (refine q9l ?_; first | (first | (refine q8a rfl _ rfl rfl HM (by exact q7m) (by exact q7w) ?_) | (refine q8b rfl _ rfl rfl HM (by exact q7m) (by exact q7w) ?_) | (refine q8c rfl _ rfl rfl HM (by exact q7m) (by exact q7w) (by with_reducible assumption) ?_) | (refine q8d rfl _ rfl rfl HM (by exact q7m) (by exact q7w) (by with_reducible assumption) ?_) | (refine q8c rfl _ rfl rfl HM (by exact q7m) (by exact q7w) (Lib.hid rfl) ?_) | (refine q8d rfl _ rfl rfl HM (by exact q7m) (by exact q7w) (Lib.hid rfl) ?_) | (refine q8e rfl _ rfl rfl HM (by exact q7m) (by exact q7w) ?_) | (refine q8f rfl _ rfl rfl HM (by exact q7m) (by exact q7w) ?_)) | (refine q8q rfl _ _ rfl rfl (by exact q7r) HM (by exact q7m) (by exact q7s) ?_) | (refine q8r rfl _ _ rfl rfl (by exact q7a) HM (by exact q7m) (by exact q7f) (by exact q7l) ?_)) | (refine q9s ?_; first | ((first | refine q8o rfl _ _ rfl rfl rfl HM (by exact q7i) (by exact q7w) (by exact q7w) ?_ | refine q8p rfl _ _ rfl rfl rfl HM (by exact q7i) (by exact q7w) (by exact q7w) ?_); clear HM; intro us HM; dsimp only [List.set] at HM) | ((first | refine q8j rfl _ _ rfl rfl rfl HM (by exact q7i) HSW (by exact q7l) ?_ | refine q8k rfl _ _ rfl rfl rfl HM (by exact q7i) HSW (by exact q7l) ?_ | refine q8l rfl _ _ rfl rfl rfl HM (by exact q7i) HSW ?_ | refine q8m rfl _ _ rfl rfl rfl HM (by exact q7i) HSW ?_ | refine q8n rfl _ _ rfl rfl rfl HM (by exact q7i) HSW (by with_reducible assumption) ?_); clear HM HSW; intro us HM HSW; dsimp only [List.set] at HM HSW) | (refine q8s rfl _ _ _ rfl rfl rfl (by exact q7r) HM (by exact q7i) (by exact q7s) (by exact q7s) (by exact q7o) ?_; clear HM; intro us HM; dsimp only [List.set] at HM)) | (refine q9b ?_; (first | (refine q8g rfl rfl ?_) | (refine q8h rfl _ rfl rfl ?_) | (refine q8i rfl _ rfl rfl (by exact q7w) ?_) | (refine q8v rfl _ rfl (by exact q7a) (by kernel_rfl) ?_))) | ((first | refine q9a ?_ | refine q9x ?_); ((first | refine q8t rfl _ _ rfl rfl HM ?_ | refine q8u rfl _ rfl rowSyn HM ?_ | refine q8u rfl _ rfl rowMou HM ?_ | refine q8u rfl _ rfl (by exact q7r) HM ?_); first | (have q:dV HM = 0:=rfl;clear q HM;intro g1 u1 HG1 HM) | (have q:dV HM = 1:=rfl;clear q HM;intro g2 u2 HG2 HM) | (have q:dV HM = 2:=rfl;clear q HM;intro g3 u3 HG3 HM) | (have q:dV HM = 3:=rfl;clear q HM;intro g4 u4 HG4 HM)))) | (first | (refine wv_zeroF rfl rfl ?_) | (first | ((first | refine q8t rfl _ _ rfl rfl HM ?_ | refine q8u rfl _ rfl (by exact q7r) HM ?_); first | (have q:dV HM = 0:=rfl;clear q HM;intro g1 u1 HG1 HM) | (have q:dV HM = 1:=rfl;clear q HM;intro g2 u2 HG2 HM) | (have q:dV HM = 2:=rfl;clear q HM;intro g3 u3 HG3 HM) | (have q:dV HM = 3:=rfl;clear q HM;intro g4 u4 HG4 HM)) | (refine q8q rfl _ _ rfl rfl (by exact q7r) HM (by exact q7m) (by exact q7s) ?_) | (refine q8s rfl _ _ _ rfl rfl rfl (by exact q7r) HM (by exact q7i) (by exact q7s) (by exact q7s) (by exact q7o) ?_; clear HM; intro us HM; dsimp only [List.set] at HM) | (refine q8v rfl _ rfl (by exact q7a) (by kernel_rfl) ?_)) | (refine wv_elem rfl _ rfl rfl HM (by exact q7m) (by exact velOf) ?_) | (refine wv_put rfl _ _ rfl rfl rfl HM (by exact q7i) (by exact vltOf) ?_; clear HM; intro us HM; dsimp only [List.set] at HM) | (refine q8r rfl _ _ rfl rfl (by exact q7a) HM (by exact q7m) (by exact q7f) (by exact q7l) ?_)))
   refine (HNO.out _ _ (Lib.hid (HM.out.sub (by exact q7v)))).mono ?_
   rintro e w4 ⟨rfl, hw, hp, hm⟩
   have HSW3 := Lib.hid hw
   have LP := Lib.hid hp
   have HM2 := Lib.hid (HM.out.after (by exact q7i) hm)
   clear hw hp hm HM HNO HSW
   have HM := HM2
   clear HM2
   dsimp only [List.set] at HM
   go_wp2_with (first | (refine q9l ?_; first | (first | (refine q8a rfl _ rfl rfl HM (by exact q7m) (by exact q7w) ?_) | (refine q8b rfl _ rfl rfl HM (by exact q7m) (by exact q7w) ?_) | (refine q8c rfl _ rfl rfl HM (by exact q7m) (by exact q7w) (by with_reducible assumption) ?_) | (refine q8d rfl _ rfl rfl HM (by exact q7m) (by exact q7w) (by with_reducible assumption) ?_) | (refine q8c rfl _ rfl rfl HM (by exact q7m) (by exact q7w) (Lib.hid rfl) ?_) | (refine q8d rfl _ rfl rfl HM (by exact q7m) (by exact q7w) (Lib.hid rfl) ?_) | (refine q8e rfl _ rfl rfl HM (by exact q7m) (by exact q7w) ?_) | (refine q8f rfl _ rfl rfl HM (by exact q7m) (by exact q7w) ?_)) | (refine q8q rfl _ _ rfl rfl (by exact q7r) HM (by exact q7m) (by exact q7s) ?_) | (refine q8r rfl _ _ rfl rfl (by exact q7a) HM (by exact q7m) (by exact q7f) (by exact q7l) ?_)) | (refine q9s ?_; first | ((first | refine q8o rfl _ _ rfl rfl rfl HM (by exact q7i) (by exact q7w) (by exact q7w) ?_ | refine q8p rfl _ _ rfl rfl rfl HM (by exact q7i) (by exact q7w) (by exact q7w) ?_); clear HM; intro us HM; dsimp only [List.set] at HM) | ((first | refine q8j rfl _ _ rfl rfl rfl HM (by exact q7i) HSW (by exact q7l) ?_ | refine q8k rfl _ _ rfl rfl rfl HM (by exact q7i) HSW (by exact q7l) ?_ | refine q8l rfl _ _ rfl rfl rfl HM (by exact q7i) HSW ?_ | refine q8m rfl _ _ rfl rfl rfl HM (by exact q7i) HSW ?_ | refine q8n rfl _ _ rfl rfl rfl HM (by exact q7i) HSW (by with_reducible assumption) ?_); clear HM HSW; intro us HM HSW; dsimp only [List.set] at HM HSW) | (refine q8s rfl _ _ _ rfl rfl rfl (by exact q7r) HM (by exact q7i) (by exact q7s) (by exact q7s) (by exact q7o) ?_; clear HM; intro us HM; dsimp only [List.set] at HM)) | (refine q9b ?_; (first | (refine q8g rfl rfl ?_) | (refine q8h rfl _ rfl rfl ?_) | (refine q8i rfl _ rfl rfl (by exact q7w) ?_) | (refine q8v rfl _ rfl (by exact q7a) (by kernel_rfl) ?_))) | ((first | refine q9a ?_ | refine q9x ?_); ((first | refine q8t rfl _ _ rfl rfl HM ?_ | refine q8u rfl _ rfl rowSyn HM ?_ | refine q8u rfl _ rfl rowMou HM ?_ | refine q8u rfl _ rfl (by exact q7r) HM ?_); first | (have q:dV HM = 0:=rfl;clear q HM;intro g1 u1 HG1 HM) | (have q:dV HM = 1:=rfl;clear q HM;intro g2 u2 HG2 HM) | (have q:dV HM = 2:=rfl;clear q HM;intro g3 u3 HG3 HM) | (have q:dV HM = 3:=rfl;clear q HM;intro g4 u4 HG4 HM))))
   refine bodyPost_ret (v := .tuple #[.agg (icells p), .int .i64 0]) (vres_two rfl _ rfl rfl (by exact q7r) HM (by exact q7m) (by exact q7s)) rfl ⟨rfl, HSW3.out, LP.out, (by have HP := HM.out; (repeat (replace HP := HP.popH (by with_reducible assumption))); exact HP)⟩
  ·have d2 : (K == 2) = false := by simpa using h2
   by_cases h3 : K = 1 ∧ s.live = false
   ·obtain ⟨rfl, h4⟩ := h3
    have HLV := Lib.hid h4
    rw [stepS_late hk hq h4]
    unfold SdQ
    dsimp only
    clear hm hs hk he hq h2 h4
    go_enter Tryz.func33, Tryz.ntmps33
    go_upto_region 1 with (first | (refine q9l ?_; first | (first | (refine q8a rfl _ rfl rfl HM (by exact q7m) (by exact q7w) ?_) | (refine q8b rfl _ rfl rfl HM (by exact q7m) (by exact q7w) ?_) | (refine q8c rfl _ rfl rfl HM (by exact q7m) (by exact q7w) (by with_reducible assumption) ?_) | (refine q8d rfl _ rfl rfl HM (by exact q7m) (by exact q7w) (by with_reducible assumption) ?_) | (refine q8c rfl _ rfl rfl HM (by exact q7m) (by exact q7w) (Lib.hid rfl) ?_) | (refine q8d rfl _ rfl rfl HM (by exact q7m) (by exact q7w) (Lib.hid rfl) ?_) | (refine q8e rfl _ rfl rfl HM (by exact q7m) (by exact q7w) ?_) | (refine q8f rfl _ rfl rfl HM (by exact q7m) (by exact q7w) ?_)) | (refine q8q rfl _ _ rfl rfl (by exact q7r) HM (by exact q7m) (by exact q7s) ?_) | (refine q8r rfl _ _ rfl rfl (by exact q7a) HM (by exact q7m) (by exact q7f) (by exact q7l) ?_)) | (refine q9s ?_; first | ((first | refine q8o rfl _ _ rfl rfl rfl HM (by exact q7i) (by exact q7w) (by exact q7w) ?_ | refine q8p rfl _ _ rfl rfl rfl HM (by exact q7i) (by exact q7w) (by exact q7w) ?_); clear HM; intro us HM; dsimp only [List.set] at HM) | ((first | refine q8j rfl _ _ rfl rfl rfl HM (by exact q7i) HSW (by exact q7l) ?_ | refine q8k rfl _ _ rfl rfl rfl HM (by exact q7i) HSW (by exact q7l) ?_ | refine q8l rfl _ _ rfl rfl rfl HM (by exact q7i) HSW ?_ | refine q8m rfl _ _ rfl rfl rfl HM (by exact q7i) HSW ?_ | refine q8n rfl _ _ rfl rfl rfl HM (by exact q7i) HSW (by with_reducible assumption) ?_); clear HM HSW; intro us HM HSW; dsimp only [List.set] at HM HSW) | (refine q8s rfl _ _ _ rfl rfl rfl (by exact q7r) HM (by exact q7i) (by exact q7s) (by exact q7s) (by exact q7o) ?_; clear HM; intro us HM; dsimp only [List.set] at HM)) | (refine q9b ?_; (first | (refine q8g rfl rfl ?_) | (refine q8h rfl _ rfl rfl ?_) | (refine q8i rfl _ rfl rfl (by exact q7w) ?_) | (refine q8v rfl _ rfl (by exact q7a) (by kernel_rfl) ?_))) | ((first | refine q9a ?_ | refine q9x ?_); ((first | refine q8t rfl _ _ rfl rfl HM ?_ | refine q8u rfl _ rfl rowSyn HM ?_ | refine q8u rfl _ rfl rowMou HM ?_ | refine q8u rfl _ rfl (by exact q7r) HM ?_); first | (have q:dV HM = 0:=rfl;clear q HM;intro g1 u1 HG1 HM) | (have q:dV HM = 1:=rfl;clear q HM;intro g2 u2 HG2 HM) | (have q:dV HM = 2:=rfl;clear q HM;intro g3 u3 HG3 HM) | (have q:dV HM = 3:=rfl;clear q HM;intro g4 u4 HG4 HM))))
    have HR2 := Lib.hid (HM.out.rdA hr.out (by exact HAP.out.cons HAL.out HG2.out))
    go_wp2_with (first | (refine q9l ?_; first | (first | (refine q8a rfl _ rfl rfl HM (by exact q7m) (by exact q7w) ?_) | (refine q8b rfl _ rfl rfl HM (by exact q7m) (by exact q7w) ?_) | (refine q8c rfl _ rfl rfl HM (by exact q7m) (by exact q7w) (by with_reducible assumption) ?_) | (refine q8d rfl _ rfl rfl HM (by exact q7m) (by exact q7w) (by with_reducible assumption) ?_) | (refine q8c rfl _ rfl rfl HM (by exact q7m) (by exact q7w) (Lib.hid rfl) ?_) | (refine q8d rfl _ rfl rfl HM (by exact q7m) (by exact q7w) (Lib.hid rfl) ?_) | (refine q8e rfl _ rfl rfl HM (by exact q7m) (by exact q7w) ?_) | (refine q8f rfl _ rfl rfl HM (by exact q7m) (by exact q7w) ?_)) | (refine q8q rfl _ _ rfl rfl (by exact q7r) HM (by exact q7m) (by exact q7s) ?_) | (refine q8r rfl _ _ rfl rfl (by exact q7a) HM (by exact q7m) (by exact q7f) (by exact q7l) ?_)) | (refine q9s ?_; first | ((first | refine q8o rfl _ _ rfl rfl rfl HM (by exact q7i) (by exact q7w) (by exact q7w) ?_ | refine q8p rfl _ _ rfl rfl rfl HM (by exact q7i) (by exact q7w) (by exact q7w) ?_); clear HM; intro us HM; dsimp only [List.set] at HM) | ((first | refine q8j rfl _ _ rfl rfl rfl HM (by exact q7i) HSW (by exact q7l) ?_ | refine q8k rfl _ _ rfl rfl rfl HM (by exact q7i) HSW (by exact q7l) ?_ | refine q8l rfl _ _ rfl rfl rfl HM (by exact q7i) HSW ?_ | refine q8m rfl _ _ rfl rfl rfl HM (by exact q7i) HSW ?_ | refine q8n rfl _ _ rfl rfl rfl HM (by exact q7i) HSW (by with_reducible assumption) ?_); clear HM HSW; intro us HM HSW; dsimp only [List.set] at HM HSW) | (refine q8s rfl _ _ _ rfl rfl rfl (by exact q7r) HM (by exact q7i) (by exact q7s) (by exact q7s) (by exact q7o) ?_; clear HM; intro us HM; dsimp only [List.set] at HM)) | (refine q9b ?_; (first | (refine q8g rfl rfl ?_) | (refine q8h rfl _ rfl rfl ?_) | (refine q8i rfl _ rfl rfl (by exact q7w) ?_) | (refine q8v rfl _ rfl (by exact q7a) (by kernel_rfl) ?_))) | ((first | refine q9a ?_ | refine q9x ?_); ((first | refine q8t rfl _ _ rfl rfl HM ?_ | refine q8u rfl _ rfl rowSyn HM ?_ | refine q8u rfl _ rfl rowMou HM ?_ | refine q8u rfl _ rfl (by exact q7r) HM ?_); first | (have q:dV HM = 0:=rfl;clear q HM;intro g1 u1 HG1 HM) | (have q:dV HM = 1:=rfl;clear q HM;intro g2 u2 HG2 HM) | (have q:dV HM = 2:=rfl;clear q HM;intro g3 u3 HG3 HM) | (have q:dV HM = 3:=rfl;clear q HM;intro g4 u4 HG4 HM))))
    refine (HRD.out _ HR2 (HE.out.below HM.out.1)).mono ?_
    rintro e w3 ⟨rfl, hb⟩
    replace HM := Lib.hid (HM.out.below hb)
    clear hb HRD HR2
    go_wp2_with (first | (refine q8w (by rfl) ?_) | (first | (refine q9l ?_; first | (first | (refine q8a rfl _ rfl rfl HM (by exact q7m) (by exact q7w) ?_) | (refine q8b rfl _ rfl rfl HM (by exact q7m) (by exact q7w) ?_) | (refine q8c rfl _ rfl rfl HM (by exact q7m) (by exact q7w) (by with_reducible assumption) ?_) | (refine q8d rfl _ rfl rfl HM (by exact q7m) (by exact q7w) (by with_reducible assumption) ?_) | (refine q8c rfl _ rfl rfl HM (by exact q7m) (by exact q7w) (Lib.hid rfl) ?_) | (refine q8d rfl _ rfl rfl HM (by exact q7m) (by exact q7w) (Lib.hid rfl) ?_) | (refine q8e rfl _ rfl rfl HM (by exact q7m) (by exact q7w) ?_) | (refine q8f rfl _ rfl rfl HM (by exact q7m) (by exact q7w) ?_)) | (refine q8q rfl _ _ rfl rfl (by exact q7r) HM (by exact q7m) (by exact q7s) ?_) | (refine q8r rfl _ _ rfl rfl (by exact q7a) HM (by exact q7m) (by exact q7f) (by exact q7l) ?_)) | (refine q9s ?_; first | ((first | refine q8o rfl _ _ rfl rfl rfl HM (by exact q7i) (by exact q7w) (by exact q7w) ?_ | refine q8p rfl _ _ rfl rfl rfl HM (by exact q7i) (by exact q7w) (by exact q7w) ?_); clear HM; intro us HM; dsimp only [List.set] at HM) | ((first | refine q8j rfl _ _ rfl rfl rfl HM (by exact q7i) HSW (by exact q7l) ?_ | refine q8k rfl _ _ rfl rfl rfl HM (by exact q7i) HSW (by exact q7l) ?_ | refine q8l rfl _ _ rfl rfl rfl HM (by exact q7i) HSW ?_ | refine q8m rfl _ _ rfl rfl rfl HM (by exact q7i) HSW ?_ | refine q8n rfl _ _ rfl rfl rfl HM (by exact q7i) HSW (by with_reducible assumption) ?_); clear HM HSW; intro us HM HSW; dsimp only [List.set] at HM HSW) | (refine q8s rfl _ _ _ rfl rfl rfl (by exact q7r) HM (by exact q7i) (by exact q7s) (by exact q7s) (by exact q7o) ?_; clear HM; intro us HM; dsimp only [List.set] at HM)) | (refine q9b ?_; (first | (refine q8g rfl rfl ?_) | (refine q8h rfl _ rfl rfl ?_) | (refine q8i rfl _ rfl rfl (by exact q7w) ?_) | (refine q8v rfl _ rfl (by exact q7a) (by kernel_rfl) ?_))) | ((first | refine q9a ?_ | refine q9x ?_); ((first | refine q8t rfl _ _ rfl rfl HM ?_ | refine q8u rfl _ rfl rowSyn HM ?_ | refine q8u rfl _ rfl rowMou HM ?_ | refine q8u rfl _ rfl (by exact q7r) HM ?_); first | (have q:dV HM = 0:=rfl;clear q HM;intro g1 u1 HG1 HM) | (have q:dV HM = 1:=rfl;clear q HM;intro g2 u2 HG2 HM) | (have q:dV HM = 2:=rfl;clear q HM;intro g3 u3 HG3 HM) | (have q:dV HM = 3:=rfl;clear q HM;intro g4 u4 HG4 HM)))) | (first | (refine wv_zeroF rfl rfl ?_) | (first | ((first | refine q8t rfl _ _ rfl rfl HM ?_ | refine q8u rfl _ rfl (by exact q7r) HM ?_); first | (have q:dV HM = 0:=rfl;clear q HM;intro g1 u1 HG1 HM) | (have q:dV HM = 1:=rfl;clear q HM;intro g2 u2 HG2 HM) | (have q:dV HM = 2:=rfl;clear q HM;intro g3 u3 HG3 HM) | (have q:dV HM = 3:=rfl;clear q HM;intro g4 u4 HG4 HM)) | (refine q8q rfl _ _ rfl rfl (by exact q7r) HM (by exact q7m) (by exact q7s) ?_) | (refine q8s rfl _ _ _ rfl rfl rfl (by exact q7r) HM (by exact q7i) (by exact q7s) (by exact q7s) (by exact q7o) ?_; clear HM; intro us HM; dsimp only [List.set] at HM) | (refine q8v rfl _ rfl (by exact q7a) (by kernel_rfl) ?_)) | (refine wv_elem rfl _ rfl rfl HM (by exact q7m) (by exact velOf) ?_) | (refine wv_put rfl _ _ rfl rfl rfl HM (by exact q7i) (by exact vltOf) ?_; clear HM; intro us HM; dsimp only [List.set] at HM) | (refine q8r rfl _ _ rfl rfl (by exact q7a) HM (by exact q7m) (by exact q7f) (by exact q7l) ?_)))
    refine bodyPost_ret (v := .tuple #[.agg (icells (zr 16)), .int .i64 40]) (vres_two rfl _ rfl rfl (by exact q7r) HM (by exact q7m) (by exact q7s)) rfl ⟨rfl, rfl, _, (by have HP := HM.out; (repeat (replace HP := HP.popH (by with_reducible assumption))); exact HP)⟩
   ·rw [stepS_talk hk hq h3 h2]
    have HNO := Lib.hid (fun (a b : World) (h : Hid (MV w0 a [(m, 61, syC s)] b)) => mtalk_any s F K l q h hs HFS.out HMY.out HKT.out he)
    generalize sndS _ _ = r at HNO ⊢
    obtain ⟨s3, p⟩ := r
    unfold SdQ at HNO ⊢
    dsimp only at HNO ⊢
    clear hm hs hk he hq h2
    by_cases h1 : K = 1
    ·subst h1
     have HLV := Lib.hid (show s.live = true by
      cases e : s.live with
      | true => rfl
      | false => exact absurd ⟨rfl, e⟩ h3)
     clear h3
     go_enter Tryz.func33, Tryz.ntmps33
     go_upto_region 1 with (first | (refine q9l ?_; first | (first | (refine q8a rfl _ rfl rfl HM (by exact q7m) (by exact q7w) ?_) | (refine q8b rfl _ rfl rfl HM (by exact q7m) (by exact q7w) ?_) | (refine q8c rfl _ rfl rfl HM (by exact q7m) (by exact q7w) (by with_reducible assumption) ?_) | (refine q8d rfl _ rfl rfl HM (by exact q7m) (by exact q7w) (by with_reducible assumption) ?_) | (refine q8c rfl _ rfl rfl HM (by exact q7m) (by exact q7w) (Lib.hid rfl) ?_) | (refine q8d rfl _ rfl rfl HM (by exact q7m) (by exact q7w) (Lib.hid rfl) ?_) | (refine q8e rfl _ rfl rfl HM (by exact q7m) (by exact q7w) ?_) | (refine q8f rfl _ rfl rfl HM (by exact q7m) (by exact q7w) ?_)) | (refine q8q rfl _ _ rfl rfl (by exact q7r) HM (by exact q7m) (by exact q7s) ?_) | (refine q8r rfl _ _ rfl rfl (by exact q7a) HM (by exact q7m) (by exact q7f) (by exact q7l) ?_)) | (refine q9s ?_; first | ((first | refine q8o rfl _ _ rfl rfl rfl HM (by exact q7i) (by exact q7w) (by exact q7w) ?_ | refine q8p rfl _ _ rfl rfl rfl HM (by exact q7i) (by exact q7w) (by exact q7w) ?_); clear HM; intro us HM; dsimp only [List.set] at HM) | ((first | refine q8j rfl _ _ rfl rfl rfl HM (by exact q7i) HSW (by exact q7l) ?_ | refine q8k rfl _ _ rfl rfl rfl HM (by exact q7i) HSW (by exact q7l) ?_ | refine q8l rfl _ _ rfl rfl rfl HM (by exact q7i) HSW ?_ | refine q8m rfl _ _ rfl rfl rfl HM (by exact q7i) HSW ?_ | refine q8n rfl _ _ rfl rfl rfl HM (by exact q7i) HSW (by with_reducible assumption) ?_); clear HM HSW; intro us HM HSW; dsimp only [List.set] at HM HSW) | (refine q8s rfl _ _ _ rfl rfl rfl (by exact q7r) HM (by exact q7i) (by exact q7s) (by exact q7s) (by exact q7o) ?_; clear HM; intro us HM; dsimp only [List.set] at HM)) | (refine q9b ?_; (first | (refine q8g rfl rfl ?_) | (refine q8h rfl _ rfl rfl ?_) | (refine q8i rfl _ rfl rfl (by exact q7w) ?_) | (refine q8v rfl _ rfl (by exact q7a) (by kernel_rfl) ?_))) | ((first | refine q9a ?_ | refine q9x ?_); ((first | refine q8t rfl _ _ rfl rfl HM ?_ | refine q8u rfl _ rfl rowSyn HM ?_ | refine q8u rfl _ rfl rowMou HM ?_ | refine q8u rfl _ rfl (by exact q7r) HM ?_); first | (have q:dV HM = 0:=rfl;clear q HM;intro g1 u1 HG1 HM) | (have q:dV HM = 1:=rfl;clear q HM;intro g2 u2 HG2 HM) | (have q:dV HM = 2:=rfl;clear q HM;intro g3 u3 HG3 HM) | (have q:dV HM = 3:=rfl;clear q HM;intro g4 u4 HG4 HM))))
     have HR2 := Lib.hid (HM.out.rdA hr.out (by exact HAP.out.cons HAL.out HG2.out))
     go_wp2_with (first | (refine q9l ?_; first | (first | (refine q8a rfl _ rfl rfl HM (by exact q7m) (by exact q7w) ?_) | (refine q8b rfl _ rfl rfl HM (by exact q7m) (by exact q7w) ?_) | (refine q8c rfl _ rfl rfl HM (by exact q7m) (by exact q7w) (by with_reducible assumption) ?_) | (refine q8d rfl _ rfl rfl HM (by exact q7m) (by exact q7w) (by with_reducible assumption) ?_) | (refine q8c rfl _ rfl rfl HM (by exact q7m) (by exact q7w) (Lib.hid rfl) ?_) | (refine q8d rfl _ rfl rfl HM (by exact q7m) (by exact q7w) (Lib.hid rfl) ?_) | (refine q8e rfl _ rfl rfl HM (by exact q7m) (by exact q7w) ?_) | (refine q8f rfl _ rfl rfl HM (by exact q7m) (by exact q7w) ?_)) | (refine q8q rfl _ _ rfl rfl (by exact q7r) HM (by exact q7m) (by exact q7s) ?_) | (refine q8r rfl _ _ rfl rfl (by exact q7a) HM (by exact q7m) (by exact q7f) (by exact q7l) ?_)) | (refine q9s ?_; first | ((first | refine q8o rfl _ _ rfl rfl rfl HM (by exact q7i) (by exact q7w) (by exact q7w) ?_ | refine q8p rfl _ _ rfl rfl rfl HM (by exact q7i) (by exact q7w) (by exact q7w) ?_); clear HM; intro us HM; dsimp only [List.set] at HM) | ((first | refine q8j rfl _ _ rfl rfl rfl HM (by exact q7i) HSW (by exact q7l) ?_ | refine q8k rfl _ _ rfl rfl rfl HM (by exact q7i) HSW (by exact q7l) ?_ | refine q8l rfl _ _ rfl rfl rfl HM (by exact q7i) HSW ?_ | refine q8m rfl _ _ rfl rfl rfl HM (by exact q7i) HSW ?_ | refine q8n rfl _ _ rfl rfl rfl HM (by exact q7i) HSW (by with_reducible assumption) ?_); clear HM HSW; intro us HM HSW; dsimp only [List.set] at HM HSW) | (refine q8s rfl _ _ _ rfl rfl rfl (by exact q7r) HM (by exact q7i) (by exact q7s) (by exact q7s) (by exact q7o) ?_; clear HM; intro us HM; dsimp only [List.set] at HM)) | (refine q9b ?_; (first | (refine q8g rfl rfl ?_) | (refine q8h rfl _ rfl rfl ?_) | (refine q8i rfl _ rfl rfl (by exact q7w) ?_) | (refine q8v rfl _ rfl (by exact q7a) (by kernel_rfl) ?_))) | ((first | refine q9a ?_ | refine q9x ?_); ((first | refine q8t rfl _ _ rfl rfl HM ?_ | refine q8u rfl _ rfl rowSyn HM ?_ | refine q8u rfl _ rfl rowMou HM ?_ | refine q8u rfl _ rfl (by exact q7r) HM ?_); first | (have q:dV HM = 0:=rfl;clear q HM;intro g1 u1 HG1 HM) | (have q:dV HM = 1:=rfl;clear q HM;intro g2 u2 HG2 HM) | (have q:dV HM = 2:=rfl;clear q HM;intro g3 u3 HG3 HM) | (have q:dV HM = 3:=rfl;clear q HM;intro g4 u4 HG4 HM))))
     refine (HRD.out _ HR2 (HE.out.below HM.out.1)).mono ?_
     rintro e w3 ⟨rfl, hb⟩
     replace HM := Lib.hid (HM.out.below hb)
     clear hb HRD HR2
     go_wp2_with (first | (refine q8w (by rfl) ?_) | (first | (refine q9l ?_; first | (first | (refine q8a rfl _ rfl rfl HM (by exact q7m) (by exact q7w) ?_) | (refine q8b rfl _ rfl rfl HM (by exact q7m) (by exact q7w) ?_) | (refine q8c rfl _ rfl rfl HM (by exact q7m) (by exact q7w) (by with_reducible assumption) ?_) | (refine q8d rfl _ rfl rfl HM (by exact q7m) (by exact q7w) (by with_reducible assumption) ?_) | (refine q8c rfl _ rfl rfl HM (by exact q7m) (by exact q7w) (Lib.hid rfl) ?_) | (refine q8d rfl _ rfl rfl HM (by exact q7m) (by exact q7w) (Lib.hid rfl) ?_) | (refine q8e rfl _ rfl rfl HM (by exact q7m) (by exact q7w) ?_) | (refine q8f rfl _ rfl rfl HM (by exact q7m) (by exact q7w) ?_)) | (refine q8q rfl _ _ rfl rfl (by exact q7r) HM (by exact q7m) (by exact q7s) ?_) | (refine q8r rfl _ _ rfl rfl (by exact q7a) HM (by exact q7m) (by exact q7f) (by exact q7l) ?_)) | (refine q9s ?_; first | ((first | refine q8o rfl _ _ rfl rfl rfl HM (by exact q7i) (by exact q7w) (by exact q7w) ?_ | refine q8p rfl _ _ rfl rfl rfl HM (by exact q7i) (by exact q7w) (by exact q7w) ?_); clear HM; intro us HM; dsimp only [List.set] at HM) | ((first | refine q8j rfl _ _ rfl rfl rfl HM (by exact q7i) HSW (by exact q7l) ?_ | refine q8k rfl _ _ rfl rfl rfl HM (by exact q7i) HSW (by exact q7l) ?_ | refine q8l rfl _ _ rfl rfl rfl HM (by exact q7i) HSW ?_ | refine q8m rfl _ _ rfl rfl rfl HM (by exact q7i) HSW ?_ | refine q8n rfl _ _ rfl rfl rfl HM (by exact q7i) HSW (by with_reducible assumption) ?_); clear HM HSW; intro us HM HSW; dsimp only [List.set] at HM HSW) | (refine q8s rfl _ _ _ rfl rfl rfl (by exact q7r) HM (by exact q7i) (by exact q7s) (by exact q7s) (by exact q7o) ?_; clear HM; intro us HM; dsimp only [List.set] at HM)) | (refine q9b ?_; (first | (refine q8g rfl rfl ?_) | (refine q8h rfl _ rfl rfl ?_) | (refine q8i rfl _ rfl rfl (by exact q7w) ?_) | (refine q8v rfl _ rfl (by exact q7a) (by kernel_rfl) ?_))) | ((first | refine q9a ?_ | refine q9x ?_); ((first | refine q8t rfl _ _ rfl rfl HM ?_ | refine q8u rfl _ rfl rowSyn HM ?_ | refine q8u rfl _ rfl rowMou HM ?_ | refine q8u rfl _ rfl (by exact q7r) HM ?_); first | (have q:dV HM = 0:=rfl;clear q HM;intro g1 u1 HG1 HM) | (have q:dV HM = 1:=rfl;clear q HM;intro g2 u2 HG2 HM) | (have q:dV HM = 2:=rfl;clear q HM;intro g3 u3 HG3 HM) | (have q:dV HM = 3:=rfl;clear q HM;intro g4 u4 HG4 HM)))) | (first | (refine wv_zeroF rfl rfl ?_) | (first | ((first | refine q8t rfl _ _ rfl rfl HM ?_ | refine q8u rfl _ rfl (by exact q7r) HM ?_); first | (have q:dV HM = 0:=rfl;clear q HM;intro g1 u1 HG1 HM) | (have q:dV HM = 1:=rfl;clear q HM;intro g2 u2 HG2 HM) | (have q:dV HM = 2:=rfl;clear q HM;intro g3 u3 HG3 HM) | (have q:dV HM = 3:=rfl;clear q HM;intro g4 u4 HG4 HM)) | (refine q8q rfl _ _ rfl rfl (by exact q7r) HM (by exact q7m) (by exact q7s) ?_) | (refine q8s rfl _ _ _ rfl rfl rfl (by exact q7r) HM (by exact q7i) (by exact q7s) (by exact q7s) (by exact q7o) ?_; clear HM; intro us HM; dsimp only [List.set] at HM) | (refine q8v rfl _ rfl (by exact q7a) (by kernel_rfl) ?_)) | (refine wv_elem rfl _ rfl rfl HM (by exact q7m) (by exact velOf) ?_) | (refine wv_put rfl _ _ rfl rfl rfl HM (by exact q7i) (by exact vltOf) ?_; clear HM; intro us HM; dsimp only [List.set] at HM) | (refine q8r rfl _ _ rfl rfl (by exact q7a) HM (by exact q7m) (by exact q7f) (by exact q7l) ?_)))
     refine (HNO.out _ _ (Lib.hid (HM.out.sub (by exact q7v)))).mono ?_
     rintro e w4 ⟨rfl, hw, hp, hm⟩
     have HSW3 := Lib.hid hw
     have LP := Lib.hid hp
     have HM2 := Lib.hid (HM.out.after (by exact q7i) hm)
     clear hw hp hm HM HNO HSW
     have HM := HM2
     clear HM2
     dsimp only [List.set] at HM
     go_wp2_with (first | (refine q9l ?_; first | (first | (refine q8a rfl _ rfl rfl HM (by exact q7m) (by exact q7w) ?_) | (refine q8b rfl _ rfl rfl HM (by exact q7m) (by exact q7w) ?_) | (refine q8c rfl _ rfl rfl HM (by exact q7m) (by exact q7w) (by with_reducible assumption) ?_) | (refine q8d rfl _ rfl rfl HM (by exact q7m) (by exact q7w) (by with_reducible assumption) ?_) | (refine q8c rfl _ rfl rfl HM (by exact q7m) (by exact q7w) (Lib.hid rfl) ?_) | (refine q8d rfl _ rfl rfl HM (by exact q7m) (by exact q7w) (Lib.hid rfl) ?_) | (refine q8e rfl _ rfl rfl HM (by exact q7m) (by exact q7w) ?_) | (refine q8f rfl _ rfl rfl HM (by exact q7m) (by exact q7w) ?_)) | (refine q8q rfl _ _ rfl rfl (by exact q7r) HM (by exact q7m) (by exact q7s) ?_) | (refine q8r rfl _ _ rfl rfl (by exact q7a) HM (by exact q7m) (by exact q7f) (by exact q7l) ?_)) | (refine q9s ?_; first | ((first | refine q8o rfl _ _ rfl rfl rfl HM (by exact q7i) (by exact q7w) (by exact q7w) ?_ | refine q8p rfl _ _ rfl rfl rfl HM (by exact q7i) (by exact q7w) (by exact q7w) ?_); clear HM; intro us HM; dsimp only [List.set] at HM) | ((first | refine q8j rfl _ _ rfl rfl rfl HM (by exact q7i) HSW (by exact q7l) ?_ | refine q8k rfl _ _ rfl rfl rfl HM (by exact q7i) HSW (by exact q7l) ?_ | refine q8l rfl _ _ rfl rfl rfl HM (by exact q7i) HSW ?_ | refine q8m rfl _ _ rfl rfl rfl HM (by exact q7i) HSW ?_ | refine q8n rfl _ _ rfl rfl rfl HM (by exact q7i) HSW (by with_reducible assumption) ?_); clear HM HSW; intro us HM HSW; dsimp only [List.set] at HM HSW) | (refine q8s rfl _ _ _ rfl rfl rfl (by exact q7r) HM (by exact q7i) (by exact q7s) (by exact q7s) (by exact q7o) ?_; clear HM; intro us HM; dsimp only [List.set] at HM)) | (refine q9b ?_; (first | (refine q8g rfl rfl ?_) | (refine q8h rfl _ rfl rfl ?_) | (refine q8i rfl _ rfl rfl (by exact q7w) ?_) | (refine q8v rfl _ rfl (by exact q7a) (by kernel_rfl) ?_))) | ((first | refine q9a ?_ | refine q9x ?_); ((first | refine q8t rfl _ _ rfl rfl HM ?_ | refine q8u rfl _ rfl rowSyn HM ?_ | refine q8u rfl _ rfl rowMou HM ?_ | refine q8u rfl _ rfl (by exact q7r) HM ?_); first | (have q:dV HM = 0:=rfl;clear q HM;intro g1 u1 HG1 HM) | (have q:dV HM = 1:=rfl;clear q HM;intro g2 u2 HG2 HM) | (have q:dV HM = 2:=rfl;clear q HM;intro g3 u3 HG3 HM) | (have q:dV HM = 3:=rfl;clear q HM;intro g4 u4 HG4 HM))))
     refine bodyPost_ret (v := .tuple #[.agg (icells p), .int .i64 0]) (vres_two rfl _ rfl rfl (by exact q7r) HM (by exact q7m) (by exact q7s)) rfl ⟨rfl, HSW3.out, LP.out, (by have HP := HM.out; (repeat (replace HP := HP.popH (by with_reducible assumption))); exact HP)⟩
    ·have d1 : (K == 1) = false := by simpa using h1
     clear h3 h1
     go_enter Tryz.func33, Tryz.ntmps33
     go_upto_region 1 with (first | (refine q9l ?_; first | (first | (refine q8a rfl _ rfl rfl HM (by exact q7m) (by exact q7w) ?_) | (refine q8b rfl _ rfl rfl HM (by exact q7m) (by exact q7w) ?_) | (refine q8c rfl _ rfl rfl HM (by exact q7m) (by exact q7w) (by with_reducible assumption) ?_) | (refine q8d rfl _ rfl rfl HM (by exact q7m) (by exact q7w) (by with_reducible assumption) ?_) | (refine q8c rfl _ rfl rfl HM (by exact q7m) (by exact q7w) (Lib.hid rfl) ?_) | (refine q8d rfl _ rfl rfl HM (by exact q7m) (by exact q7w) (Lib.hid rfl) ?_) | (refine q8e rfl _ rfl rfl HM (by exact q7m) (by exact q7w) ?_) | (refine q8f rfl _ rfl rfl HM (by exact q7m) (by exact q7w) ?_)) | (refine q8q rfl _ _ rfl rfl (by exact q7r) HM (by exact q7m) (by exact q7s) ?_) | (refine q8r rfl _ _ rfl rfl (by exact q7a) HM (by exact q7m) (by exact q7f) (by exact q7l) ?_)) | (refine q9s ?_; first | ((first | refine q8o rfl _ _ rfl rfl rfl HM (by exact q7i) (by exact q7w) (by exact q7w) ?_ | refine q8p rfl _ _ rfl rfl rfl HM (by exact q7i) (by exact q7w) (by exact q7w) ?_); clear HM; intro us HM; dsimp only [List.set] at HM) | ((first | refine q8j rfl _ _ rfl rfl rfl HM (by exact q7i) HSW (by exact q7l) ?_ | refine q8k rfl _ _ rfl rfl rfl HM (by exact q7i) HSW (by exact q7l) ?_ | refine q8l rfl _ _ rfl rfl rfl HM (by exact q7i) HSW ?_ | refine q8m rfl _ _ rfl rfl rfl HM (by exact q7i) HSW ?_ | refine q8n rfl _ _ rfl rfl rfl HM (by exact q7i) HSW (by with_reducible assumption) ?_); clear HM HSW; intro us HM HSW; dsimp only [List.set] at HM HSW) | (refine q8s rfl _ _ _ rfl rfl rfl (by exact q7r) HM (by exact q7i) (by exact q7s) (by exact q7s) (by exact q7o) ?_; clear HM; intro us HM; dsimp only [List.set] at HM)) | (refine q9b ?_; (first | (refine q8g rfl rfl ?_) | (refine q8h rfl _ rfl rfl ?_) | (refine q8i rfl _ rfl rfl (by exact q7w) ?_) | (refine q8v rfl _ rfl (by exact q7a) (by kernel_rfl) ?_))) | ((first | refine q9a ?_ | refine q9x ?_); ((first | refine q8t rfl _ _ rfl rfl HM ?_ | refine q8u rfl _ rfl rowSyn HM ?_ | refine q8u rfl _ rfl rowMou HM ?_ | refine q8u rfl _ rfl (by exact q7r) HM ?_); first | (have q:dV HM = 0:=rfl;clear q HM;intro g1 u1 HG1 HM) | (have q:dV HM = 1:=rfl;clear q HM;intro g2 u2 HG2 HM) | (have q:dV HM = 2:=rfl;clear q HM;intro g3 u3 HG3 HM) | (have q:dV HM = 3:=rfl;clear q HM;intro g4 u4 HG4 HM))))
     have HR2 := Lib.hid (HM.out.rdA hr.out (by exact HAP.out.cons HAL.out HG2.out))
     go_wp2_with (first | (refine q9l ?_; first | (first | (refine q8a rfl _ rfl rfl HM (by exact q7m) (by exact q7w) ?_) | (refine q8b rfl _ rfl rfl HM (by exact q7m) (by exact q7w) ?_) | (refine q8c rfl _ rfl rfl HM (by exact q7m) (by exact q7w) (by with_reducible assumption) ?_) | (refine q8d rfl _ rfl rfl HM (by exact q7m) (by exact q7w) (by with_reducible assumption) ?_) | (refine q8c rfl _ rfl rfl HM (by exact q7m) (by exact q7w) (Lib.hid rfl) ?_) | (refine q8d rfl _ rfl rfl HM (by exact q7m) (by exact q7w) (Lib.hid rfl) ?_) | (refine q8e rfl _ rfl rfl HM (by exact q7m) (by exact q7w) ?_) | (refine q8f rfl _ rfl rfl HM (by exact q7m) (by exact q7w) ?_)) | (refine q8q rfl _ _ rfl rfl (by exact q7r) HM (by exact q7m) (by exact q7s) ?_) | (refine q8r rfl _ _ rfl rfl (by exact q7a) HM (by exact q7m) (by exact q7f) (by exact q7l) ?_)) | (refine q9s ?_; first | ((first | refine q8o rfl _ _ rfl rfl rfl HM (by exact q7i) (by exact q7w) (by exact q7w) ?_ | refine q8p rfl _ _ rfl rfl rfl HM (by exact q7i) (by exact q7w) (by exact q7w) ?_); clear HM; intro us HM; dsimp only [List.set] at HM) | ((first | refine q8j rfl _ _ rfl rfl rfl HM (by exact q7i) HSW (by exact q7l) ?_ | refine q8k rfl _ _ rfl rfl rfl HM (by exact q7i) HSW (by exact q7l) ?_ | refine q8l rfl _ _ rfl rfl rfl HM (by exact q7i) HSW ?_ | refine q8m rfl _ _ rfl rfl rfl HM (by exact q7i) HSW ?_ | refine q8n rfl _ _ rfl rfl rfl HM (by exact q7i) HSW (by with_reducible assumption) ?_); clear HM HSW; intro us HM HSW; dsimp only [List.set] at HM HSW) | (refine q8s rfl _ _ _ rfl rfl rfl (by exact q7r) HM (by exact q7i) (by exact q7s) (by exact q7s) (by exact q7o) ?_; clear HM; intro us HM; dsimp only [List.set] at HM)) | (refine q9b ?_; (first | (refine q8g rfl rfl ?_) | (refine q8h rfl _ rfl rfl ?_) | (refine q8i rfl _ rfl rfl (by exact q7w) ?_) | (refine q8v rfl _ rfl (by exact q7a) (by kernel_rfl) ?_))) | ((first | refine q9a ?_ | refine q9x ?_); ((first | refine q8t rfl _ _ rfl rfl HM ?_ | refine q8u rfl _ rfl rowSyn HM ?_ | refine q8u rfl _ rfl rowMou HM ?_ | refine q8u rfl _ rfl (by exact q7r) HM ?_); first | (have q:dV HM = 0:=rfl;clear q HM;intro g1 u1 HG1 HM) | (have q:dV HM = 1:=rfl;clear q HM;intro g2 u2 HG2 HM) | (have q:dV HM = 2:=rfl;clear q HM;intro g3 u3 HG3 HM) | (have q:dV HM = 3:=rfl;clear q HM;intro g4 u4 HG4 HM))))
     refine (HRD.out _ HR2 (HE.out.below HM.out.1)).mono ?_
     rintro e w3 ⟨rfl, hb⟩
     replace HM := Lib.hid (HM.out.below hb)
     clear hb HRD HR2
     go_wp2_with (first | (refine q8w (by rfl) ?_) | (first | (refine q9l ?_; first | (first | (refine q8a rfl _ rfl rfl HM (by exact q7m) (by exact q7w) ?_) | (refine q8b rfl _ rfl rfl HM (by exact q7m) (by exact q7w) ?_) | (refine q8c rfl _ rfl rfl HM (by exact q7m) (by exact q7w) (by with_reducible assumption) ?_) | (refine q8d rfl _ rfl rfl HM (by exact q7m) (by exact q7w) (by with_reducible assumption) ?_) | (refine q8c rfl _ rfl rfl HM (by exact q7m) (by exact q7w) (Lib.hid rfl) ?_) | (refine q8d rfl _ rfl rfl HM (by exact q7m) (by exact q7w) (Lib.hid rfl) ?_) | (refine q8e rfl _ rfl rfl HM (by exact q7m) (by exact q7w) ?_) | (refine q8f rfl _ rfl rfl HM (by exact q7m) (by exact q7w) ?_)) | (refine q8q rfl _ _ rfl rfl (by exact q7r) HM (by exact q7m) (by exact q7s) ?_) | (refine q8r rfl _ _ rfl rfl (by exact q7a) HM (by exact q7m) (by exact q7f) (by exact q7l) ?_)) | (refine q9s ?_; first | ((first | refine q8o rfl _ _ rfl rfl rfl HM (by exact q7i) (by exact q7w) (by exact q7w) ?_ | refine q8p rfl _ _ rfl rfl rfl HM (by exact q7i) (by exact q7w) (by exact q7w) ?_); clear HM; intro us HM; dsimp only [List.set] at HM) | ((first | refine q8j rfl _ _ rfl rfl rfl HM (by exact q7i) HSW (by exact q7l) ?_ | refine q8k rfl _ _ rfl rfl rfl HM (by exact q7i) HSW (by exact q7l) ?_ | refine q8l rfl _ _ rfl rfl rfl HM (by exact q7i) HSW ?_ | refine q8m rfl _ _ rfl rfl rfl HM (by exact q7i) HSW ?_ | refine q8n rfl _ _ rfl rfl rfl HM (by exact q7i) HSW (by with_reducible assumption) ?_); clear HM HSW; intro us HM HSW; dsimp only [List.set] at HM HSW) | (refine q8s rfl _ _ _ rfl rfl rfl (by exact q7r) HM (by exact q7i) (by exact q7s) (by exact q7s) (by exact q7o) ?_; clear HM; intro us HM; dsimp only [List.set] at HM)) | (refine q9b ?_; (first | (refine q8g rfl rfl ?_) | (refine q8h rfl _ rfl rfl ?_) | (refine q8i rfl _ rfl rfl (by exact q7w) ?_) | (refine q8v rfl _ rfl (by exact q7a) (by kernel_rfl) ?_))) | ((first | refine q9a ?_ | refine q9x ?_); ((first | refine q8t rfl _ _ rfl rfl HM ?_ | refine q8u rfl _ rfl rowSyn HM ?_ | refine q8u rfl _ rfl rowMou HM ?_ | refine q8u rfl _ rfl (by exact q7r) HM ?_); first | (have q:dV HM = 0:=rfl;clear q HM;intro g1 u1 HG1 HM) | (have q:dV HM = 1:=rfl;clear q HM;intro g2 u2 HG2 HM) | (have q:dV HM = 2:=rfl;clear q HM;intro g3 u3 HG3 HM) | (have q:dV HM = 3:=rfl;clear q HM;intro g4 u4 HG4 HM)))) | (first | (refine wv_zeroF rfl rfl ?_) | (first | ((first | refine q8t rfl _ _ rfl rfl HM ?_ | refine q8u rfl _ rfl (by exact q7r) HM ?_); first | (have q:dV HM = 0:=rfl;clear q HM;intro g1 u1 HG1 HM) | (have q:dV HM = 1:=rfl;clear q HM;intro g2 u2 HG2 HM) | (have q:dV HM = 2:=rfl;clear q HM;intro g3 u3 HG3 HM) | (have q:dV HM = 3:=rfl;clear q HM;intro g4 u4 HG4 HM)) | (refine q8q rfl _ _ rfl rfl (by exact q7r) HM (by exact q7m) (by exact q7s) ?_) | (refine q8s rfl _ _ _ rfl rfl rfl (by exact q7r) HM (by exact q7i) (by exact q7s) (by exact q7s) (by exact q7o) ?_; clear HM; intro us HM; dsimp only [List.set] at HM) | (refine q8v rfl _ rfl (by exact q7a) (by kernel_rfl) ?_)) | (refine wv_elem rfl _ rfl rfl HM (by exact q7m) (by exact velOf) ?_) | (refine wv_put rfl _ _ rfl rfl rfl HM (by exact q7i) (by exact vltOf) ?_; clear HM; intro us HM; dsimp only [List.set] at HM) | (refine q8r rfl _ _ rfl rfl (by exact q7a) HM (by exact q7m) (by exact q7f) (by exact q7l) ?_)))
     refine (HNO.out _ _ (Lib.hid (HM.out.sub (by exact q7v)))).mono ?_
     rintro e w4 ⟨rfl, hw, hp, hm⟩
     have HSW3 := Lib.hid hw
     have LP := Lib.hid hp
     have HM2 := Lib.hid (HM.out.after (by exact q7i) hm)
     clear hw hp hm HM HNO HSW
     have HM := HM2
     clear HM2
     dsimp only [List.set] at HM
     go_wp2_with (first | (refine q9l ?_; first | (first | (refine q8a rfl _ rfl rfl HM (by exact q7m) (by exact q7w) ?_) | (refine q8b rfl _ rfl rfl HM (by exact q7m) (by exact q7w) ?_) | (refine q8c rfl _ rfl rfl HM (by exact q7m) (by exact q7w) (by with_reducible assumption) ?_) | (refine q8d rfl _ rfl rfl HM (by exact q7m) (by exact q7w) (by with_reducible assumption) ?_) | (refine q8c rfl _ rfl rfl HM (by exact q7m) (by exact q7w) (Lib.hid rfl) ?_) | (refine q8d rfl _ rfl rfl HM (by exact q7m) (by exact q7w) (Lib.hid rfl) ?_) | (refine q8e rfl _ rfl rfl HM (by exact q7m) (by exact q7w) ?_) | (refine q8f rfl _ rfl rfl HM (by exact q7m) (by exact q7w) ?_)) | (refine q8q rfl _ _ rfl rfl (by exact q7r) HM (by exact q7m) (by exact q7s) ?_) | (refine q8r rfl _ _ rfl rfl (by exact q7a) HM (by exact q7m) (by exact q7f) (by exact q7l) ?_)) | (refine q9s ?_; first | ((first | refine q8o rfl _ _ rfl rfl rfl HM (by exact q7i) (by exact q7w) (by exact q7w) ?_ | refine q8p rfl _ _ rfl rfl rfl HM (by exact q7i) (by exact q7w) (by exact q7w) ?_); clear HM; intro us HM; dsimp only [List.set] at HM) | ((first | refine q8j rfl _ _ rfl rfl rfl HM (by exact q7i) HSW (by exact q7l) ?_ | refine q8k rfl _ _ rfl rfl rfl HM (by exact q7i) HSW (by exact q7l) ?_ | refine q8l rfl _ _ rfl rfl rfl HM (by exact q7i) HSW ?_ | refine q8m rfl _ _ rfl rfl rfl HM (by exact q7i) HSW ?_ | refine q8n rfl _ _ rfl rfl rfl HM (by exact q7i) HSW (by with_reducible assumption) ?_); clear HM HSW; intro us HM HSW; dsimp only [List.set] at HM HSW) | (refine q8s rfl _ _ _ rfl rfl rfl (by exact q7r) HM (by exact q7i) (by exact q7s) (by exact q7s) (by exact q7o) ?_; clear HM; intro us HM; dsimp only [List.set] at HM)) | (refine q9b ?_; (first | (refine q8g rfl rfl ?_) | (refine q8h rfl _ rfl rfl ?_) | (refine q8i rfl _ rfl rfl (by exact q7w) ?_) | (refine q8v rfl _ rfl (by exact q7a) (by kernel_rfl) ?_))) | ((first | refine q9a ?_ | refine q9x ?_); ((first | refine q8t rfl _ _ rfl rfl HM ?_ | refine q8u rfl _ rfl rowSyn HM ?_ | refine q8u rfl _ rfl rowMou HM ?_ | refine q8u rfl _ rfl (by exact q7r) HM ?_); first | (have q:dV HM = 0:=rfl;clear q HM;intro g1 u1 HG1 HM) | (have q:dV HM = 1:=rfl;clear q HM;intro g2 u2 HG2 HM) | (have q:dV HM = 2:=rfl;clear q HM;intro g3 u3 HG3 HM) | (have q:dV HM = 3:=rfl;clear q HM;intro g4 u4 HG4 HM))))
     refine bodyPost_ret (v := .tuple #[.agg (icells p), .int .i64 0]) (vres_two rfl _ rfl rfl (by exact q7r) HM (by exact q7m) (by exact q7s)) rfl ⟨rfl, HSW3.out, LP.out, (by have HP := HM.out; (repeat (replace HP := HP.popH (by with_reducible assumption))); exact HP)⟩
end Go.Proofs.YtkcoboamejefiaaGreatDoor.Lp
namespace Go.Proofs.YtkcoboamejefiaaGreatDoor.Lp
open Go.RowKit Fx Fq Tb
open Yr (rdR rd_one rd_back Fr chkB chkB_iff gsR_len rdR_gs)
def DsQ (w : World) (d : Ds) (e : Ending) (w' : World) : Prop := e = .returned (dsV d) ∧ Below w.heap.size w w' ∧ match d with
 | .ok (s, p) => SyW s ∧ p.length = 16
 | .error z => (z == 0) = false
theorem step_no {s : Sy} {bs : List Nat} (h : okSy s = false) : stepS s bs = .error 1 := by unfold stepS; rw [if_neg (by rw [h]; exact Bool.false_ne_true)]
theorem rest_no {s : Sy} (h : okSy s = false) : restS s = .error 1 := by unfold restS; rw [if_neg (by rw [h]; exact Bool.false_ne_true)]
theorem fade_no {s : Sy} {b : Int} (h : okSy s = false) : fadeS s b = .error 1 := by unfold fadeS; rw [if_neg (by rw [h]; exact fun e => Bool.false_ne_true e.1)]
theorem dsV_form (d : Ds) (h : match d with | .ok (s, p) => SyW s ∧ p.length = 16 | .error z => (z == 0) = false) : ∃ (s : Sy) (p : List Int) (z : Int), SyW s ∧ p.length = 16 ∧ dsV d = .tuple #[.agg (syC s), .agg (icells p), .int .i64 z] := by
 cases d with
 | error z => exact ⟨Sy.z, zr 16, z, syW_z, zr_length 16, rfl⟩
 | ok r => exact ⟨r.1, r.2, 0, h.1, h.2, rfl⟩
theorem step1_any {w0 w : World} {m gb : Nat} (s : Sy) (A : Option Addr) (n c : Nat) (bs : List Nat) (hm : Hid (MV w0 w [(m, 61, syC s)] w)) (hs : Hid (SyW s)) (hk : okSy s = true) (hr : Hid (Rd w A n bs)) (hb : Hid (Blk w gb 40 #[.slice A n c])) (hg : gb ≠ m) (he : Hid (Edg w0)) :
  Calls Tryz.prog 32 #[.pointer (some ⟨m, 0, none⟩), .pointer (some ⟨gb, 0, none⟩)] w (SdQ w0 w m (stepS s bs)) := by
 have HM := hm
 have LZ := Lib.hid (zr_length 16)
 have HAP := Lib.hid (show Apt A n [m] from fun ad e hn g hg => by
  rw [List.mem_singleton] at hg
  subst hg
  exact rd_noM hr.out (hm.out.get (.head _)) (syn8 hs.out) e hn)
 have HAL := Lib.hid (rd_lt hr.out)
 have HST := Lib.hid (fun (u : World) (h : Hid (MV w0 u [(m, 61, syC s)] u)) (h2 : Hid (Rd u A n bs)) => mstep_any s A n c bs h hs hk h2 he)
 have HGB := Lib.hid hg
 have HLT := Lib.hid hb.out.lt
 generalize stepS s bs = d at HST ⊢
 clear hm hk he hg
 go_enter Tryz.func32, Tryz.ntmps32
 go_upto_region 1 with (first | (refine q9l ?_; first | (first | (refine q8a rfl _ rfl rfl HM (by exact q7m) (by exact q7w) ?_) | (refine q8b rfl _ rfl rfl HM (by exact q7m) (by exact q7w) ?_) | (refine q8c rfl _ rfl rfl HM (by exact q7m) (by exact q7w) (by with_reducible assumption) ?_) | (refine q8d rfl _ rfl rfl HM (by exact q7m) (by exact q7w) (by with_reducible assumption) ?_) | (refine q8c rfl _ rfl rfl HM (by exact q7m) (by exact q7w) (Lib.hid rfl) ?_) | (refine q8d rfl _ rfl rfl HM (by exact q7m) (by exact q7w) (Lib.hid rfl) ?_) | (refine q8e rfl _ rfl rfl HM (by exact q7m) (by exact q7w) ?_) | (refine q8f rfl _ rfl rfl HM (by exact q7m) (by exact q7w) ?_)) | (refine q8q rfl _ _ rfl rfl (by exact q7r) HM (by exact q7m) (by exact q7s) ?_) | (refine q8r rfl _ _ rfl rfl (by exact q7a) HM (by exact q7m) (by exact q7f) (by exact q7l) ?_)) | (refine q9s ?_; first | ((first | refine q8o rfl _ _ rfl rfl rfl HM (by exact q7i) (by exact q7w) (by exact q7w) ?_ | refine q8p rfl _ _ rfl rfl rfl HM (by exact q7i) (by exact q7w) (by exact q7w) ?_); clear HM; intro us HM; dsimp only [List.set] at HM) | ((first | refine q8j rfl _ _ rfl rfl rfl HM (by exact q7i) HSW (by exact q7l) ?_ | refine q8k rfl _ _ rfl rfl rfl HM (by exact q7i) HSW (by exact q7l) ?_ | refine q8l rfl _ _ rfl rfl rfl HM (by exact q7i) HSW ?_ | refine q8m rfl _ _ rfl rfl rfl HM (by exact q7i) HSW ?_ | refine q8n rfl _ _ rfl rfl rfl HM (by exact q7i) HSW (by with_reducible assumption) ?_); clear HM HSW; intro us HM HSW; dsimp only [List.set] at HM HSW) | (refine q8s rfl _ _ _ rfl rfl rfl (by exact q7r) HM (by exact q7i) (by exact q7s) (by exact q7s) (by exact q7o) ?_; clear HM; intro us HM; dsimp only [List.set] at HM)) | (refine q9b ?_; (first | (refine q8g rfl rfl ?_) | (refine q8h rfl _ rfl rfl ?_) | (refine q8i rfl _ rfl rfl (by exact q7w) ?_) | (refine q8v rfl _ rfl (by exact q7a) (by kernel_rfl) ?_))) | ((first | refine q9a ?_ | refine q9x ?_); ((first | refine q8t rfl _ _ rfl rfl HM ?_ | refine q8u rfl _ rfl rowSyn HM ?_ | refine q8u rfl _ rfl rowMou HM ?_ | refine q8u rfl _ rfl (by exact q7r) HM ?_); first | (have q:dV HM = 0:=rfl;clear q HM;intro g1 u1 HG1 HM) | (have q:dV HM = 1:=rfl;clear q HM;intro g2 u2 HG2 HM) | (have q:dV HM = 2:=rfl;clear q HM;intro g3 u3 HG3 HM) | (have q:dV HM = 3:=rfl;clear q HM;intro g4 u4 HG4 HM))))
 have HR2 := Lib.hid (HM.out.rdA hr.out (by exact HAP.out.cons HAL.out HG2.out))
 have hcl := (HM.out.keep hb.out (fun e he => by
  simp only [List.mem_cons, List.not_mem_nil, or_false] at he
  have h1 := HLT.out
  have h2 := HG2.out
  rcases he with rfl | rfl
  ·show g2 ≠ gb; omega
  ·exact HGB.out.symm)).cell 0
 go_wp2_with (first | (refine q9l ?_; first | (first | (refine q8a rfl _ rfl rfl HM (by exact q7m) (by exact q7w) ?_) | (refine q8b rfl _ rfl rfl HM (by exact q7m) (by exact q7w) ?_) | (refine q8c rfl _ rfl rfl HM (by exact q7m) (by exact q7w) (by with_reducible assumption) ?_) | (refine q8d rfl _ rfl rfl HM (by exact q7m) (by exact q7w) (by with_reducible assumption) ?_) | (refine q8c rfl _ rfl rfl HM (by exact q7m) (by exact q7w) (Lib.hid rfl) ?_) | (refine q8d rfl _ rfl rfl HM (by exact q7m) (by exact q7w) (Lib.hid rfl) ?_) | (refine q8e rfl _ rfl rfl HM (by exact q7m) (by exact q7w) ?_) | (refine q8f rfl _ rfl rfl HM (by exact q7m) (by exact q7w) ?_)) | (refine q8q rfl _ _ rfl rfl (by exact q7r) HM (by exact q7m) (by exact q7s) ?_) | (refine q8r rfl _ _ rfl rfl (by exact q7a) HM (by exact q7m) (by exact q7f) (by exact q7l) ?_)) | (refine q9s ?_; first | ((first | refine q8o rfl _ _ rfl rfl rfl HM (by exact q7i) (by exact q7w) (by exact q7w) ?_ | refine q8p rfl _ _ rfl rfl rfl HM (by exact q7i) (by exact q7w) (by exact q7w) ?_); clear HM; intro us HM; dsimp only [List.set] at HM) | ((first | refine q8j rfl _ _ rfl rfl rfl HM (by exact q7i) HSW (by exact q7l) ?_ | refine q8k rfl _ _ rfl rfl rfl HM (by exact q7i) HSW (by exact q7l) ?_ | refine q8l rfl _ _ rfl rfl rfl HM (by exact q7i) HSW ?_ | refine q8m rfl _ _ rfl rfl rfl HM (by exact q7i) HSW ?_ | refine q8n rfl _ _ rfl rfl rfl HM (by exact q7i) HSW (by with_reducible assumption) ?_); clear HM HSW; intro us HM HSW; dsimp only [List.set] at HM HSW) | (refine q8s rfl _ _ _ rfl rfl rfl (by exact q7r) HM (by exact q7i) (by exact q7s) (by exact q7s) (by exact q7o) ?_; clear HM; intro us HM; dsimp only [List.set] at HM)) | (refine q9b ?_; (first | (refine q8g rfl rfl ?_) | (refine q8h rfl _ rfl rfl ?_) | (refine q8i rfl _ rfl rfl (by exact q7w) ?_) | (refine q8v rfl _ rfl (by exact q7a) (by kernel_rfl) ?_))) | ((first | refine q9a ?_ | refine q9x ?_); ((first | refine q8t rfl _ _ rfl rfl HM ?_ | refine q8u rfl _ rfl rowSyn HM ?_ | refine q8u rfl _ rfl rowMou HM ?_ | refine q8u rfl _ rfl (by exact q7r) HM ?_); first | (have q:dV HM = 0:=rfl;clear q HM;intro g1 u1 HG1 HM) | (have q:dV HM = 1:=rfl;clear q HM;intro g2 u2 HG2 HM) | (have q:dV HM = 2:=rfl;clear q HM;intro g3 u3 HG3 HM) | (have q:dV HM = 3:=rfl;clear q HM;intro g4 u4 HG4 HM))))
 refine (HST.out _ (Lib.hid (HM.out.sub (by exact q7v))) HR2).mono ?_
 intro e w4 ho
 cases d with
 | error z =>
  obtain ⟨hz, rfl, cs, hm⟩ := ho
  have HZ := Lib.hid hz
  have HM2 := Lib.hid (HM.out.after (by exact q7i) hm)
  clear hz hm HM HST hcl HR2
  have HM := HM2
  clear HM2
  dsimp only [List.set] at HM
  go_wp2_with (first | (refine q9l ?_; first | (first | (refine q8a rfl _ rfl rfl HM (by exact q7m) (by exact q7w) ?_) | (refine q8b rfl _ rfl rfl HM (by exact q7m) (by exact q7w) ?_) | (refine q8c rfl _ rfl rfl HM (by exact q7m) (by exact q7w) (by with_reducible assumption) ?_) | (refine q8d rfl _ rfl rfl HM (by exact q7m) (by exact q7w) (by with_reducible assumption) ?_) | (refine q8c rfl _ rfl rfl HM (by exact q7m) (by exact q7w) (Lib.hid rfl) ?_) | (refine q8d rfl _ rfl rfl HM (by exact q7m) (by exact q7w) (Lib.hid rfl) ?_) | (refine q8e rfl _ rfl rfl HM (by exact q7m) (by exact q7w) ?_) | (refine q8f rfl _ rfl rfl HM (by exact q7m) (by exact q7w) ?_)) | (refine q8q rfl _ _ rfl rfl (by exact q7r) HM (by exact q7m) (by exact q7s) ?_) | (refine q8r rfl _ _ rfl rfl (by exact q7a) HM (by exact q7m) (by exact q7f) (by exact q7l) ?_)) | (refine q9s ?_; first | ((first | refine q8o rfl _ _ rfl rfl rfl HM (by exact q7i) (by exact q7w) (by exact q7w) ?_ | refine q8p rfl _ _ rfl rfl rfl HM (by exact q7i) (by exact q7w) (by exact q7w) ?_); clear HM; intro us HM; dsimp only [List.set] at HM) | ((first | refine q8j rfl _ _ rfl rfl rfl HM (by exact q7i) HSW (by exact q7l) ?_ | refine q8k rfl _ _ rfl rfl rfl HM (by exact q7i) HSW (by exact q7l) ?_ | refine q8l rfl _ _ rfl rfl rfl HM (by exact q7i) HSW ?_ | refine q8m rfl _ _ rfl rfl rfl HM (by exact q7i) HSW ?_ | refine q8n rfl _ _ rfl rfl rfl HM (by exact q7i) HSW (by with_reducible assumption) ?_); clear HM HSW; intro us HM HSW; dsimp only [List.set] at HM HSW) | (refine q8s rfl _ _ _ rfl rfl rfl (by exact q7r) HM (by exact q7i) (by exact q7s) (by exact q7s) (by exact q7o) ?_; clear HM; intro us HM; dsimp only [List.set] at HM)) | (refine q9b ?_; (first | (refine q8g rfl rfl ?_) | (refine q8h rfl _ rfl rfl ?_) | (refine q8i rfl _ rfl rfl (by exact q7w) ?_) | (refine q8v rfl _ rfl (by exact q7a) (by kernel_rfl) ?_))) | ((first | refine q9a ?_ | refine q9x ?_); ((first | refine q8t rfl _ _ rfl rfl HM ?_ | refine q8u rfl _ rfl rowSyn HM ?_ | refine q8u rfl _ rfl rowMou HM ?_ | refine q8u rfl _ rfl (by exact q7r) HM ?_); first | (have q:dV HM = 0:=rfl;clear q HM;intro g1 u1 HG1 HM) | (have q:dV HM = 1:=rfl;clear q HM;intro g2 u2 HG2 HM) | (have q:dV HM = 2:=rfl;clear q HM;intro g3 u3 HG3 HM) | (have q:dV HM = 3:=rfl;clear q HM;intro g4 u4 HG4 HM))))
  refine bodyPost_ret (v := .tuple #[.agg (icells (zr 16)), .int .i64 z]) (vres_two rfl _ rfl rfl (by exact q7r) HM (by exact q7m) (by exact q7s)) rfl ⟨HZ.out, rfl, _, (by have HP := HM.out; (repeat (replace HP := HP.popH (by with_reducible assumption))); exact HP)⟩
 | ok r =>
  obtain ⟨s3, p⟩ := r
  obtain ⟨rfl, hw, hp, hm⟩ := ho
  have HSW3 := Lib.hid hw
  have LP := Lib.hid hp
  have HM2 := Lib.hid (HM.out.after (by exact q7i) hm)
  clear hw hp hm HM HST hcl HR2
  have HM := HM2
  clear HM2
  dsimp only [List.set] at HM
  go_wp2_with (first | (refine q9l ?_; first | (first | (refine q8a rfl _ rfl rfl HM (by exact q7m) (by exact q7w) ?_) | (refine q8b rfl _ rfl rfl HM (by exact q7m) (by exact q7w) ?_) | (refine q8c rfl _ rfl rfl HM (by exact q7m) (by exact q7w) (by with_reducible assumption) ?_) | (refine q8d rfl _ rfl rfl HM (by exact q7m) (by exact q7w) (by with_reducible assumption) ?_) | (refine q8c rfl _ rfl rfl HM (by exact q7m) (by exact q7w) (Lib.hid rfl) ?_) | (refine q8d rfl _ rfl rfl HM (by exact q7m) (by exact q7w) (Lib.hid rfl) ?_) | (refine q8e rfl _ rfl rfl HM (by exact q7m) (by exact q7w) ?_) | (refine q8f rfl _ rfl rfl HM (by exact q7m) (by exact q7w) ?_)) | (refine q8q rfl _ _ rfl rfl (by exact q7r) HM (by exact q7m) (by exact q7s) ?_) | (refine q8r rfl _ _ rfl rfl (by exact q7a) HM (by exact q7m) (by exact q7f) (by exact q7l) ?_)) | (refine q9s ?_; first | ((first | refine q8o rfl _ _ rfl rfl rfl HM (by exact q7i) (by exact q7w) (by exact q7w) ?_ | refine q8p rfl _ _ rfl rfl rfl HM (by exact q7i) (by exact q7w) (by exact q7w) ?_); clear HM; intro us HM; dsimp only [List.set] at HM) | ((first | refine q8j rfl _ _ rfl rfl rfl HM (by exact q7i) HSW (by exact q7l) ?_ | refine q8k rfl _ _ rfl rfl rfl HM (by exact q7i) HSW (by exact q7l) ?_ | refine q8l rfl _ _ rfl rfl rfl HM (by exact q7i) HSW ?_ | refine q8m rfl _ _ rfl rfl rfl HM (by exact q7i) HSW ?_ | refine q8n rfl _ _ rfl rfl rfl HM (by exact q7i) HSW (by with_reducible assumption) ?_); clear HM HSW; intro us HM HSW; dsimp only [List.set] at HM HSW) | (refine q8s rfl _ _ _ rfl rfl rfl (by exact q7r) HM (by exact q7i) (by exact q7s) (by exact q7s) (by exact q7o) ?_; clear HM; intro us HM; dsimp only [List.set] at HM)) | (refine q9b ?_; (first | (refine q8g rfl rfl ?_) | (refine q8h rfl _ rfl rfl ?_) | (refine q8i rfl _ rfl rfl (by exact q7w) ?_) | (refine q8v rfl _ rfl (by exact q7a) (by kernel_rfl) ?_))) | ((first | refine q9a ?_ | refine q9x ?_); ((first | refine q8t rfl _ _ rfl rfl HM ?_ | refine q8u rfl _ rfl rowSyn HM ?_ | refine q8u rfl _ rfl rowMou HM ?_ | refine q8u rfl _ rfl (by exact q7r) HM ?_); first | (have q:dV HM = 0:=rfl;clear q HM;intro g1 u1 HG1 HM) | (have q:dV HM = 1:=rfl;clear q HM;intro g2 u2 HG2 HM) | (have q:dV HM = 2:=rfl;clear q HM;intro g3 u3 HG3 HM) | (have q:dV HM = 3:=rfl;clear q HM;intro g4 u4 HG4 HM))))
  refine bodyPost_ret (v := .tuple #[.agg (icells p), .int .i64 0]) (vres_two rfl _ rfl rfl (by exact q7r) HM (by exact q7m) (by exact q7s)) rfl ⟨rfl, HSW3.out, LP.out, (by have HP := HM.out; (repeat (replace HP := HP.popH (by with_reducible assumption))); exact HP)⟩
theorem fade1_any {w0 w : World} {m gb : Nat} (s : Sy) (b : Int) (hm : Hid (MV w0 w [(m, 61, syC s)] w)) (hs : Hid (SyW s)) (hk : okSy s = true) (h1 : 1 ≤ b) (h2 : b ≤ 1000) (hb : Hid (Blk w gb 3 #[.int .i64 b])) (hg : gb ≠ m) (he : Hid (Edg w0)) :
  Calls Tryz.prog 27 #[.pointer (some ⟨m, 0, none⟩), .pointer (some ⟨gb, 0, none⟩)] w (SdQ w0 w m (fadeS s b)) := by
 have HM := hm
 have LZ := Lib.hid (zr_length 16)
 have HST := Lib.hid (fun (u : World) (h : Hid (MV w0 u [(m, 61, syC s)] u)) => mfade_any s b h hs hk h1 h2 he)
 have HGB := Lib.hid hg
 have HLT := Lib.hid hb.out.lt
 generalize fadeS s b = d at HST ⊢
 clear hm hk he hg h1 h2
 go_enter Tryz.func27, Tryz.ntmps27
 go_upto_region 1 with (first | (refine q9l ?_; first | (first | (refine q8a rfl _ rfl rfl HM (by exact q7m) (by exact q7w) ?_) | (refine q8b rfl _ rfl rfl HM (by exact q7m) (by exact q7w) ?_) | (refine q8c rfl _ rfl rfl HM (by exact q7m) (by exact q7w) (by with_reducible assumption) ?_) | (refine q8d rfl _ rfl rfl HM (by exact q7m) (by exact q7w) (by with_reducible assumption) ?_) | (refine q8c rfl _ rfl rfl HM (by exact q7m) (by exact q7w) (Lib.hid rfl) ?_) | (refine q8d rfl _ rfl rfl HM (by exact q7m) (by exact q7w) (Lib.hid rfl) ?_) | (refine q8e rfl _ rfl rfl HM (by exact q7m) (by exact q7w) ?_) | (refine q8f rfl _ rfl rfl HM (by exact q7m) (by exact q7w) ?_)) | (refine q8q rfl _ _ rfl rfl (by exact q7r) HM (by exact q7m) (by exact q7s) ?_) | (refine q8r rfl _ _ rfl rfl (by exact q7a) HM (by exact q7m) (by exact q7f) (by exact q7l) ?_)) | (refine q9s ?_; first | ((first | refine q8o rfl _ _ rfl rfl rfl HM (by exact q7i) (by exact q7w) (by exact q7w) ?_ | refine q8p rfl _ _ rfl rfl rfl HM (by exact q7i) (by exact q7w) (by exact q7w) ?_); clear HM; intro us HM; dsimp only [List.set] at HM) | ((first | refine q8j rfl _ _ rfl rfl rfl HM (by exact q7i) HSW (by exact q7l) ?_ | refine q8k rfl _ _ rfl rfl rfl HM (by exact q7i) HSW (by exact q7l) ?_ | refine q8l rfl _ _ rfl rfl rfl HM (by exact q7i) HSW ?_ | refine q8m rfl _ _ rfl rfl rfl HM (by exact q7i) HSW ?_ | refine q8n rfl _ _ rfl rfl rfl HM (by exact q7i) HSW (by with_reducible assumption) ?_); clear HM HSW; intro us HM HSW; dsimp only [List.set] at HM HSW) | (refine q8s rfl _ _ _ rfl rfl rfl (by exact q7r) HM (by exact q7i) (by exact q7s) (by exact q7s) (by exact q7o) ?_; clear HM; intro us HM; dsimp only [List.set] at HM)) | (refine q9b ?_; (first | (refine q8g rfl rfl ?_) | (refine q8h rfl _ rfl rfl ?_) | (refine q8i rfl _ rfl rfl (by exact q7w) ?_) | (refine q8v rfl _ rfl (by exact q7a) (by kernel_rfl) ?_))) | ((first | refine q9a ?_ | refine q9x ?_); ((first | refine q8t rfl _ _ rfl rfl HM ?_ | refine q8u rfl _ rfl rowSyn HM ?_ | refine q8u rfl _ rfl rowMou HM ?_ | refine q8u rfl _ rfl (by exact q7r) HM ?_); first | (have q:dV HM = 0:=rfl;clear q HM;intro g1 u1 HG1 HM) | (have q:dV HM = 1:=rfl;clear q HM;intro g2 u2 HG2 HM) | (have q:dV HM = 2:=rfl;clear q HM;intro g3 u3 HG3 HM) | (have q:dV HM = 3:=rfl;clear q HM;intro g4 u4 HG4 HM))))
 have hcl := (HM.out.keep hb.out (fun e he => by
  simp only [List.mem_cons, List.not_mem_nil, or_false] at he
  have h1 := HLT.out
  have h2 := HG2.out
  rcases he with rfl | rfl
  ·show g2 ≠ gb; omega
  ·exact HGB.out.symm)).cell 0
 go_wp2_with (first | (refine q9l ?_; first | (first | (refine q8a rfl _ rfl rfl HM (by exact q7m) (by exact q7w) ?_) | (refine q8b rfl _ rfl rfl HM (by exact q7m) (by exact q7w) ?_) | (refine q8c rfl _ rfl rfl HM (by exact q7m) (by exact q7w) (by with_reducible assumption) ?_) | (refine q8d rfl _ rfl rfl HM (by exact q7m) (by exact q7w) (by with_reducible assumption) ?_) | (refine q8c rfl _ rfl rfl HM (by exact q7m) (by exact q7w) (Lib.hid rfl) ?_) | (refine q8d rfl _ rfl rfl HM (by exact q7m) (by exact q7w) (Lib.hid rfl) ?_) | (refine q8e rfl _ rfl rfl HM (by exact q7m) (by exact q7w) ?_) | (refine q8f rfl _ rfl rfl HM (by exact q7m) (by exact q7w) ?_)) | (refine q8q rfl _ _ rfl rfl (by exact q7r) HM (by exact q7m) (by exact q7s) ?_) | (refine q8r rfl _ _ rfl rfl (by exact q7a) HM (by exact q7m) (by exact q7f) (by exact q7l) ?_)) | (refine q9s ?_; first | ((first | refine q8o rfl _ _ rfl rfl rfl HM (by exact q7i) (by exact q7w) (by exact q7w) ?_ | refine q8p rfl _ _ rfl rfl rfl HM (by exact q7i) (by exact q7w) (by exact q7w) ?_); clear HM; intro us HM; dsimp only [List.set] at HM) | ((first | refine q8j rfl _ _ rfl rfl rfl HM (by exact q7i) HSW (by exact q7l) ?_ | refine q8k rfl _ _ rfl rfl rfl HM (by exact q7i) HSW (by exact q7l) ?_ | refine q8l rfl _ _ rfl rfl rfl HM (by exact q7i) HSW ?_ | refine q8m rfl _ _ rfl rfl rfl HM (by exact q7i) HSW ?_ | refine q8n rfl _ _ rfl rfl rfl HM (by exact q7i) HSW (by with_reducible assumption) ?_); clear HM HSW; intro us HM HSW; dsimp only [List.set] at HM HSW) | (refine q8s rfl _ _ _ rfl rfl rfl (by exact q7r) HM (by exact q7i) (by exact q7s) (by exact q7s) (by exact q7o) ?_; clear HM; intro us HM; dsimp only [List.set] at HM)) | (refine q9b ?_; (first | (refine q8g rfl rfl ?_) | (refine q8h rfl _ rfl rfl ?_) | (refine q8i rfl _ rfl rfl (by exact q7w) ?_) | (refine q8v rfl _ rfl (by exact q7a) (by kernel_rfl) ?_))) | ((first | refine q9a ?_ | refine q9x ?_); ((first | refine q8t rfl _ _ rfl rfl HM ?_ | refine q8u rfl _ rfl rowSyn HM ?_ | refine q8u rfl _ rfl rowMou HM ?_ | refine q8u rfl _ rfl (by exact q7r) HM ?_); first | (have q:dV HM = 0:=rfl;clear q HM;intro g1 u1 HG1 HM) | (have q:dV HM = 1:=rfl;clear q HM;intro g2 u2 HG2 HM) | (have q:dV HM = 2:=rfl;clear q HM;intro g3 u3 HG3 HM) | (have q:dV HM = 3:=rfl;clear q HM;intro g4 u4 HG4 HM))))
 refine (HST.out _ (Lib.hid (HM.out.sub (by exact q7v)))).mono ?_
 intro e w4 ho
 cases d with
 | error z =>
  obtain ⟨hz, rfl, cs, hm⟩ := ho
  have HZ := Lib.hid hz
  have HM2 := Lib.hid (HM.out.after (by exact q7i) hm)
  clear hz hm HM HST hcl
  have HM := HM2
  clear HM2
  dsimp only [List.set] at HM
  go_wp2_with (first | (refine q9l ?_; first | (first | (refine q8a rfl _ rfl rfl HM (by exact q7m) (by exact q7w) ?_) | (refine q8b rfl _ rfl rfl HM (by exact q7m) (by exact q7w) ?_) | (refine q8c rfl _ rfl rfl HM (by exact q7m) (by exact q7w) (by with_reducible assumption) ?_) | (refine q8d rfl _ rfl rfl HM (by exact q7m) (by exact q7w) (by with_reducible assumption) ?_) | (refine q8c rfl _ rfl rfl HM (by exact q7m) (by exact q7w) (Lib.hid rfl) ?_) | (refine q8d rfl _ rfl rfl HM (by exact q7m) (by exact q7w) (Lib.hid rfl) ?_) | (refine q8e rfl _ rfl rfl HM (by exact q7m) (by exact q7w) ?_) | (refine q8f rfl _ rfl rfl HM (by exact q7m) (by exact q7w) ?_)) | (refine q8q rfl _ _ rfl rfl (by exact q7r) HM (by exact q7m) (by exact q7s) ?_) | (refine q8r rfl _ _ rfl rfl (by exact q7a) HM (by exact q7m) (by exact q7f) (by exact q7l) ?_)) | (refine q9s ?_; first | ((first | refine q8o rfl _ _ rfl rfl rfl HM (by exact q7i) (by exact q7w) (by exact q7w) ?_ | refine q8p rfl _ _ rfl rfl rfl HM (by exact q7i) (by exact q7w) (by exact q7w) ?_); clear HM; intro us HM; dsimp only [List.set] at HM) | ((first | refine q8j rfl _ _ rfl rfl rfl HM (by exact q7i) HSW (by exact q7l) ?_ | refine q8k rfl _ _ rfl rfl rfl HM (by exact q7i) HSW (by exact q7l) ?_ | refine q8l rfl _ _ rfl rfl rfl HM (by exact q7i) HSW ?_ | refine q8m rfl _ _ rfl rfl rfl HM (by exact q7i) HSW ?_ | refine q8n rfl _ _ rfl rfl rfl HM (by exact q7i) HSW (by with_reducible assumption) ?_); clear HM HSW; intro us HM HSW; dsimp only [List.set] at HM HSW) | (refine q8s rfl _ _ _ rfl rfl rfl (by exact q7r) HM (by exact q7i) (by exact q7s) (by exact q7s) (by exact q7o) ?_; clear HM; intro us HM; dsimp only [List.set] at HM)) | (refine q9b ?_; (first | (refine q8g rfl rfl ?_) | (refine q8h rfl _ rfl rfl ?_) | (refine q8i rfl _ rfl rfl (by exact q7w) ?_) | (refine q8v rfl _ rfl (by exact q7a) (by kernel_rfl) ?_))) | ((first | refine q9a ?_ | refine q9x ?_); ((first | refine q8t rfl _ _ rfl rfl HM ?_ | refine q8u rfl _ rfl rowSyn HM ?_ | refine q8u rfl _ rfl rowMou HM ?_ | refine q8u rfl _ rfl (by exact q7r) HM ?_); first | (have q:dV HM = 0:=rfl;clear q HM;intro g1 u1 HG1 HM) | (have q:dV HM = 1:=rfl;clear q HM;intro g2 u2 HG2 HM) | (have q:dV HM = 2:=rfl;clear q HM;intro g3 u3 HG3 HM) | (have q:dV HM = 3:=rfl;clear q HM;intro g4 u4 HG4 HM))))
  refine bodyPost_ret (v := .tuple #[.agg (icells (zr 16)), .int .i64 z]) (vres_two rfl _ rfl rfl (by exact q7r) HM (by exact q7m) (by exact q7s)) rfl ⟨HZ.out, rfl, _, (by have HP := HM.out; (repeat (replace HP := HP.popH (by with_reducible assumption))); exact HP)⟩
 | ok r =>
  obtain ⟨s3, p⟩ := r
  obtain ⟨rfl, hw, hp, hm⟩ := ho
  have HSW3 := Lib.hid hw
  have LP := Lib.hid hp
  have HM2 := Lib.hid (HM.out.after (by exact q7i) hm)
  clear hw hp hm HM HST hcl
  have HM := HM2
  clear HM2
  dsimp only [List.set] at HM
  go_wp2_with (first | (refine q9l ?_; first | (first | (refine q8a rfl _ rfl rfl HM (by exact q7m) (by exact q7w) ?_) | (refine q8b rfl _ rfl rfl HM (by exact q7m) (by exact q7w) ?_) | (refine q8c rfl _ rfl rfl HM (by exact q7m) (by exact q7w) (by with_reducible assumption) ?_) | (refine q8d rfl _ rfl rfl HM (by exact q7m) (by exact q7w) (by with_reducible assumption) ?_) | (refine q8c rfl _ rfl rfl HM (by exact q7m) (by exact q7w) (Lib.hid rfl) ?_) | (refine q8d rfl _ rfl rfl HM (by exact q7m) (by exact q7w) (Lib.hid rfl) ?_) | (refine q8e rfl _ rfl rfl HM (by exact q7m) (by exact q7w) ?_) | (refine q8f rfl _ rfl rfl HM (by exact q7m) (by exact q7w) ?_)) | (refine q8q rfl _ _ rfl rfl (by exact q7r) HM (by exact q7m) (by exact q7s) ?_) | (refine q8r rfl _ _ rfl rfl (by exact q7a) HM (by exact q7m) (by exact q7f) (by exact q7l) ?_)) | (refine q9s ?_; first | ((first | refine q8o rfl _ _ rfl rfl rfl HM (by exact q7i) (by exact q7w) (by exact q7w) ?_ | refine q8p rfl _ _ rfl rfl rfl HM (by exact q7i) (by exact q7w) (by exact q7w) ?_); clear HM; intro us HM; dsimp only [List.set] at HM) | ((first | refine q8j rfl _ _ rfl rfl rfl HM (by exact q7i) HSW (by exact q7l) ?_ | refine q8k rfl _ _ rfl rfl rfl HM (by exact q7i) HSW (by exact q7l) ?_ | refine q8l rfl _ _ rfl rfl rfl HM (by exact q7i) HSW ?_ | refine q8m rfl _ _ rfl rfl rfl HM (by exact q7i) HSW ?_ | refine q8n rfl _ _ rfl rfl rfl HM (by exact q7i) HSW (by with_reducible assumption) ?_); clear HM HSW; intro us HM HSW; dsimp only [List.set] at HM HSW) | (refine q8s rfl _ _ _ rfl rfl rfl (by exact q7r) HM (by exact q7i) (by exact q7s) (by exact q7s) (by exact q7o) ?_; clear HM; intro us HM; dsimp only [List.set] at HM)) | (refine q9b ?_; (first | (refine q8g rfl rfl ?_) | (refine q8h rfl _ rfl rfl ?_) | (refine q8i rfl _ rfl rfl (by exact q7w) ?_) | (refine q8v rfl _ rfl (by exact q7a) (by kernel_rfl) ?_))) | ((first | refine q9a ?_ | refine q9x ?_); ((first | refine q8t rfl _ _ rfl rfl HM ?_ | refine q8u rfl _ rfl rowSyn HM ?_ | refine q8u rfl _ rfl rowMou HM ?_ | refine q8u rfl _ rfl (by exact q7r) HM ?_); first | (have q:dV HM = 0:=rfl;clear q HM;intro g1 u1 HG1 HM) | (have q:dV HM = 1:=rfl;clear q HM;intro g2 u2 HG2 HM) | (have q:dV HM = 2:=rfl;clear q HM;intro g3 u3 HG3 HM) | (have q:dV HM = 3:=rfl;clear q HM;intro g4 u4 HG4 HM))))
  refine bodyPost_ret (v := .tuple #[.agg (icells p), .int .i64 0]) (vres_two rfl _ rfl rfl (by exact q7r) HM (by exact q7m) (by exact q7s)) rfl ⟨rfl, HSW3.out, LP.out, (by have HP := HM.out; (repeat (replace HP := HP.popH (by with_reducible assumption))); exact HP)⟩
theorem pstep_any (s : Sy) (A : Option Addr) (n c : Nat) (bs : List Nat) (w : World) (hs : Hid (SyW s)) (hr : Hid (Rd w A n bs)) (he : Edg w) :
  Calls Tryz.prog 18 #[.agg (syC s), .slice A n c] w (DsQ w (stepS s bs)) := by
 have HM := Lib.hid (MV.start w)
 have HE := Lib.hid he
 have HSW := hs
 have LZ := Lib.hid (zr_length 16)
 have HSAY := Lib.hid (fun (u : World) (m gb : Nat) (h : Hid (MV w u [(m, 61, syC s)] u)) (hb : Hid (Blk u gb 40 #[.slice A n c])) (hg : gb ≠ m) => say_any s (stepS s bs) 32 #[] #[.pointer (some ⟨m, 0, none⟩), .pointer (some ⟨gb, 0, none⟩)] (enters_of Tryz.func32 (by kernel_rfl) rfl) h hs step_no (Lib.hid fun hk v hv => step1_any s A n c bs (Lib.hid hv.base) hs hk (Lib.hid (hr.out.below hv.1)) (Lib.hid (hv.keep hb.out (fun e he => by
  rw [List.mem_singleton] at he
  subst he
  exact hg.symm))) hg (Lib.hid he)))
 unfold SayQ at HSAY
 clear he hs hr
 go_enter Tryz.func18, Tryz.ntmps18
 go_wp2_with (first | (first | (refine q9l ?_; first | (first | (refine q8a rfl _ rfl rfl HM (by exact q7m) (by exact q7w) ?_) | (refine q8b rfl _ rfl rfl HM (by exact q7m) (by exact q7w) ?_) | (refine q8c rfl _ rfl rfl HM (by exact q7m) (by exact q7w) (by with_reducible assumption) ?_) | (refine q8d rfl _ rfl rfl HM (by exact q7m) (by exact q7w) (by with_reducible assumption) ?_) | (refine q8c rfl _ rfl rfl HM (by exact q7m) (by exact q7w) (Lib.hid rfl) ?_) | (refine q8d rfl _ rfl rfl HM (by exact q7m) (by exact q7w) (Lib.hid rfl) ?_) | (refine q8e rfl _ rfl rfl HM (by exact q7m) (by exact q7w) ?_) | (refine q8f rfl _ rfl rfl HM (by exact q7m) (by exact q7w) ?_)) | (refine q8q rfl _ _ rfl rfl (by exact q7r) HM (by exact q7m) (by exact q7s) ?_) | (refine q8r rfl _ _ rfl rfl (by exact q7a) HM (by exact q7m) (by exact q7f) (by exact q7l) ?_)) | (refine q9s ?_; first | ((first | refine q8o rfl _ _ rfl rfl rfl HM (by exact q7i) (by exact q7w) (by exact q7w) ?_ | refine q8p rfl _ _ rfl rfl rfl HM (by exact q7i) (by exact q7w) (by exact q7w) ?_); clear HM; intro us HM; dsimp only [List.set] at HM) | ((first | refine q8j rfl _ _ rfl rfl rfl HM (by exact q7i) HSW (by exact q7l) ?_ | refine q8k rfl _ _ rfl rfl rfl HM (by exact q7i) HSW (by exact q7l) ?_ | refine q8l rfl _ _ rfl rfl rfl HM (by exact q7i) HSW ?_ | refine q8m rfl _ _ rfl rfl rfl HM (by exact q7i) HSW ?_ | refine q8n rfl _ _ rfl rfl rfl HM (by exact q7i) HSW (by with_reducible assumption) ?_); clear HM HSW; intro us HM HSW; dsimp only [List.set] at HM HSW) | (refine q8s rfl _ _ _ rfl rfl rfl (by exact q7r) HM (by exact q7i) (by exact q7s) (by exact q7s) (by exact q7o) ?_; clear HM; intro us HM; dsimp only [List.set] at HM)) | (refine q9b ?_; (first | (refine q8g rfl rfl ?_) | (refine q8h rfl _ rfl rfl ?_) | (refine q8i rfl _ rfl rfl (by exact q7w) ?_) | (refine q8v rfl _ rfl (by exact q7a) (by kernel_rfl) ?_))) | ((first | refine q9a ?_ | refine q9x ?_); ((first | refine q8t rfl _ _ rfl rfl HM ?_ | refine q8u rfl _ rfl rowSyn HM ?_ | refine q8u rfl _ rfl rowMou HM ?_ | refine q8u rfl _ rfl (by exact q7r) HM ?_); first | (have q:dV HM = 0:=rfl;clear q HM;intro g1 u1 HG1 HM) | (have q:dV HM = 1:=rfl;clear q HM;intro g2 u2 HG2 HM) | (have q:dV HM = 2:=rfl;clear q HM;intro g3 u3 HG3 HM) | (have q:dV HM = 3:=rfl;clear q HM;intro g4 u4 HG4 HM) | (have q:dV HM = 4:=rfl;clear q HM;intro g5 u5 HG5 HM) | (have q:dV HM = 5:=rfl;clear q HM;intro g6 u6 HG6 HM)))) | (refine wv_boxV rfl _ _ rfl rfl rfl HM ?_; first | (have q:dV HM = 0:=rfl;clear q HM;intro g1 u1 HG1 HM) | (have q:dV HM = 1:=rfl;clear q HM;intro g2 u2 HG2 HM) | (have q:dV HM = 2:=rfl;clear q HM;intro g3 u3 HG3 HM) | (have q:dV HM = 3:=rfl;clear q HM;intro g4 u4 HG4 HM) | (have q:dV HM = 4:=rfl;clear q HM;intro g5 u5 HG5 HM) | (have q:dV HM = 5:=rfl;clear q HM;intro g6 u6 HG6 HM)))
 refine (HSAY.out _ g5 g2 (Lib.hid (HM.out.sub (by exact q7v))) (Lib.hid (HM.out.get (by exact q7m))) (by have h := HM.out.2.2.2.1; intro e; subst e; simp at h)).mono ?_
 rintro e w4 ⟨rfl, ⟨cs, hm⟩, hf⟩
 have HF := Lib.hid hf
 obtain ⟨s3, p, z, hw, hp, hv⟩ := dsV_form _ hf
 rw [hv]
 have HV := Lib.hid hv
 have HSW3 := Lib.hid hw
 have LP := Lib.hid hp
 have HM2 := Lib.hid (HM.out.after (by exact q7i) hm)
 clear hw hp hm HM HSAY hv hf
 have HM := HM2
 clear HM2
 dsimp only [List.set] at HM
 go_wp2_with (first | (refine q9l ?_; first | (first | (refine q8a rfl _ rfl rfl HM (by exact q7m) (by exact q7w) ?_) | (refine q8b rfl _ rfl rfl HM (by exact q7m) (by exact q7w) ?_) | (refine q8c rfl _ rfl rfl HM (by exact q7m) (by exact q7w) (by with_reducible assumption) ?_) | (refine q8d rfl _ rfl rfl HM (by exact q7m) (by exact q7w) (by with_reducible assumption) ?_) | (refine q8c rfl _ rfl rfl HM (by exact q7m) (by exact q7w) (Lib.hid rfl) ?_) | (refine q8d rfl _ rfl rfl HM (by exact q7m) (by exact q7w) (Lib.hid rfl) ?_) | (refine q8e rfl _ rfl rfl HM (by exact q7m) (by exact q7w) ?_) | (refine q8f rfl _ rfl rfl HM (by exact q7m) (by exact q7w) ?_)) | (refine q8q rfl _ _ rfl rfl (by exact q7r) HM (by exact q7m) (by exact q7s) ?_) | (refine q8r rfl _ _ rfl rfl (by exact q7a) HM (by exact q7m) (by exact q7f) (by exact q7l) ?_)) | (refine q9s ?_; first | ((first | refine q8o rfl _ _ rfl rfl rfl HM (by exact q7i) (by exact q7w) (by exact q7w) ?_ | refine q8p rfl _ _ rfl rfl rfl HM (by exact q7i) (by exact q7w) (by exact q7w) ?_); clear HM; intro us HM; dsimp only [List.set] at HM) | ((first | refine q8j rfl _ _ rfl rfl rfl HM (by exact q7i) HSW (by exact q7l) ?_ | refine q8k rfl _ _ rfl rfl rfl HM (by exact q7i) HSW (by exact q7l) ?_ | refine q8l rfl _ _ rfl rfl rfl HM (by exact q7i) HSW ?_ | refine q8m rfl _ _ rfl rfl rfl HM (by exact q7i) HSW ?_ | refine q8n rfl _ _ rfl rfl rfl HM (by exact q7i) HSW (by with_reducible assumption) ?_); clear HM HSW; intro us HM HSW; dsimp only [List.set] at HM HSW) | (refine q8s rfl _ _ _ rfl rfl rfl (by exact q7r) HM (by exact q7i) (by exact q7s) (by exact q7s) (by exact q7o) ?_; clear HM; intro us HM; dsimp only [List.set] at HM)) | (refine q9b ?_; (first | (refine q8g rfl rfl ?_) | (refine q8h rfl _ rfl rfl ?_) | (refine q8i rfl _ rfl rfl (by exact q7w) ?_) | (refine q8v rfl _ rfl (by exact q7a) (by kernel_rfl) ?_))) | ((first | refine q9a ?_ | refine q9x ?_); ((first | refine q8t rfl _ _ rfl rfl HM ?_ | refine q8u rfl _ rfl rowSyn HM ?_ | refine q8u rfl _ rfl rowMou HM ?_ | refine q8u rfl _ rfl (by exact q7r) HM ?_); first | (have q:dV HM = 0:=rfl;clear q HM;intro g1 u1 HG1 HM) | (have q:dV HM = 1:=rfl;clear q HM;intro g2 u2 HG2 HM) | (have q:dV HM = 2:=rfl;clear q HM;intro g3 u3 HG3 HM) | (have q:dV HM = 3:=rfl;clear q HM;intro g4 u4 HG4 HM) | (have q:dV HM = 4:=rfl;clear q HM;intro g5 u5 HG5 HM) | (have q:dV HM = 5:=rfl;clear q HM;intro g6 u6 HG6 HM))))
 refine bodyPost_ret (v := .tuple #[.agg (syC s3), .agg (icells p), .int .i64 z]) (vres_css rfl _ rfl rfl rfl rowSyn (by exact q7r) HM (by exact q7m) (by exact q7m) (by exact q7z) (by exact q7s)) rfl ⟨by rw [HV.out], HM.out.1, HF.out⟩
theorem pfade_any (s : Sy) (b : Int) (w : World) (hs : Hid (SyW s)) (h1 : 1 ≤ b) (h2 : b ≤ 1000) (he : Edg w) :
  Calls Tryz.prog 15 #[.agg (syC s), .int .i64 b] w (DsQ w (fadeS s b)) := by
 have HM := Lib.hid (MV.start w)
 have HE := Lib.hid he
 have HSW := hs
 have LZ := Lib.hid (zr_length 16)
 have HSAY := Lib.hid (fun (u : World) (m gb : Nat) (h : Hid (MV w u [(m, 61, syC s)] u)) (hb : Hid (Blk u gb 3 #[.int .i64 b])) (hg : gb ≠ m) => say_any s (fadeS s b) 27 #[] #[.pointer (some ⟨m, 0, none⟩), .pointer (some ⟨gb, 0, none⟩)] (enters_of Tryz.func27 (by kernel_rfl) rfl) h hs fade_no (Lib.hid fun hk v hv => fade1_any s b (Lib.hid hv.base) hs hk h1 h2 (Lib.hid (hv.keep hb.out (fun e he => by
  rw [List.mem_singleton] at he
  subst he
  exact hg.symm))) hg (Lib.hid he)))
 unfold SayQ at HSAY
 clear he hs h1 h2
 go_enter Tryz.func15, Tryz.ntmps15
 go_wp2_with (first | (first | (refine q9l ?_; first | (first | (refine q8a rfl _ rfl rfl HM (by exact q7m) (by exact q7w) ?_) | (refine q8b rfl _ rfl rfl HM (by exact q7m) (by exact q7w) ?_) | (refine q8c rfl _ rfl rfl HM (by exact q7m) (by exact q7w) (by with_reducible assumption) ?_) | (refine q8d rfl _ rfl rfl HM (by exact q7m) (by exact q7w) (by with_reducible assumption) ?_) | (refine q8c rfl _ rfl rfl HM (by exact q7m) (by exact q7w) (Lib.hid rfl) ?_) | (refine q8d rfl _ rfl rfl HM (by exact q7m) (by exact q7w) (Lib.hid rfl) ?_) | (refine q8e rfl _ rfl rfl HM (by exact q7m) (by exact q7w) ?_) | (refine q8f rfl _ rfl rfl HM (by exact q7m) (by exact q7w) ?_)) | (refine q8q rfl _ _ rfl rfl (by exact q7r) HM (by exact q7m) (by exact q7s) ?_) | (refine q8r rfl _ _ rfl rfl (by exact q7a) HM (by exact q7m) (by exact q7f) (by exact q7l) ?_)) | (refine q9s ?_; first | ((first | refine q8o rfl _ _ rfl rfl rfl HM (by exact q7i) (by exact q7w) (by exact q7w) ?_ | refine q8p rfl _ _ rfl rfl rfl HM (by exact q7i) (by exact q7w) (by exact q7w) ?_); clear HM; intro us HM; dsimp only [List.set] at HM) | ((first | refine q8j rfl _ _ rfl rfl rfl HM (by exact q7i) HSW (by exact q7l) ?_ | refine q8k rfl _ _ rfl rfl rfl HM (by exact q7i) HSW (by exact q7l) ?_ | refine q8l rfl _ _ rfl rfl rfl HM (by exact q7i) HSW ?_ | refine q8m rfl _ _ rfl rfl rfl HM (by exact q7i) HSW ?_ | refine q8n rfl _ _ rfl rfl rfl HM (by exact q7i) HSW (by with_reducible assumption) ?_); clear HM HSW; intro us HM HSW; dsimp only [List.set] at HM HSW) | (refine q8s rfl _ _ _ rfl rfl rfl (by exact q7r) HM (by exact q7i) (by exact q7s) (by exact q7s) (by exact q7o) ?_; clear HM; intro us HM; dsimp only [List.set] at HM)) | (refine q9b ?_; (first | (refine q8g rfl rfl ?_) | (refine q8h rfl _ rfl rfl ?_) | (refine q8i rfl _ rfl rfl (by exact q7w) ?_) | (refine q8v rfl _ rfl (by exact q7a) (by kernel_rfl) ?_))) | ((first | refine q9a ?_ | refine q9x ?_); ((first | refine q8t rfl _ _ rfl rfl HM ?_ | refine q8u rfl _ rfl rowSyn HM ?_ | refine q8u rfl _ rfl rowMou HM ?_ | refine q8u rfl _ rfl (by exact q7r) HM ?_); first | (have q:dV HM = 0:=rfl;clear q HM;intro g1 u1 HG1 HM) | (have q:dV HM = 1:=rfl;clear q HM;intro g2 u2 HG2 HM) | (have q:dV HM = 2:=rfl;clear q HM;intro g3 u3 HG3 HM) | (have q:dV HM = 3:=rfl;clear q HM;intro g4 u4 HG4 HM) | (have q:dV HM = 4:=rfl;clear q HM;intro g5 u5 HG5 HM) | (have q:dV HM = 5:=rfl;clear q HM;intro g6 u6 HG6 HM)))) | (refine wv_boxV rfl _ _ rfl rfl rfl HM ?_; first | (have q:dV HM = 0:=rfl;clear q HM;intro g1 u1 HG1 HM) | (have q:dV HM = 1:=rfl;clear q HM;intro g2 u2 HG2 HM) | (have q:dV HM = 2:=rfl;clear q HM;intro g3 u3 HG3 HM) | (have q:dV HM = 3:=rfl;clear q HM;intro g4 u4 HG4 HM) | (have q:dV HM = 4:=rfl;clear q HM;intro g5 u5 HG5 HM) | (have q:dV HM = 5:=rfl;clear q HM;intro g6 u6 HG6 HM)))
 refine (HSAY.out _ g5 g2 (Lib.hid (HM.out.sub (by exact q7v))) (Lib.hid (HM.out.get (by exact q7m))) (by have h := HM.out.2.2.2.1; intro e; subst e; simp at h)).mono ?_
 rintro e w4 ⟨rfl, ⟨cs, hm⟩, hf⟩
 have HF := Lib.hid hf
 obtain ⟨s3, p, z, hw, hp, hv⟩ := dsV_form _ hf
 rw [hv]
 have HV := Lib.hid hv
 have HSW3 := Lib.hid hw
 have LP := Lib.hid hp
 have HM2 := Lib.hid (HM.out.after (by exact q7i) hm)
 clear hw hp hm HM HSAY hv hf
 have HM := HM2
 clear HM2
 dsimp only [List.set] at HM
 go_wp2_with (first | (refine q9l ?_; first | (first | (refine q8a rfl _ rfl rfl HM (by exact q7m) (by exact q7w) ?_) | (refine q8b rfl _ rfl rfl HM (by exact q7m) (by exact q7w) ?_) | (refine q8c rfl _ rfl rfl HM (by exact q7m) (by exact q7w) (by with_reducible assumption) ?_) | (refine q8d rfl _ rfl rfl HM (by exact q7m) (by exact q7w) (by with_reducible assumption) ?_) | (refine q8c rfl _ rfl rfl HM (by exact q7m) (by exact q7w) (Lib.hid rfl) ?_) | (refine q8d rfl _ rfl rfl HM (by exact q7m) (by exact q7w) (Lib.hid rfl) ?_) | (refine q8e rfl _ rfl rfl HM (by exact q7m) (by exact q7w) ?_) | (refine q8f rfl _ rfl rfl HM (by exact q7m) (by exact q7w) ?_)) | (refine q8q rfl _ _ rfl rfl (by exact q7r) HM (by exact q7m) (by exact q7s) ?_) | (refine q8r rfl _ _ rfl rfl (by exact q7a) HM (by exact q7m) (by exact q7f) (by exact q7l) ?_)) | (refine q9s ?_; first | ((first | refine q8o rfl _ _ rfl rfl rfl HM (by exact q7i) (by exact q7w) (by exact q7w) ?_ | refine q8p rfl _ _ rfl rfl rfl HM (by exact q7i) (by exact q7w) (by exact q7w) ?_); clear HM; intro us HM; dsimp only [List.set] at HM) | ((first | refine q8j rfl _ _ rfl rfl rfl HM (by exact q7i) HSW (by exact q7l) ?_ | refine q8k rfl _ _ rfl rfl rfl HM (by exact q7i) HSW (by exact q7l) ?_ | refine q8l rfl _ _ rfl rfl rfl HM (by exact q7i) HSW ?_ | refine q8m rfl _ _ rfl rfl rfl HM (by exact q7i) HSW ?_ | refine q8n rfl _ _ rfl rfl rfl HM (by exact q7i) HSW (by with_reducible assumption) ?_); clear HM HSW; intro us HM HSW; dsimp only [List.set] at HM HSW) | (refine q8s rfl _ _ _ rfl rfl rfl (by exact q7r) HM (by exact q7i) (by exact q7s) (by exact q7s) (by exact q7o) ?_; clear HM; intro us HM; dsimp only [List.set] at HM)) | (refine q9b ?_; (first | (refine q8g rfl rfl ?_) | (refine q8h rfl _ rfl rfl ?_) | (refine q8i rfl _ rfl rfl (by exact q7w) ?_) | (refine q8v rfl _ rfl (by exact q7a) (by kernel_rfl) ?_))) | ((first | refine q9a ?_ | refine q9x ?_); ((first | refine q8t rfl _ _ rfl rfl HM ?_ | refine q8u rfl _ rfl rowSyn HM ?_ | refine q8u rfl _ rfl rowMou HM ?_ | refine q8u rfl _ rfl (by exact q7r) HM ?_); first | (have q:dV HM = 0:=rfl;clear q HM;intro g1 u1 HG1 HM) | (have q:dV HM = 1:=rfl;clear q HM;intro g2 u2 HG2 HM) | (have q:dV HM = 2:=rfl;clear q HM;intro g3 u3 HG3 HM) | (have q:dV HM = 3:=rfl;clear q HM;intro g4 u4 HG4 HM) | (have q:dV HM = 4:=rfl;clear q HM;intro g5 u5 HG5 HM) | (have q:dV HM = 5:=rfl;clear q HM;intro g6 u6 HG6 HM))))
 refine bodyPost_ret (v := .tuple #[.agg (syC s3), .agg (icells p), .int .i64 z]) (vres_css rfl _ rfl rfl rfl rowSyn (by exact q7r) HM (by exact q7m) (by exact q7m) (by exact q7z) (by exact q7s)) rfl ⟨by rw [HV.out], HM.out.1, HF.out⟩
theorem prest_any (s : Sy) (w : World) (hs : Hid (SyW s)) (he : Edg w) :
  Calls Tryz.prog 21 #[.agg (syC s)] w (DsQ w (restS s)) := by
 have HM := Lib.hid (MV.start w)
 have HE := Lib.hid he
 have HSW := hs
 have LZ := Lib.hid (zr_length 16)
 have HSAY := Lib.hid (fun (u : World) (m : Nat) (h : Hid (MV w u [(m, 61, syC s)] u)) => say_any s (restS s) 39 #[.pointer (some ⟨m, 0, none⟩)] #[] (enters_of Tryz.func39 (by kernel_rfl) rfl) h hs rest_no (Lib.hid fun hk v hv => mrest_any s (Lib.hid hv.base) hs hk (Lib.hid he)))
 unfold SayQ at HSAY
 clear he hs
 go_enter Tryz.func21, Tryz.ntmps21
 go_wp2_with (first | (refine q9l ?_; first | (first | (refine q8a rfl _ rfl rfl HM (by exact q7m) (by exact q7w) ?_) | (refine q8b rfl _ rfl rfl HM (by exact q7m) (by exact q7w) ?_) | (refine q8c rfl _ rfl rfl HM (by exact q7m) (by exact q7w) (by with_reducible assumption) ?_) | (refine q8d rfl _ rfl rfl HM (by exact q7m) (by exact q7w) (by with_reducible assumption) ?_) | (refine q8c rfl _ rfl rfl HM (by exact q7m) (by exact q7w) (Lib.hid rfl) ?_) | (refine q8d rfl _ rfl rfl HM (by exact q7m) (by exact q7w) (Lib.hid rfl) ?_) | (refine q8e rfl _ rfl rfl HM (by exact q7m) (by exact q7w) ?_) | (refine q8f rfl _ rfl rfl HM (by exact q7m) (by exact q7w) ?_)) | (refine q8q rfl _ _ rfl rfl (by exact q7r) HM (by exact q7m) (by exact q7s) ?_) | (refine q8r rfl _ _ rfl rfl (by exact q7a) HM (by exact q7m) (by exact q7f) (by exact q7l) ?_)) | (refine q9s ?_; first | ((first | refine q8o rfl _ _ rfl rfl rfl HM (by exact q7i) (by exact q7w) (by exact q7w) ?_ | refine q8p rfl _ _ rfl rfl rfl HM (by exact q7i) (by exact q7w) (by exact q7w) ?_); clear HM; intro us HM; dsimp only [List.set] at HM) | ((first | refine q8j rfl _ _ rfl rfl rfl HM (by exact q7i) HSW (by exact q7l) ?_ | refine q8k rfl _ _ rfl rfl rfl HM (by exact q7i) HSW (by exact q7l) ?_ | refine q8l rfl _ _ rfl rfl rfl HM (by exact q7i) HSW ?_ | refine q8m rfl _ _ rfl rfl rfl HM (by exact q7i) HSW ?_ | refine q8n rfl _ _ rfl rfl rfl HM (by exact q7i) HSW (by with_reducible assumption) ?_); clear HM HSW; intro us HM HSW; dsimp only [List.set] at HM HSW) | (refine q8s rfl _ _ _ rfl rfl rfl (by exact q7r) HM (by exact q7i) (by exact q7s) (by exact q7s) (by exact q7o) ?_; clear HM; intro us HM; dsimp only [List.set] at HM)) | (refine q9b ?_; (first | (refine q8g rfl rfl ?_) | (refine q8h rfl _ rfl rfl ?_) | (refine q8i rfl _ rfl rfl (by exact q7w) ?_) | (refine q8v rfl _ rfl (by exact q7a) (by kernel_rfl) ?_))) | ((first | refine q9a ?_ | refine q9x ?_); ((first | refine q8t rfl _ _ rfl rfl HM ?_ | refine q8u rfl _ rfl rowSyn HM ?_ | refine q8u rfl _ rfl rowMou HM ?_ | refine q8u rfl _ rfl (by exact q7r) HM ?_); first | (have q:dV HM = 0:=rfl;clear q HM;intro g1 u1 HG1 HM) | (have q:dV HM = 1:=rfl;clear q HM;intro g2 u2 HG2 HM) | (have q:dV HM = 2:=rfl;clear q HM;intro g3 u3 HG3 HM) | (have q:dV HM = 3:=rfl;clear q HM;intro g4 u4 HG4 HM) | (have q:dV HM = 4:=rfl;clear q HM;intro g5 u5 HG5 HM))))
 refine (HSAY.out _ g4 (Lib.hid (HM.out.sub (by exact q7v)))).mono ?_
 rintro e w4 ⟨rfl, ⟨cs, hm⟩, hf⟩
 have HF := Lib.hid hf
 obtain ⟨s3, p, z, hw, hp, hv⟩ := dsV_form _ hf
 rw [hv]
 have HV := Lib.hid hv
 have HSW3 := Lib.hid hw
 have LP := Lib.hid hp
 have HM2 := Lib.hid (HM.out.after (by exact q7i) hm)
 clear hw hp hm HM HSAY hv hf
 have HM := HM2
 clear HM2
 dsimp only [List.set] at HM
 go_wp2_with (first | (refine q9l ?_; first | (first | (refine q8a rfl _ rfl rfl HM (by exact q7m) (by exact q7w) ?_) | (refine q8b rfl _ rfl rfl HM (by exact q7m) (by exact q7w) ?_) | (refine q8c rfl _ rfl rfl HM (by exact q7m) (by exact q7w) (by with_reducible assumption) ?_) | (refine q8d rfl _ rfl rfl HM (by exact q7m) (by exact q7w) (by with_reducible assumption) ?_) | (refine q8c rfl _ rfl rfl HM (by exact q7m) (by exact q7w) (Lib.hid rfl) ?_) | (refine q8d rfl _ rfl rfl HM (by exact q7m) (by exact q7w) (Lib.hid rfl) ?_) | (refine q8e rfl _ rfl rfl HM (by exact q7m) (by exact q7w) ?_) | (refine q8f rfl _ rfl rfl HM (by exact q7m) (by exact q7w) ?_)) | (refine q8q rfl _ _ rfl rfl (by exact q7r) HM (by exact q7m) (by exact q7s) ?_) | (refine q8r rfl _ _ rfl rfl (by exact q7a) HM (by exact q7m) (by exact q7f) (by exact q7l) ?_)) | (refine q9s ?_; first | ((first | refine q8o rfl _ _ rfl rfl rfl HM (by exact q7i) (by exact q7w) (by exact q7w) ?_ | refine q8p rfl _ _ rfl rfl rfl HM (by exact q7i) (by exact q7w) (by exact q7w) ?_); clear HM; intro us HM; dsimp only [List.set] at HM) | ((first | refine q8j rfl _ _ rfl rfl rfl HM (by exact q7i) HSW (by exact q7l) ?_ | refine q8k rfl _ _ rfl rfl rfl HM (by exact q7i) HSW (by exact q7l) ?_ | refine q8l rfl _ _ rfl rfl rfl HM (by exact q7i) HSW ?_ | refine q8m rfl _ _ rfl rfl rfl HM (by exact q7i) HSW ?_ | refine q8n rfl _ _ rfl rfl rfl HM (by exact q7i) HSW (by with_reducible assumption) ?_); clear HM HSW; intro us HM HSW; dsimp only [List.set] at HM HSW) | (refine q8s rfl _ _ _ rfl rfl rfl (by exact q7r) HM (by exact q7i) (by exact q7s) (by exact q7s) (by exact q7o) ?_; clear HM; intro us HM; dsimp only [List.set] at HM)) | (refine q9b ?_; (first | (refine q8g rfl rfl ?_) | (refine q8h rfl _ rfl rfl ?_) | (refine q8i rfl _ rfl rfl (by exact q7w) ?_) | (refine q8v rfl _ rfl (by exact q7a) (by kernel_rfl) ?_))) | ((first | refine q9a ?_ | refine q9x ?_); ((first | refine q8t rfl _ _ rfl rfl HM ?_ | refine q8u rfl _ rfl rowSyn HM ?_ | refine q8u rfl _ rfl rowMou HM ?_ | refine q8u rfl _ rfl (by exact q7r) HM ?_); first | (have q:dV HM = 0:=rfl;clear q HM;intro g1 u1 HG1 HM) | (have q:dV HM = 1:=rfl;clear q HM;intro g2 u2 HG2 HM) | (have q:dV HM = 2:=rfl;clear q HM;intro g3 u3 HG3 HM) | (have q:dV HM = 3:=rfl;clear q HM;intro g4 u4 HG4 HM) | (have q:dV HM = 4:=rfl;clear q HM;intro g5 u5 HG5 HM))))
 refine bodyPost_ret (v := .tuple #[.agg (syC s3), .agg (icells p), .int .i64 z]) (vres_css rfl _ rfl rfl rfl rowSyn (by exact q7r) HM (by exact q7m) (by exact q7m) (by exact q7z) (by exact q7s)) rfl ⟨by rw [HV.out], HM.out.1, HF.out⟩
end Go.Proofs.YtkcoboamejefiaaGreatDoor.Lp
namespace Go.Proofs.YtkcoboamejefiaaGreatDoor.Lp
open Go.RowKit Fx Fq Tb
structure Bts where
 A : Option Addr
 n : Nat
 c : Nat
 bs : List Nat
def RdBB (w : World) (AL : Option Addr) (n : Nat) (ls : List Bts) : Prop :=
 ls.length = n ∧ (0 < n → ∃ L, AL = some L ∧ ∀ j x, ls[j]? = some x → w.cell? (L.add j) = some (.slice x.A x.n x.c) ∧ Rd w x.A x.n x.bs)
theorem RdBB.keep {w w' : World} {AL : Option Addr} {n : Nat} {ls : List Bts} (h : RdBB w AL n ls) (hb : Below w.heap.size w w') : RdBB w' AL n ls := by
 refine ⟨h.1, fun hn => ?_⟩
 obtain ⟨L, e, hc⟩ := h.2 hn
 refine ⟨L, e, fun j x hx => ?_⟩
 obtain ⟨h1, h3⟩ := hc j x hx
 exact ⟨(hb.cell (World.block_lt_of_cell? _ _ h1)).trans h1, h3.below hb⟩
theorem RdBB.at_ {w : World} {AL : Option Addr} {n k : Nat} {ls : List Bts} (h : RdBB w AL n ls) (hk : k < n) : ∃ L x, AL = some L ∧ ls[k]? = some x ∧ w.cell? (L.add k) = some (.slice x.A x.n x.c) ∧ Rd w x.A x.n x.bs := by
 obtain ⟨L, e, hc⟩ := h.2 (by omega)
 have hl : k < ls.length := by have := h.1; omega
 have hx : ls[k]? = some ls[k] := List.getElem?_eq_getElem hl
 obtain ⟨h1, h2⟩ := hc k _ hx
 exact ⟨L, ls[k], e, hx, h1, h2⟩
def fewB (ls : List Bts) : Bool := ls.all (fun x => decide (x.n ≤ 300)) && decide (ls.length ≤ 30)
theorem fewB_no {ls : List Bts} {k : Nat} {x : Bts} (hx : ls[k]? = some x) (h : ¬ x.n ≤ 300) : fewB ls = false := by
 unfold fewB
 rw [Bool.and_eq_false_iff]
 refine .inl ?_
 rw [Bool.eq_false_iff]
 intro ha
 rw [List.all_eq_true] at ha
 exact h (of_decide_eq_true (ha x (List.mem_of_getElem? hx)))
theorem fewB_all {ls : List Bts} (h : ∀ j x, j < ls.length → ls[j]? = some x → x.n ≤ 300) : fewB ls = decide (ls.length ≤ 30) := by
 unfold fewB
 rw [show ls.all (fun x => decide (x.n ≤ 300)) = true by
  rw [List.all_eq_true]
  intro x hx
  obtain ⟨j, hj⟩ := List.mem_iff_getElem?.1 hx
  exact decide_eq_true (h j x (List.getElem?_eq_some_iff.1 hj).1 hj), Bool.true_and]
theorem fewB_iff {ls : List Bts} (h : fewB ls = true) : ls.length ≤ 30 ∧ ∀ x ∈ ls, x.n ≤ 300 := by
 unfold fewB at h
 rw [Bool.and_eq_true, List.all_eq_true] at h
 exact ⟨of_decide_eq_true h.2, fun x hx => of_decide_eq_true (h.1 x hx)⟩
theorem dfew_any (AL : Option Addr) (n cap : Nat) (ls : List Bts) (b : Bool) (w : World) (h : Hid (RdBB w AL n ls)) (hn : n ≤ maxLen) (hb : fewB ls = b) :
  Calls Tryz.prog 10 #[.slice AL n cap] w (ValQ w (.bool b)) := by
 have HB := Lib.hid hb
 have h1 : n ≤ 9223372036854775807 := by unfold maxLen at hn; omega
 clear hb hn
 go_enter Tryz.func10, Tryz.ntmps10
 go_wp2_with fail
 go_loop [4, 7] (fun _ vi => ∃ k : Nat, vi = .int .i64 (k : Int) ∧ k ≤ n ∧ Hid (∀ j x, j < k → ls[j]? = some x → x.n ≤ 300)) (fun _ vi => n - (intOf vi).toNat)
 case atStart => exact ⟨0, rfl, by omega, Lib.hid (fun j x hj => by omega)⟩
 case round =>
  obtain ⟨k, rfl, hk, HK⟩ := hrel
  by_cases hlt : k < n
  ·have kn : (k : Int) < (n : Int) := by omega
   obtain ⟨L, x, rfl, hx, x0, -⟩ := h.out.at_ hlt
   have HX := Lib.hid hx
   clear hx
   by_cases h3 : x.n ≤ 300
   ·have d1 : ¬ (300 : Int) < (x.n : Int) := by omega
    go_wp2_with fail
    go_round
    case rel =>
     refine ⟨k + 1, by go_num, by omega, Lib.hid fun j y hj hy => ?_⟩
     by_cases hjk : j < k
     ·exact HK.out j y hjk hy
     ·obtain rfl : j = k := by omega
      rw [HX.out] at hy
      injection hy with hy
      rw [← hy]; exact h3
    case measure => simp [intOf]; omega
   ·have d1 : (300 : Int) < (x.n : Int) := by omega
    obtain rfl : b = false := by rw [← HB.out]; exact fewB_no HX.out h3
    go_wp2_with fail
    go_ret
    exact ⟨rfl, Below.refl _ _⟩
  ·obtain rfl : k = n := by omega
   have hlen := h.out.1
   have e : b = decide (k ≤ 30) := by rw [← HB.out, fewB_all (fun j x hj hx => HK.out j x (by omega) hx), hlen]
   by_cases h3 : k ≤ 30
   ·have d1 : decide ((k : Int) ≤ 30) = true := decide_eq_true (by omega)
    obtain rfl : b = true := by rw [e]; exact decide_eq_true h3
    clear e hlen h3 HB HK
    go_wp2_with fail
    go_ret
    exact ⟨rfl, Below.refl _ _⟩
   ·have d1 : decide ((k : Int) ≤ 30) = false := decide_eq_false (by omega)
    obtain rfl : b = false := by rw [e]; exact decide_eq_false h3
    clear e hlen h3 HB HK
    go_wp2_with fail
    go_ret
    exact ⟨rfl, Below.refl _ _⟩
end Go.Proofs.YtkcoboamejefiaaGreatDoor.Lp
namespace Go.Proofs.YtkcoboamejefiaaGreatDoor.Lp
open Go.RowKit Fx Fq Tb
theorem aggBl (w : World) : (isAgg 4).run Tryz.prog w = .ok false w := by kernel_rfl
theorem aggUl (w : World) : (isAgg 26).run Tryz.prog w = .ok false w := by kernel_rfl
theorem part_cell {T : TypeId} (hg : ∀ w, (isAgg T).run Tryz.prog w = .ok false w) {xs : Array Value} {o : Nat} {v : Value} {w : World} (h : xs[o]? = some v) : (part T xs o).run Tryz.prog w = .ok v w := by
 simp only [part, Sem.run_bind, hg, Result.andThen_ok, Bool.false_eq_true, if_false, h, Sem.run_pure]
theorem extract_at {xs : Array Value} {o n : Nat} {ds : List Value} (hl : ds.length = n) (h : ∀ j v, ds[j]? = some v → xs[o + j]? = some v) : xs.extract o (o + n) = ds.toArray := by
 have hfit : o + n ≤ xs.size ∨ n = 0 := by
  rcases Nat.eq_zero_or_pos n with hn | hn
  ·exact .inr hn
  ·have h1 : ds[n - 1]? = some ds[n - 1] := List.getElem?_eq_getElem (by omega)
   have := (Array.getElem?_eq_some_iff.1 (h _ _ h1)).1
   exact .inl (by omega)
 refine Array.ext_getElem? fun j => ?_
 have hd : ds.toArray[j]? = ds[j]? := by simp
 rw [Array.getElem?_extract, hd]
 have hm := Nat.min_le_left (o + n) xs.size
 by_cases hj : j < n
 ·have h1 : ds[j]? = some ds[j] := List.getElem?_eq_getElem (by omega)
  rcases hfit with hf | hf
  ·have hq : j < min (o + n) xs.size - o := by rw [Nat.min_eq_left hf]; omega
   rw [if_pos hq, h _ _ h1, h1]
  ·omega
 ·rw [List.getElem?_eq_none (by omega)]
  split
  ·rename_i h2; omega
  ·rfl
theorem part_mid {T : TypeId} {n : Nat} (hT : Arr T n) {xs : Array Value} {ys : List Int} {o : Nat} {w : World} (hl : ys.length = n) (h : ∀ j v, (icl ys)[j]? = some v → xs[o + j]? = some v) : (part T xs o).run Tryz.prog w = .ok (.agg (icells ys)) w := by
 obtain ⟨d, h1, h2⟩ := hT.1
 have ha : (isAgg T).run Tryz.prog w = .ok true w := by
  simp only [isAgg, Sem.run_bind, run_underlying h1, Result.andThen_ok]
  cases d <;> first | rfl | cases h2
 have hs : (sizeOf T).run Tryz.prog w = .ok n w := by
  have hz := hT.size
  cases hq : Tryz.prog.info? T with
  | none => rw [hq] at hz; cases hz
  | some i =>
   rw [hq] at hz
   injection hz with hz
   rw [run_sizeOf w hq]
   unfold Program.cellsOf
   rw [hq]
   simp [hz]
 have he : xs.extract o (o + n) = icells ys := extract_at (ds := icl ys) ((icl_length ys).trans hl) h
 simp only [part, Sem.run_bind, ha, Result.andThen_ok, if_true, hs, Sem.run_pure, he]
theorem flds_syn : (Tryz.prog.fieldsOf 28).toList.map (fun f => (f.name, f.type, f.offset)) = [("T", 23, 0), ("L", 25, 16), ("Live", 4, 22), ("Hush", 4, 23), ("Seed", 26, 24)] := by kernel_rfl
theorem und_syn : Tryz.prog.underlying 28 = some (.struct (Tryz.prog.fieldsOf 28)) := by kernel_rfl
theorem held_syn : Tryz.prog.stoodInHeld 28 = false := by kernel_rfl
theorem run_eq_sy {s t : Sy} (hs : SyW s) (ht : SyW t) (w : World) :
  (Op.equalIn 10000 28 (.agg (syC s)) (.agg (syC t))).run Tryz.prog w = .ok (decide (s.t = t.t) && (decide (s.l = t.l) && (decide (s.live = t.live) && (decide (s.hush = t.hush) && decide (s.seed = t.seed))))) w := by
 have hU : Tryz.prog.underlying 26 = some (.int .u32) := by kernel_rfl
 have hB : Tryz.prog.underlying 4 = some .bool := by kernel_rfl
 have h5 := run_equalIn_int (P := Tryz.prog) w 9998 26 .u32 .u32 s.seed t.seed hU
 rw [show (s.seed == t.seed) = decide (s.seed = t.seed) from rfl] at h5
 have hbb : ∀ a b : Bool, (Op.equalIn 9999 4 (.bool a) (.bool b)).run Tryz.prog w = .ok (decide (a = b)) w := fun a b => by cases a <;> cases b <;> kernel_rfl
 rw [run_equalIn_struct w 9999 28 (syC s) (syC t) und_syn held_syn]
 exact eq_five flds_syn (part_mid arrTail hs.lt (syC_t s)) (part_mid arrTail ht.lt (syC_t t)) (run_eqL 9997 23 (n := 16) (by kernel_rfl) s.t t.t hs.lt ht.lt w)
  (part_mid arrLev hs.ll (syC_l hs)) (part_mid arrLev ht.ll (syC_l ht)) (run_eqL 9997 25 (n := 6) (by kernel_rfl) s.l t.l hs.ll ht.ll w)
  (part_cell aggBl (syC_e hs (k := 0) rfl)) (part_cell aggBl (syC_e ht (k := 0) rfl)) (hbb _ _)
  (part_cell aggBl (syC_e hs (k := 1) rfl)) (part_cell aggBl (syC_e ht (k := 1) rfl)) (hbb _ _)
  (part_cell aggUl (syC_e hs (k := 2) rfl)) (part_cell aggUl (syC_e ht (k := 2) rfl)) h5
theorem run_same_sy {s : Sy} (hs : SyW s) (w : World) : (Op.equalIn 10000 28 (.agg (syC s)) (.agg (syC s))).run Tryz.prog w = .ok true w := by
 have h := run_eq_sy hs hs w
 simp only [decide_true, Bool.and_self] at h
 exact h
end Go.Proofs.YtkcoboamejefiaaGreatDoor.Lp
namespace Go.Proofs.YtkcoboamejefiaaGreatDoor.Lp
open Go.ChangeShapes Go.WideShapes Go.ChangeAt Go.RowKit Go.Joins Go.Deep Fq Tb
section
variable {H : Type} {enc : TypeId × Value → H} {W : World} {base : Nat} {spare : Nat → Bool} {held : Bool}
theorem cells_tail : Tryz.prog.cellsOf 23 = 16 := by kernel_rfl
theorem cells_bool1 : Tryz.prog.cellsOf 4 = 1 := by kernel_rfl
theorem cells_u321 : Tryz.prog.cellsOf 26 = 1 := by kernel_rfl
theorem cells_syn : Tryz.prog.cellsOf 28 = 25 := by kernel_rfl
set_option maxRecDepth 20000 in
theorem open_sy {b0 : Nat} {r : Reach} {v : Value} {d : DataW H} {p : List MemPlace} (hv : Value.okWide Tryz.prog W r b0 28 v) (h : DataW.Trod enc Tryz.prog W base spare held 28 v d p) : ∃ s : Sy, v = .agg (syC s) ∧ SyW s := by
 obtain ⟨cs, rfl, hsz⟩ : ∃ cs, v = .agg cs ∧ cs.size = 25 := by
  simp only [Value.okWide, und_syn] at hv
  obtain ⟨cs, h1, h2, _⟩ := hv
  exact ⟨cs, h1, by rw [h2, cells_syn]⟩
 obtain ⟨fuel, hf⟩ := h
 obtain ⟨xs, m, rfl, _, _, hn, hel⟩ := DataW.trod_struct und_syn hf
 have hfl := flds_syn
 generalize Tryz.prog.fieldsOf 28 = fs at hel hn hfl
 obtain ⟨f1, s1, e0, e1, hfl⟩ := List.map_eq_cons_iff.1 hfl
 obtain ⟨f2, s2, rfl, e2, hfl⟩ := List.map_eq_cons_iff.1 hfl
 obtain ⟨f3, s3, rfl, e3, hfl⟩ := List.map_eq_cons_iff.1 hfl
 obtain ⟨f4, s4, rfl, e4, hfl⟩ := List.map_eq_cons_iff.1 hfl
 obtain ⟨f5, s5, rfl, e5, hfl⟩ := List.map_eq_cons_iff.1 hfl
 obtain rfl := List.map_eq_nil_iff.1 hfl
 simp only [Prod.mk.injEq] at e1 e2 e3 e4 e5
 have hl5 : fs.size = 5 := by rw [← Array.length_toList, e0]; rfl
 have g1 : fs[0]? = some f1 := by rw [← Array.getElem?_toList, e0]; rfl
 have g2 : fs[1]? = some f2 := by rw [← Array.getElem?_toList, e0]; rfl
 have g3 : fs[2]? = some f3 := by rw [← Array.getElem?_toList, e0]; rfl
 have g4 : fs[3]? = some f4 := by rw [← Array.getElem?_toList, e0]; rfl
 have g5 : fs[4]? = some f5 := by rw [← Array.getElem?_toList, e0]; rfl
 have h1 := hel 0 f1 g1
 have h2 := hel 1 f2 g2
 have h3 := hel 2 f3 g3
 have h4 := hel 3 f4 g4
 have h5 := hel 4 f5 g5
 rw [e1.2.1, e1.2.2, cells_tail, List.getElem?_eq_getElem (by omega)] at h1
 rw [e2.2.1, e2.2.2, cells_lev, List.getElem?_eq_getElem (by omega)] at h2
 rw [e3.2.1, e3.2.2, cells_bool1, List.getElem?_eq_getElem (by omega)] at h3
 rw [e4.2.1, e4.2.2, cells_bool1, List.getElem?_eq_getElem (by omega)] at h4
 rw [e5.2.1, e5.2.2, cells_u321, List.getElem?_eq_getElem (by omega)] at h5
 simp only [Value.cells] at h1 h2 h3 h4 h5
 have hcl : cs.toList.length = 25 := by rw [Array.length_toList, hsz]
 obtain ⟨l1, hl1, q1⟩ := trod_ints (n := 16) (by kernel_rfl) h1 (by rw [List.length_take, List.length_drop, hcl]; rfl)
 obtain ⟨l2, hl2, q2⟩ := trod_ints (n := 6) (by kernel_rfl) h2 (by rw [List.length_take, List.length_drop, hcl]; rfl)
 obtain ⟨b3, q3, _⟩ := DataW.trod_bool (by kernel_rfl) h3
 obtain ⟨b4, q4, _⟩ := DataW.trod_bool (by kernel_rfl) h4
 obtain ⟨z, q5, _, hw⟩ := DataW.trod_int (k := .u32) (by kernel_rfl) h5
 have hz := bounds_u32 hw
 have e : cs.toList = icl l1 ++ (icl l2 ++ endL ⟨l1, l2, b3, b4, z⟩) := by
  unfold icl endL
  rw [← q1, ← q2]
  have a2 : cs.toList.drop 16 = (cs.toList.drop 16).take 6 ++ (cs.toList.drop 16).drop 6 := (List.take_append_drop 6 _).symm
  have a3 : cs.toList.drop 22 = (cs.toList.drop 22).take 1 ++ (cs.toList.drop 22).drop 1 := (List.take_append_drop 1 _).symm
  have a4 : cs.toList.drop 23 = (cs.toList.drop 23).take 1 ++ (cs.toList.drop 23).drop 1 := (List.take_append_drop 1 _).symm
  have a5 : (cs.toList.drop 24).take 1 = cs.toList.drop 24 := List.take_of_length_le (by rw [List.length_drop, hcl]; omega)
  rw [List.drop_drop] at a2 a3 a4
  rw [q3] at a3
  rw [q4] at a4
  rw [q5] at a5
  conv => lhs; rw [← List.take_append_drop 16 cs.toList, a2, show (16 + 6 : Nat) = 22 from rfl, a3, show (22 + 1 : Nat) = 23 from rfl, a4, show (23 + 1 : Nat) = 24 from rfl, ← a5]
  simp
 refine ⟨⟨l1, l2, b3, b4, z⟩, ?_, ⟨hl1, hl2, by show 0 ≤ z ∧ z < 4294967296; omega⟩⟩
 unfold syC
 rw [← e]
theorem list_bts {n : Nat} {P : Nat → Bts → Prop} (h : ∀ i, i < n → ∃ x, P i x) : ∃ xs : List Bts, xs.length = n ∧ ∀ i x, xs[i]? = some x → P i x := by
 induction n with
 | zero => exact ⟨[], rfl, fun i x hx => by simp at hx⟩
 | succ n ih =>
  obtain ⟨xs, hl, hp⟩ := ih fun i hi => h i (by omega)
  obtain ⟨y, hy⟩ := h n (by omega)
  refine ⟨xs ++ [y], by simp [hl], fun i x hx => ?_⟩
  rcases Nat.lt_or_ge i xs.length with hi | hi
  ·rw [List.getElem?_append_left hi] at hx
   exact hp i x hx
  ·have hi2 := (List.getElem?_eq_some_iff.1 hx).1
   rw [List.length_append, List.length_singleton] at hi2
   obtain rfl : i = n := by omega
   rw [List.getElem?_append_right hi, show i - xs.length = 0 by omega] at hx
   simp only [List.getElem?_cons_zero, Option.some.injEq] at hx
   subst hx
   exact hy
theorem cells_sl8 : Tryz.prog.cellsOf 40 = 1 := by kernel_rfl
theorem open_bb {b0 : Nat} {r : Reach} {v : Value} {d : DataW H} {p : List MemPlace} (hv : Value.okWide Tryz.prog W r b0 29 v) (h : DataW.Trod enc Tryz.prog W base spare held 29 v d p) :
  ∃ AL n c ls, v = .slice AL n c ∧ RdBB W AL n ls ∧ n ≤ maxLen := by
 obtain ⟨a0, len0, cap0, rfl⟩ := okWide_slice Tryz.underlying29 hv
 obtain ⟨fuel, hf⟩ := h
 rcases open_slice Tryz.underlying29 hf with ⟨e, _⟩ | ⟨a, len, cap, m, k, D, Pl, e, _, hl, hm, hmm, _, hi⟩
 ·simp only [Value.cells, List.cons.injEq, and_true] at e
  exact ⟨none, 0, 0, [], by simpa using e, ⟨rfl, fun h => by omega⟩, by unfold maxLen; omega⟩
 ·simp only [Value.cells, List.cons.injEq, and_true] at e
  have hlm : len ≤ m := by rw [hmm]; split <;> omega
  rw [cells_sl8] at hi
  obtain ⟨xs, hxl, hxs⟩ := list_bts (n := len) (P := fun i x => W.cell? (a.add i) = some (.slice x.A x.n x.c) ∧ Rd W x.A x.n x.bs) (fun i hi' => by
   obtain ⟨cs', hc, ht⟩ := hi i (by omega)
   rw [Nat.mul_one] at hc
   obtain ⟨hlen, _, hat⟩ := World.cells?_some hc
   match cs', hlen with
   | [c0], _ =>
    obtain ⟨A, n, c, bs, rfl, hr, _⟩ := open_bytes ht
    have c0 := hat 0 (by omega)
    refine ⟨⟨A, n, c, bs⟩, ?_, hr⟩
    exact c0)
  exact ⟨some a, len, cap, xs, by simpa using e, ⟨hxl, fun _ => ⟨a, rfl, hxs⟩⟩, by omega⟩
end
end Go.Proofs.YtkcoboamejefiaaGreatDoor.Lp
namespace Go.Proofs.YtkcoboamejefiaaGreatDoor.Lp
open Go.RowKit Fx Fq Tb
open Yr (rdR rd_one rd_back Fr chkB chkB_iff gsR_len rdR_gs gsR_parts wrB symsP headP lvP inB kindR)
theorem symsP_free {K : Int} (h : K ≠ 1) (l q p p' : List Int) : symsP K l q p = symsP K l q p' := by
 unfold symsP headP lvP
 simp only [if_neg h]
theorem wrB_free {K : Int} (h : K ≠ 1) (l q p p' : List Int) : wrB K l q p = wrB K l q p' := by
 unfold wrB
 rw [symsP_free h l q p p']
theorem fr_free {K : Int} {l q p p' : List Int} (hK : K ≠ 1) (h : Fr K l q p) (hp : chkL p' = true) : Fr K l q p' :=
 ⟨h.kind, h.lev, hp, fun e => absurd e hK, h.sid, h.may⟩
theorem read_free {K : Int} {l q p p' : List Int} (hK : K ≠ 1) (h : Fr K l q p) (ll : l.length = 6) (lq : q.length = 16) (hp : chkL p' = true) : rdR (wrB K l q p) p' = some (K, l, q) := by
 rw [wrB_free hK l q p p']
 exact rd_back (fr_free hK h hp) ll lq
structure EqS (a b : Sy) : Prop where
 t : a.t = b.t
 l : a.l = b.l
 live : a.live = b.live
 hush : a.hush = b.hush
theorem EqS.ok {a b : Sy} (h : EqS a b) : okSy a = okSy b := by unfold okSy; rw [h.t, h.l, h.live, h.hush]
theorem EqS.seed {a b : Sy} (h : EqS a b) : { a with seed := b.seed } = b := by
 obtain ⟨h1, h2, h3, h4⟩ := h
 cases a
 cases b
 simp only at h1 h2 h3 h4
 subst h1 h2 h3 h4
 rfl
theorem fresh_one {a b : Sy} {l q p : List Int} (ha : okSy a = true) (hb : okSy b = true) (h : Fr 0 l q p) (ll : l.length = 6) (lq : q.length = 16) :
  ∃ s t pa pb, stepS a (wrB 0 l q p) = .ok (s, pa) ∧ stepS b (wrB 0 l q p) = .ok (t, pb) ∧ EqS s t ∧ s.live = true := by
 have h1 := read_free (by decide) h ll lq (okSy_iff.1 ha).2.1
 have h2 := read_free (by decide) h ll lq (okSy_iff.1 hb).2.1
 unfold stepS
 rw [if_pos ha, if_pos hb, h1, h2]
 exact ⟨_, _, _, _, rfl, rfl, ⟨rfl, rfl, rfl, rfl⟩, rfl⟩
theorem fresh_next {s t : Sy} {K : Int} {l q : List Int} (he : EqS s t) (hs : okSy s = true) (hv : s.live = true) (hK : K ≠ 2) (h : Fr K l q s.l) (ll : l.length = 6) (lq : q.length = 16) :
  ∃ s' t' p, stepS s (wrB K l q s.l) = .ok (s', p) ∧ stepS t (wrB K l q s.l) = .ok (t', p) ∧ EqS s' t' ∧ s'.live = true := by
 have h1 := rd_back h ll lq
 have ht : okSy t = true := he.ok ▸ hs
 unfold stepS
 rw [if_pos hs, if_pos ht, ← he.l, h1]
 dsimp only
 rw [if_neg (by rw [hv]; simp), if_neg hK, if_neg (by rw [← he.live, hv]; simp), if_neg hK]
 exact ⟨_, (sndS { t with l := l, live := true, hush := false } (greatL q l)).1, _, rfl, by unfold sndS; rw [← he.t], ⟨rfl, rfl, rfl, rfl⟩, rfl⟩
theorem sumZ (f : Nat → Int) : ∀ n : Nat, (∀ k, k < n → f k = 0) → sumN f n = 0
 | 0, _ => rfl
 | n + 1, h => by rw [sumN_succ, sumZ f n fun k hk => h k (by omega), h n (by omega)]; rfl
theorem inv_zr : invL (zr 16) = zr 32 := by
 refine Eq.trans (tab_congr fun n _ => ?_) (tab_zero 32)
 unfold inv
 rw [show mixN (zr 16) n = 0 from sumZ _ 16 fun k _ => by rw [zr_getD, Int.zero_mul], round20]
 rw [show (0 : Int) / 1048576 + 0 / 524288 % 2 = 0 by decide, Int.zero_mul, round27]
 rfl
theorem left_zr : leftL (zr 32) = zr 16 := Eq.trans (tab_congr fun _ _ => zr_getD _ _) (tab_zero 16)
theorem lap_zr : lapL (zr 16) (zr 32) = zr 16 := by decide +kernel
theorem noise_zr (t : Int) : noiseL t (zr 6) = zr 16 := by
 unfold noiseL
 rw [← tab_zero 16]
 exact tab_congr fun i _ => by rw [noiseF_is, zr_getD, if_neg (by decide)]
theorem snd_zr (s : Sy) : sndS s (zr 16) = ({ s with t := zr 16 }, lapL s.t (zr 32)) := by
 unfold sndS
 rw [inv_zr, left_zr]
def LowL (n : Nat) (l : List Int) : Prop := ∀ k, k < 6 → 0 ≤ l.getD k 0 ∧ l.getD k 0 ≤ max 0 (255 - 16 * (n : Int))
theorem low_zero {l : List Int} (h : chkL l = true) (hl : l.length = 6) : LowL 0 l := fun k hk => by
 have := (inR_iff hl).1 (show inR 0 255 l = true from h) k hk
 omega
theorem low_next {l : List Int} {n : Nat} {b : Int} (h : LowL n l) (hb : 16 ≤ b) : LowL (n + 1) (fadL b l) := fun k hk => by
 have := h k hk
 rw [fad_get]
 unfold fadN
 split <;> omega
theorem low_end {l : List Int} {n : Nat} (h : LowL n l) (hn : 16 ≤ n) (hl : l.length = 6) : l = zr 6 := by
 rw [← tab_self hl, ← tab_zero 6]
 exact tab_congr fun k hk => by have := h k hk; omega
theorem fad_six {l : List Int} {b : Int} (h : chkL l = true) (hl : l.length = 6) (hb : 16 ≤ b) (hb2 : b ≤ 255) {k : Nat} (hk : k < 6) : (fadL b l).getD k 0 = max 0 (l.getD k 0 - b) := by
 have := (inR_iff hl).1 (show inR 0 255 l = true from h) k hk
 rw [fad_get]
 unfold fadN
 split <;> omega
structure Fading (n : Nat) (s : Sy) : Prop where
 ok : okSy s = true
 w : SyW s
 low : LowL n s.l
 tail : 16 ≤ n → s.t = zr 16
theorem fading_next {n : Nat} {s : Sy} {b : Int} (h : Fading n s) (hb : 16 ≤ b) : ∃ s' p, fadeS s b = .ok (s', p) ∧ Fading (n + 1) s' ∧ s'.live = false ∧ s'.hush = s.hush ∧ s'.l = fadL b s.l ∧ p.length = 16 := by
 have h1 : fadeS s b = .ok (hisS { s with l := fadL b s.l, live := false }) := by unfold fadeS; rw [if_pos ⟨h.ok, by omega⟩]
 obtain ⟨s', p, e⟩ : ∃ s' p, hisS { s with l := fadL b s.l, live := false } = (s', p) := ⟨_, _, rfl⟩
 rw [e] at h1
 obtain ⟨-, -, a3, -, a5, a6, a7, a8, a9⟩ := fade_ok h.w h1
 refine ⟨s', p, h1, ⟨a3, a5, by rw [a9]; exact low_next h.low hb, fun hn => ?_⟩, a7, a8, a9, a6⟩
 have hz := low_end (low_next h.low hb) hn ((fad_len _ _).trans h.w.ll)
 have e2 : s' = (hisS { s with l := fadL b s.l, live := false }).1 := by rw [e]
 rw [e2, hz]
 unfold hisS
 dsimp only
 rw [noise_zr, snd_zr]
theorem fading_end {n : Nat} {s : Sy} {b : Int} (h : Fading n s) (hn : 16 ≤ n) (hb : 16 ≤ b) : ∃ s', fadeS s b = .ok (s', zr 16) ∧ s'.t = zr 16 ∧ s'.l = zr 6 ∧ SyW s' := by
 have h1 : fadeS s b = .ok (hisS { s with l := fadL b s.l, live := false }) := by unfold fadeS; rw [if_pos ⟨h.ok, by omega⟩]
 have hz := low_end (low_next h.low hb) (by omega) ((fad_len _ _).trans h.w.ll)
 have ht := h.tail hn
 have e : hisS { s with l := fadL b s.l, live := false } = ({ s with t := zr 16, l := zr 6, live := false, seed := seedN s.seed 16 }, zr 16) := by
  rw [hz]
  unfold hisS
  dsimp only
  rw [noise_zr, snd_zr]
  dsimp only
  rw [ht, lap_zr]
 rw [e] at h1
 exact ⟨_, h1, rfl, rfl, ⟨zr_length 16, zr_length 6, seedN_bd h.w.sd 16⟩⟩
theorem no_change {s s' : Sy} {p : List Int} {bs : List Nat} (hv : s.live = false) (hk : kindR (inB bs) = 1) : stepS s bs ≠ .ok (s', p) := by
 intro h
 unfold stepS at h
 split at h
 ·cases hr : rdR bs s.l with
  | none => rw [hr] at h; cases h
  | some x =>
   obtain ⟨K, l, q⟩ := x
   rw [hr] at h
   have hK : K = 1 := (gsR_parts (rdR_gs hr)).1.trans hk
   dsimp only at h
   rw [if_pos ⟨hK, hv⟩] at h
   cases h
 ·cases h
theorem rest_plain {s : Sy} (hc : okSy s = true) (hh : s.hush = false) : restS s = .ok ({ s with t := zr 16, live := false }, lapL s.t (zr 32)) := by
 unfold restS
 rw [if_pos hc, if_neg (by rw [hh]; exact Bool.false_ne_true), snd_zr]
theorem next_ok {s s' : Sy} {p : List Int} {bs : List Nat} (hs : SyW s) (h : nextD s bs = .ok (s', p)) : okSy s' = true ∧ SyW s' ∧ okP p = true ∧ p.length = 16 := by
 unfold nextD at h
 split at h
 ·obtain ⟨-, a, b, c, d, -⟩ := rest_ok hs h
  exact ⟨a, c, b, d⟩
 ·obtain ⟨-, a, b, c, d, -⟩ := step_ok hs h
  exact ⟨a, c, b, d⟩
end Go.Proofs.YtkcoboamejefiaaGreatDoor.Lp
namespace Go.Proofs.YtkcoboamejefiaaGreatDoor.Lp
open Go.RowKit Fx Fq Tb
open Yr (rdR rd_one rd_back Fr chkB chkB_iff wrB)
theorem one_ok : okSy Sy.one = true := by decide +kernel
theorem great_zr : greatL (zr 16) (zr 6) = zr 16 := by decide +kernel
theorem live_rest : restS Sy.one = .ok (Sy.one, zr 16) := by
 rw [rest_plain one_ok rfl, show Sy.one.t = zr 16 from rfl, lap_zr]
 rfl
theorem live_step : stepS Sy.one (wrB 0 (zr 6) (zr 16) (zr 6)) = .ok (⟨zr 16, zr 6, true, false, 1⟩, zr 16) := by
 unfold stepS
 rw [if_pos one_ok, show Sy.one.l = zr 6 from rfl, rd_back ((chkB_iff _ _ _ _).1 zero_may) (zr_length 6) (zr_length 16)]
 dsimp only
 rw [if_neg (by decide), if_neg (by decide), great_zr, snd_zr, show Sy.one.t = zr 16 from rfl, lap_zr]
 rfl
end Go.Proofs.YtkcoboamejefiaaGreatDoor.Lp
namespace Go.Proofs.YtkcoboamejefiaaGreatDoor.Lp
open Go.RowKit Fx Fq Tb
open Yr (chkB chkB_iff wrB rdR rd_back rd_one wrB_len Fr)
theorem dlive_any (w : World) (he : Edg w) : Calls Tryz.prog 9 #[] w (ValQ w (.bool true)) := by
 have HM := Lib.hid (MV.start w)
 have HE := Lib.hid he
 have LZ := Lib.hid (zr_length 16)
 have LZ3 := Lib.hid (zr_length 23)
 have LZ6 := Lib.hid (zr_length 6)
 have hgd := grdPcm
 have heq := fun u => run_equalIn_same 41 (n := 16) (by kernel_rfl) (zr 16) (zr_length 16) u
 clear he
 go_enter Tryz.func9, Tryz.ntmps9
 go_wp2_with (first | (refine q9l ?_; first | (first | (refine q8a rfl _ rfl rfl HM (by exact q7m) (by exact q7w) ?_) | (refine q8b rfl _ rfl rfl HM (by exact q7m) (by exact q7w) ?_) | (refine q8c rfl _ rfl rfl HM (by exact q7m) (by exact q7w) (by with_reducible assumption) ?_) | (refine q8d rfl _ rfl rfl HM (by exact q7m) (by exact q7w) (by with_reducible assumption) ?_) | (refine q8c rfl _ rfl rfl HM (by exact q7m) (by exact q7w) (Lib.hid rfl) ?_) | (refine q8d rfl _ rfl rfl HM (by exact q7m) (by exact q7w) (Lib.hid rfl) ?_) | (refine q8e rfl _ rfl rfl HM (by exact q7m) (by exact q7w) ?_) | (refine q8f rfl _ rfl rfl HM (by exact q7m) (by exact q7w) ?_)) | (refine q8q rfl _ _ rfl rfl (by exact q7r) HM (by exact q7m) (by exact q7s) ?_) | (refine q8r rfl _ _ rfl rfl (by exact q7a) HM (by exact q7m) (by exact q7f) (by exact q7l) ?_)) | (refine q9s ?_; first | ((first | refine q8o rfl _ _ rfl rfl rfl HM (by exact q7i) (by exact q7w) (by exact q7w) ?_ | refine q8p rfl _ _ rfl rfl rfl HM (by exact q7i) (by exact q7w) (by exact q7w) ?_); clear HM; intro us HM; dsimp only [List.set] at HM) | ((first | refine q8j rfl _ _ rfl rfl rfl HM (by exact q7i) HSW (by exact q7l) ?_ | refine q8k rfl _ _ rfl rfl rfl HM (by exact q7i) HSW (by exact q7l) ?_ | refine q8l rfl _ _ rfl rfl rfl HM (by exact q7i) HSW ?_ | refine q8m rfl _ _ rfl rfl rfl HM (by exact q7i) HSW ?_ | refine q8n rfl _ _ rfl rfl rfl HM (by exact q7i) HSW (by with_reducible assumption) ?_); clear HM HSW; intro us HM HSW; dsimp only [List.set] at HM HSW) | (refine q8s rfl _ _ _ rfl rfl rfl (by exact q7r) HM (by exact q7i) (by exact q7s) (by exact q7s) (by exact q7o) ?_; clear HM; intro us HM; dsimp only [List.set] at HM)) | (refine q9b ?_; (first | (refine q8g rfl rfl ?_) | (refine q8h rfl _ rfl rfl ?_) | (refine q8i rfl _ rfl rfl (by exact q7w) ?_) | (refine q8v rfl _ rfl (by exact q7a) (by kernel_rfl) ?_))) | ((first | refine q9a ?_ | refine q9x ?_); ((first | refine q8t rfl _ _ rfl rfl HM ?_ | refine q8u rfl _ rfl rowSyn HM ?_ | refine q8u rfl _ rfl rowMou HM ?_ | refine q8u rfl _ rfl (by exact q7r) HM ?_); first | (have q:dV HM = 0:=rfl;clear q HM;intro g1 u1 HG1 HM) | (have q:dV HM = 1:=rfl;clear q HM;intro g2 u2 HG2 HM) | (have q:dV HM = 2:=rfl;clear q HM;intro g3 u3 HG3 HM) | (have q:dV HM = 3:=rfl;clear q HM;intro g4 u4 HG4 HM))))
 refine (pstart_any _).mono ?_
 rintro e w2 ⟨rfl, hb⟩
 replace HM := Lib.hid (HM.out.below hb)
 clear hb
 go_wp2_with (first | (refine q9l ?_; first | (first | (refine q8a rfl _ rfl rfl HM (by exact q7m) (by exact q7w) ?_) | (refine q8b rfl _ rfl rfl HM (by exact q7m) (by exact q7w) ?_) | (refine q8c rfl _ rfl rfl HM (by exact q7m) (by exact q7w) (by with_reducible assumption) ?_) | (refine q8d rfl _ rfl rfl HM (by exact q7m) (by exact q7w) (by with_reducible assumption) ?_) | (refine q8c rfl _ rfl rfl HM (by exact q7m) (by exact q7w) (Lib.hid rfl) ?_) | (refine q8d rfl _ rfl rfl HM (by exact q7m) (by exact q7w) (Lib.hid rfl) ?_) | (refine q8e rfl _ rfl rfl HM (by exact q7m) (by exact q7w) ?_) | (refine q8f rfl _ rfl rfl HM (by exact q7m) (by exact q7w) ?_)) | (refine q8q rfl _ _ rfl rfl (by exact q7r) HM (by exact q7m) (by exact q7s) ?_) | (refine q8r rfl _ _ rfl rfl (by exact q7a) HM (by exact q7m) (by exact q7f) (by exact q7l) ?_)) | (refine q9s ?_; first | ((first | refine q8o rfl _ _ rfl rfl rfl HM (by exact q7i) (by exact q7w) (by exact q7w) ?_ | refine q8p rfl _ _ rfl rfl rfl HM (by exact q7i) (by exact q7w) (by exact q7w) ?_); clear HM; intro us HM; dsimp only [List.set] at HM) | ((first | refine q8j rfl _ _ rfl rfl rfl HM (by exact q7i) HSW (by exact q7l) ?_ | refine q8k rfl _ _ rfl rfl rfl HM (by exact q7i) HSW (by exact q7l) ?_ | refine q8l rfl _ _ rfl rfl rfl HM (by exact q7i) HSW ?_ | refine q8m rfl _ _ rfl rfl rfl HM (by exact q7i) HSW ?_ | refine q8n rfl _ _ rfl rfl rfl HM (by exact q7i) HSW (by with_reducible assumption) ?_); clear HM HSW; intro us HM HSW; dsimp only [List.set] at HM HSW) | (refine q8s rfl _ _ _ rfl rfl rfl (by exact q7r) HM (by exact q7i) (by exact q7s) (by exact q7s) (by exact q7o) ?_; clear HM; intro us HM; dsimp only [List.set] at HM)) | (refine q9b ?_; (first | (refine q8g rfl rfl ?_) | (refine q8h rfl _ rfl rfl ?_) | (refine q8i rfl _ rfl rfl (by exact q7w) ?_) | (refine q8v rfl _ rfl (by exact q7a) (by kernel_rfl) ?_))) | ((first | refine q9a ?_ | refine q9x ?_); ((first | refine q8t rfl _ _ rfl rfl HM ?_ | refine q8u rfl _ rfl rowSyn HM ?_ | refine q8u rfl _ rfl rowMou HM ?_ | refine q8u rfl _ rfl (by exact q7r) HM ?_); first | (have q:dV HM = 0:=rfl;clear q HM;intro g1 u1 HG1 HM) | (have q:dV HM = 1:=rfl;clear q HM;intro g2 u2 HG2 HM) | (have q:dV HM = 2:=rfl;clear q HM;intro g3 u3 HG3 HM) | (have q:dV HM = 3:=rfl;clear q HM;intro g4 u4 HG4 HM))))
 refine (prest_any Sy.one _ (Lib.hid syW_one) (HE.out.below HM.out.1)).mono ?_
 rw [live_rest]
 rintro e w3 ⟨rfl, hb, -⟩
 dsimp only [dsV]
 replace HM := Lib.hid (HM.out.below hb)
 clear hb
 obtain ⟨S, hS⟩ : ∃ S, S = Sy.one := ⟨_, rfl⟩
 rw [← hS]
 have HSW := Lib.hid (show SyW S by rw [hS]; exact syW_one)
 have HS1 := Lib.hid hS
 have d1 : (S.seed == 1) = true := by rw [hS]; rfl
 clear hS
 go_wp2_with (first | (refine wv_zeroF rfl rfl ?_) | (first | (refine q9l ?_; first | (first | (refine q8a rfl _ rfl rfl HM (by exact q7m) (by exact q7w) ?_) | (refine q8b rfl _ rfl rfl HM (by exact q7m) (by exact q7w) ?_) | (refine q8c rfl _ rfl rfl HM (by exact q7m) (by exact q7w) (by with_reducible assumption) ?_) | (refine q8d rfl _ rfl rfl HM (by exact q7m) (by exact q7w) (by with_reducible assumption) ?_) | (refine q8c rfl _ rfl rfl HM (by exact q7m) (by exact q7w) (Lib.hid rfl) ?_) | (refine q8d rfl _ rfl rfl HM (by exact q7m) (by exact q7w) (Lib.hid rfl) ?_) | (refine q8e rfl _ rfl rfl HM (by exact q7m) (by exact q7w) ?_) | (refine q8f rfl _ rfl rfl HM (by exact q7m) (by exact q7w) ?_)) | (refine q8q rfl _ _ rfl rfl (by exact q7r) HM (by exact q7m) (by exact q7s) ?_) | (refine q8r rfl _ _ rfl rfl (by exact q7a) HM (by exact q7m) (by exact q7f) (by exact q7l) ?_)) | (refine q9s ?_; first | ((first | refine q8o rfl _ _ rfl rfl rfl HM (by exact q7i) (by exact q7w) (by exact q7w) ?_ | refine q8p rfl _ _ rfl rfl rfl HM (by exact q7i) (by exact q7w) (by exact q7w) ?_); clear HM; intro us HM; dsimp only [List.set] at HM) | ((first | refine q8j rfl _ _ rfl rfl rfl HM (by exact q7i) HSW (by exact q7l) ?_ | refine q8k rfl _ _ rfl rfl rfl HM (by exact q7i) HSW (by exact q7l) ?_ | refine q8l rfl _ _ rfl rfl rfl HM (by exact q7i) HSW ?_ | refine q8m rfl _ _ rfl rfl rfl HM (by exact q7i) HSW ?_ | refine q8n rfl _ _ rfl rfl rfl HM (by exact q7i) HSW (by with_reducible assumption) ?_); clear HM HSW; intro us HM HSW; dsimp only [List.set] at HM HSW) | (refine q8s rfl _ _ _ rfl rfl rfl (by exact q7r) HM (by exact q7i) (by exact q7s) (by exact q7s) (by exact q7o) ?_; clear HM; intro us HM; dsimp only [List.set] at HM)) | (refine q9b ?_; (first | (refine q8g rfl rfl ?_) | (refine q8h rfl _ rfl rfl ?_) | (refine q8i rfl _ rfl rfl (by exact q7w) ?_) | (refine q8v rfl _ rfl (by exact q7a) (by kernel_rfl) ?_))) | ((first | refine q9a ?_ | refine q9x ?_); ((first | refine q8t rfl _ _ rfl rfl HM ?_ | refine q8u rfl _ rfl rowSyn HM ?_ | refine q8u rfl _ rfl rowMou HM ?_ | refine q8u rfl _ rfl (by exact q7r) HM ?_); first | (have q:dV HM = 0:=rfl;clear q HM;intro g1 u1 HG1 HM) | (have q:dV HM = 1:=rfl;clear q HM;intro g2 u2 HG2 HM) | (have q:dV HM = 2:=rfl;clear q HM;intro g3 u3 HG3 HM) | (have q:dV HM = 3:=rfl;clear q HM;intro g4 u4 HG4 HM)))) | (first | (refine wv_zeroF rfl rfl ?_) | (first | ((first | refine q8t rfl _ _ rfl rfl HM ?_ | refine q8u rfl _ rfl (by exact q7r) HM ?_); first | (have q:dV HM = 0:=rfl;clear q HM;intro g1 u1 HG1 HM) | (have q:dV HM = 1:=rfl;clear q HM;intro g2 u2 HG2 HM) | (have q:dV HM = 2:=rfl;clear q HM;intro g3 u3 HG3 HM) | (have q:dV HM = 3:=rfl;clear q HM;intro g4 u4 HG4 HM)) | (refine q8q rfl _ _ rfl rfl (by exact q7r) HM (by exact q7m) (by exact q7s) ?_) | (refine q8s rfl _ _ _ rfl rfl rfl (by exact q7r) HM (by exact q7i) (by exact q7s) (by exact q7s) (by exact q7o) ?_; clear HM; intro us HM; dsimp only [List.set] at HM) | (refine q8v rfl _ rfl (by exact q7a) (by kernel_rfl) ?_)) | (refine wv_elem rfl _ rfl rfl HM (by exact q7m) (by exact velOf) ?_) | (refine wv_put rfl _ _ rfl rfl rfl HM (by exact q7i) (by exact vltOf) ?_; clear HM; intro us HM; dsimp only [List.set] at HM) | (refine q8r rfl _ _ rfl rfl (by exact q7a) HM (by exact q7m) (by exact q7f) (by exact q7l) ?_)))
 refine (fwrite_any (zr 23) 0 (zr 6) (zr 16) (zr 6) _ frS_zero (zr_length 6) (HE.out.below HM.out.1)).mono ?_
 intro e w2 ho
 unfold WrOut at ho
 rw [if_pos zero_may] at ho
 obtain ⟨A, n, c, rfl, hr, hb⟩ := ho
 have HR := Lib.hid hr
 replace HM := Lib.hid (HM.out.below hb)
 clear hr hb
 go_wp2_with (first | (refine wv_zeroF rfl rfl ?_) | (first | (refine q9l ?_; first | (first | (refine q8a rfl _ rfl rfl HM (by exact q7m) (by exact q7w) ?_) | (refine q8b rfl _ rfl rfl HM (by exact q7m) (by exact q7w) ?_) | (refine q8c rfl _ rfl rfl HM (by exact q7m) (by exact q7w) (by with_reducible assumption) ?_) | (refine q8d rfl _ rfl rfl HM (by exact q7m) (by exact q7w) (by with_reducible assumption) ?_) | (refine q8c rfl _ rfl rfl HM (by exact q7m) (by exact q7w) (Lib.hid rfl) ?_) | (refine q8d rfl _ rfl rfl HM (by exact q7m) (by exact q7w) (Lib.hid rfl) ?_) | (refine q8e rfl _ rfl rfl HM (by exact q7m) (by exact q7w) ?_) | (refine q8f rfl _ rfl rfl HM (by exact q7m) (by exact q7w) ?_)) | (refine q8q rfl _ _ rfl rfl (by exact q7r) HM (by exact q7m) (by exact q7s) ?_) | (refine q8r rfl _ _ rfl rfl (by exact q7a) HM (by exact q7m) (by exact q7f) (by exact q7l) ?_)) | (refine q9s ?_; first | ((first | refine q8o rfl _ _ rfl rfl rfl HM (by exact q7i) (by exact q7w) (by exact q7w) ?_ | refine q8p rfl _ _ rfl rfl rfl HM (by exact q7i) (by exact q7w) (by exact q7w) ?_); clear HM; intro us HM; dsimp only [List.set] at HM) | ((first | refine q8j rfl _ _ rfl rfl rfl HM (by exact q7i) HSW (by exact q7l) ?_ | refine q8k rfl _ _ rfl rfl rfl HM (by exact q7i) HSW (by exact q7l) ?_ | refine q8l rfl _ _ rfl rfl rfl HM (by exact q7i) HSW ?_ | refine q8m rfl _ _ rfl rfl rfl HM (by exact q7i) HSW ?_ | refine q8n rfl _ _ rfl rfl rfl HM (by exact q7i) HSW (by with_reducible assumption) ?_); clear HM HSW; intro us HM HSW; dsimp only [List.set] at HM HSW) | (refine q8s rfl _ _ _ rfl rfl rfl (by exact q7r) HM (by exact q7i) (by exact q7s) (by exact q7s) (by exact q7o) ?_; clear HM; intro us HM; dsimp only [List.set] at HM)) | (refine q9b ?_; (first | (refine q8g rfl rfl ?_) | (refine q8h rfl _ rfl rfl ?_) | (refine q8i rfl _ rfl rfl (by exact q7w) ?_) | (refine q8v rfl _ rfl (by exact q7a) (by kernel_rfl) ?_))) | ((first | refine q9a ?_ | refine q9x ?_); ((first | refine q8t rfl _ _ rfl rfl HM ?_ | refine q8u rfl _ rfl rowSyn HM ?_ | refine q8u rfl _ rfl rowMou HM ?_ | refine q8u rfl _ rfl (by exact q7r) HM ?_); first | (have q:dV HM = 0:=rfl;clear q HM;intro g1 u1 HG1 HM) | (have q:dV HM = 1:=rfl;clear q HM;intro g2 u2 HG2 HM) | (have q:dV HM = 2:=rfl;clear q HM;intro g3 u3 HG3 HM) | (have q:dV HM = 3:=rfl;clear q HM;intro g4 u4 HG4 HM)))) | (first | (refine wv_zeroF rfl rfl ?_) | (first | ((first | refine q8t rfl _ _ rfl rfl HM ?_ | refine q8u rfl _ rfl (by exact q7r) HM ?_); first | (have q:dV HM = 0:=rfl;clear q HM;intro g1 u1 HG1 HM) | (have q:dV HM = 1:=rfl;clear q HM;intro g2 u2 HG2 HM) | (have q:dV HM = 2:=rfl;clear q HM;intro g3 u3 HG3 HM) | (have q:dV HM = 3:=rfl;clear q HM;intro g4 u4 HG4 HM)) | (refine q8q rfl _ _ rfl rfl (by exact q7r) HM (by exact q7m) (by exact q7s) ?_) | (refine q8s rfl _ _ _ rfl rfl rfl (by exact q7r) HM (by exact q7i) (by exact q7s) (by exact q7s) (by exact q7o) ?_; clear HM; intro us HM; dsimp only [List.set] at HM) | (refine q8v rfl _ rfl (by exact q7a) (by kernel_rfl) ?_)) | (refine wv_elem rfl _ rfl rfl HM (by exact q7m) (by exact velOf) ?_) | (refine wv_put rfl _ _ rfl rfl rfl HM (by exact q7i) (by exact vltOf) ?_; clear HM; intro us HM; dsimp only [List.set] at HM) | (refine q8r rfl _ _ rfl rfl (by exact q7a) HM (by exact q7m) (by exact q7f) (by exact q7l) ?_)))
 refine (pstep_any S A n c _ _ HSW HR (HE.out.below HM.out.1)).mono ?_
 rw [HS1.out, live_step]
 rintro e w3 ⟨rfl, hb, hw, -⟩
 dsimp only [dsV]
 rw [← HS1.out]
 have HM2 := Lib.hid (HM.out.below hb)
 obtain ⟨S2, hS2⟩ : ∃ S2, S2 = Sy.mk (zr 16) (zr 6) true false 1 := ⟨_, rfl⟩
 rw [← hS2] at hw ⊢
 have HSW2 := Lib.hid hw
 have HLV := Lib.hid (show S2.live = true by rw [hS2])
 have HHU := Lib.hid (show S2.hush = false by rw [hS2])
 clear hb HM hw hS2 HR HS1
 have HM := HM2
 clear HM2
 go_wp2_with (first | (refine q8w (by rfl) ?_) | (first | (refine q9l ?_; first | (first | (refine q8a rfl _ rfl rfl HM (by exact q7m) (by exact q7w) ?_) | (refine q8b rfl _ rfl rfl HM (by exact q7m) (by exact q7w) ?_) | (refine q8c rfl _ rfl rfl HM (by exact q7m) (by exact q7w) (by with_reducible assumption) ?_) | (refine q8d rfl _ rfl rfl HM (by exact q7m) (by exact q7w) (by with_reducible assumption) ?_) | (refine q8c rfl _ rfl rfl HM (by exact q7m) (by exact q7w) (Lib.hid rfl) ?_) | (refine q8d rfl _ rfl rfl HM (by exact q7m) (by exact q7w) (Lib.hid rfl) ?_) | (refine q8e rfl _ rfl rfl HM (by exact q7m) (by exact q7w) ?_) | (refine q8f rfl _ rfl rfl HM (by exact q7m) (by exact q7w) ?_)) | (refine q8q rfl _ _ rfl rfl (by exact q7r) HM (by exact q7m) (by exact q7s) ?_) | (refine q8r rfl _ _ rfl rfl (by exact q7a) HM (by exact q7m) (by exact q7f) (by exact q7l) ?_)) | (refine q9s ?_; first | ((first | refine q8o rfl _ _ rfl rfl rfl HM (by exact q7i) (by exact q7w) (by exact q7w) ?_ | refine q8p rfl _ _ rfl rfl rfl HM (by exact q7i) (by exact q7w) (by exact q7w) ?_); clear HM; intro us HM; dsimp only [List.set] at HM) | ((first | refine q8j rfl _ _ rfl rfl rfl HM (by exact q7i) HSW (by exact q7l) ?_ | refine q8k rfl _ _ rfl rfl rfl HM (by exact q7i) HSW (by exact q7l) ?_ | refine q8l rfl _ _ rfl rfl rfl HM (by exact q7i) HSW ?_ | refine q8m rfl _ _ rfl rfl rfl HM (by exact q7i) HSW ?_ | refine q8n rfl _ _ rfl rfl rfl HM (by exact q7i) HSW (by with_reducible assumption) ?_); clear HM HSW; intro us HM HSW; dsimp only [List.set] at HM HSW) | (refine q8s rfl _ _ _ rfl rfl rfl (by exact q7r) HM (by exact q7i) (by exact q7s) (by exact q7s) (by exact q7o) ?_; clear HM; intro us HM; dsimp only [List.set] at HM)) | (refine q9b ?_; (first | (refine q8g rfl rfl ?_) | (refine q8h rfl _ rfl rfl ?_) | (refine q8i rfl _ rfl rfl (by exact q7w) ?_) | (refine q8v rfl _ rfl (by exact q7a) (by kernel_rfl) ?_))) | ((first | refine q9a ?_ | refine q9x ?_); ((first | refine q8t rfl _ _ rfl rfl HM ?_ | refine q8u rfl _ rfl rowSyn HM ?_ | refine q8u rfl _ rfl rowMou HM ?_ | refine q8u rfl _ rfl (by exact q7r) HM ?_); first | (have q:dV HM = 0:=rfl;clear q HM;intro g1 u1 HG1 HM) | (have q:dV HM = 1:=rfl;clear q HM;intro g2 u2 HG2 HM) | (have q:dV HM = 2:=rfl;clear q HM;intro g3 u3 HG3 HM) | (have q:dV HM = 3:=rfl;clear q HM;intro g4 u4 HG4 HM)))) | (first | (refine wv_zeroF rfl rfl ?_) | (first | ((first | refine q8t rfl _ _ rfl rfl HM ?_ | refine q8u rfl _ rfl (by exact q7r) HM ?_); first | (have q:dV HM = 0:=rfl;clear q HM;intro g1 u1 HG1 HM) | (have q:dV HM = 1:=rfl;clear q HM;intro g2 u2 HG2 HM) | (have q:dV HM = 2:=rfl;clear q HM;intro g3 u3 HG3 HM) | (have q:dV HM = 3:=rfl;clear q HM;intro g4 u4 HG4 HM)) | (refine q8q rfl _ _ rfl rfl (by exact q7r) HM (by exact q7m) (by exact q7s) ?_) | (refine q8s rfl _ _ _ rfl rfl rfl (by exact q7r) HM (by exact q7i) (by exact q7s) (by exact q7s) (by exact q7o) ?_; clear HM; intro us HM; dsimp only [List.set] at HM) | (refine q8v rfl _ rfl (by exact q7a) (by kernel_rfl) ?_)) | (refine wv_elem rfl _ rfl rfl HM (by exact q7m) (by exact velOf) ?_) | (refine wv_put rfl _ _ rfl rfl rfl HM (by exact q7i) (by exact vltOf) ?_; clear HM; intro us HM; dsimp only [List.set] at HM) | (refine q8r rfl _ _ rfl rfl (by exact q7a) HM (by exact q7m) (by exact q7f) (by exact q7l) ?_)))
 go_ret
 exact ⟨rfl, HM.out.1⟩
end Go.Proofs.YtkcoboamejefiaaGreatDoor.Lp
namespace Go.Proofs.YtkcoboamejefiaaGreatDoor.Lp
open Go.RowKit Fx Fq Tb
theorem rdcheck_any (s : Sy) (z : Int) (w : World) (hs : Hid (SyW s)) (hz : (if okSy s = true then 0 else 1) = z) :
  Calls Tryz.prog 17 #[.agg (syC s)] w (ValQ w (.int .i64 z)) := by
 have HM := Lib.hid (MV.start w)
 have HSW := hs
 have HT := Lib.hid (fun b hb u => mayT_any s.t b u hs.out.lt hb)
 have HB := Lib.hid (fun c z hc hz u => rbcheck_any s.l c z u hs.out.ll hc hz)
 unfold okSy at hz
 clear hs
 cases h1 : okW s.t with
 | false =>
  rw [h1] at hz
  obtain rfl : z = 1 := by rw [← hz]; rfl
  have HC := Lib.hid (HT.out false h1)
  clear hz h1 HT HB
  go_enter Tryz.func17, Tryz.ntmps17
  go_wp2_with (first | (refine q9l ?_; first | (first | (refine q8a rfl _ rfl rfl HM (by exact q7m) (by exact q7w) ?_) | (refine q8b rfl _ rfl rfl HM (by exact q7m) (by exact q7w) ?_) | (refine q8c rfl _ rfl rfl HM (by exact q7m) (by exact q7w) (by with_reducible assumption) ?_) | (refine q8d rfl _ rfl rfl HM (by exact q7m) (by exact q7w) (by with_reducible assumption) ?_) | (refine q8c rfl _ rfl rfl HM (by exact q7m) (by exact q7w) (Lib.hid rfl) ?_) | (refine q8d rfl _ rfl rfl HM (by exact q7m) (by exact q7w) (Lib.hid rfl) ?_) | (refine q8e rfl _ rfl rfl HM (by exact q7m) (by exact q7w) ?_) | (refine q8f rfl _ rfl rfl HM (by exact q7m) (by exact q7w) ?_)) | (refine q8q rfl _ _ rfl rfl (by exact q7r) HM (by exact q7m) (by exact q7s) ?_) | (refine q8r rfl _ _ rfl rfl (by exact q7a) HM (by exact q7m) (by exact q7f) (by exact q7l) ?_)) | (refine q9s ?_; first | ((first | refine q8o rfl _ _ rfl rfl rfl HM (by exact q7i) (by exact q7w) (by exact q7w) ?_ | refine q8p rfl _ _ rfl rfl rfl HM (by exact q7i) (by exact q7w) (by exact q7w) ?_); clear HM; intro us HM; dsimp only [List.set] at HM) | ((first | refine q8j rfl _ _ rfl rfl rfl HM (by exact q7i) HSW (by exact q7l) ?_ | refine q8k rfl _ _ rfl rfl rfl HM (by exact q7i) HSW (by exact q7l) ?_ | refine q8l rfl _ _ rfl rfl rfl HM (by exact q7i) HSW ?_ | refine q8m rfl _ _ rfl rfl rfl HM (by exact q7i) HSW ?_ | refine q8n rfl _ _ rfl rfl rfl HM (by exact q7i) HSW (by with_reducible assumption) ?_); clear HM HSW; intro us HM HSW; dsimp only [List.set] at HM HSW) | (refine q8s rfl _ _ _ rfl rfl rfl (by exact q7r) HM (by exact q7i) (by exact q7s) (by exact q7s) (by exact q7o) ?_; clear HM; intro us HM; dsimp only [List.set] at HM)) | (refine q9b ?_; (first | (refine q8g rfl rfl ?_) | (refine q8h rfl _ rfl rfl ?_) | (refine q8i rfl _ rfl rfl (by exact q7w) ?_) | (refine q8v rfl _ rfl (by exact q7a) (by kernel_rfl) ?_))) | ((first | refine q9a ?_ | refine q9x ?_); ((first | refine q8t rfl _ _ rfl rfl HM ?_ | refine q8u rfl _ rfl rowSyn HM ?_ | refine q8u rfl _ rfl rowMou HM ?_ | refine q8u rfl _ rfl (by exact q7r) HM ?_); first | (have q:dV HM = 0:=rfl;clear q HM;intro g1 u1 HG1 HM) | (have q:dV HM = 1:=rfl;clear q HM;intro g2 u2 HG2 HM) | (have q:dV HM = 2:=rfl;clear q HM;intro g3 u3 HG3 HM) | (have q:dV HM = 3:=rfl;clear q HM;intro g4 u4 HG4 HM))))
  refine (HC.out _).mono ?_
  rintro e w3 ⟨rfl, hb⟩
  replace HM := Lib.hid (HM.out.below hb)
  clear hb HC
  go_wp2_with (first | (refine q8w (by rfl) ?_) | (first | (refine q9l ?_; first | (first | (refine q8a rfl _ rfl rfl HM (by exact q7m) (by exact q7w) ?_) | (refine q8b rfl _ rfl rfl HM (by exact q7m) (by exact q7w) ?_) | (refine q8c rfl _ rfl rfl HM (by exact q7m) (by exact q7w) (by with_reducible assumption) ?_) | (refine q8d rfl _ rfl rfl HM (by exact q7m) (by exact q7w) (by with_reducible assumption) ?_) | (refine q8c rfl _ rfl rfl HM (by exact q7m) (by exact q7w) (Lib.hid rfl) ?_) | (refine q8d rfl _ rfl rfl HM (by exact q7m) (by exact q7w) (Lib.hid rfl) ?_) | (refine q8e rfl _ rfl rfl HM (by exact q7m) (by exact q7w) ?_) | (refine q8f rfl _ rfl rfl HM (by exact q7m) (by exact q7w) ?_)) | (refine q8q rfl _ _ rfl rfl (by exact q7r) HM (by exact q7m) (by exact q7s) ?_) | (refine q8r rfl _ _ rfl rfl (by exact q7a) HM (by exact q7m) (by exact q7f) (by exact q7l) ?_)) | (refine q9s ?_; first | ((first | refine q8o rfl _ _ rfl rfl rfl HM (by exact q7i) (by exact q7w) (by exact q7w) ?_ | refine q8p rfl _ _ rfl rfl rfl HM (by exact q7i) (by exact q7w) (by exact q7w) ?_); clear HM; intro us HM; dsimp only [List.set] at HM) | ((first | refine q8j rfl _ _ rfl rfl rfl HM (by exact q7i) HSW (by exact q7l) ?_ | refine q8k rfl _ _ rfl rfl rfl HM (by exact q7i) HSW (by exact q7l) ?_ | refine q8l rfl _ _ rfl rfl rfl HM (by exact q7i) HSW ?_ | refine q8m rfl _ _ rfl rfl rfl HM (by exact q7i) HSW ?_ | refine q8n rfl _ _ rfl rfl rfl HM (by exact q7i) HSW (by with_reducible assumption) ?_); clear HM HSW; intro us HM HSW; dsimp only [List.set] at HM HSW) | (refine q8s rfl _ _ _ rfl rfl rfl (by exact q7r) HM (by exact q7i) (by exact q7s) (by exact q7s) (by exact q7o) ?_; clear HM; intro us HM; dsimp only [List.set] at HM)) | (refine q9b ?_; (first | (refine q8g rfl rfl ?_) | (refine q8h rfl _ rfl rfl ?_) | (refine q8i rfl _ rfl rfl (by exact q7w) ?_) | (refine q8v rfl _ rfl (by exact q7a) (by kernel_rfl) ?_))) | ((first | refine q9a ?_ | refine q9x ?_); ((first | refine q8t rfl _ _ rfl rfl HM ?_ | refine q8u rfl _ rfl rowSyn HM ?_ | refine q8u rfl _ rfl rowMou HM ?_ | refine q8u rfl _ rfl (by exact q7r) HM ?_); first | (have q:dV HM = 0:=rfl;clear q HM;intro g1 u1 HG1 HM) | (have q:dV HM = 1:=rfl;clear q HM;intro g2 u2 HG2 HM) | (have q:dV HM = 2:=rfl;clear q HM;intro g3 u3 HG3 HM) | (have q:dV HM = 3:=rfl;clear q HM;intro g4 u4 HG4 HM)))))
  go_ret
  exact ⟨rfl, HM.out.1⟩
 | true =>
  rw [h1] at hz
  have HC := Lib.hid (HT.out true h1)
  clear h1 HT
  cases h2 : chkL s.l with
  | false =>
   rw [h2] at hz
   obtain rfl : z = 1 := by rw [← hz]; rfl
   have HD := Lib.hid (HB.out false 1 h2 rfl)
   clear hz h2 HB
   go_enter Tryz.func17, Tryz.ntmps17
   go_wp2_with (first | (refine q9l ?_; first | (first | (refine q8a rfl _ rfl rfl HM (by exact q7m) (by exact q7w) ?_) | (refine q8b rfl _ rfl rfl HM (by exact q7m) (by exact q7w) ?_) | (refine q8c rfl _ rfl rfl HM (by exact q7m) (by exact q7w) (by with_reducible assumption) ?_) | (refine q8d rfl _ rfl rfl HM (by exact q7m) (by exact q7w) (by with_reducible assumption) ?_) | (refine q8c rfl _ rfl rfl HM (by exact q7m) (by exact q7w) (Lib.hid rfl) ?_) | (refine q8d rfl _ rfl rfl HM (by exact q7m) (by exact q7w) (Lib.hid rfl) ?_) | (refine q8e rfl _ rfl rfl HM (by exact q7m) (by exact q7w) ?_) | (refine q8f rfl _ rfl rfl HM (by exact q7m) (by exact q7w) ?_)) | (refine q8q rfl _ _ rfl rfl (by exact q7r) HM (by exact q7m) (by exact q7s) ?_) | (refine q8r rfl _ _ rfl rfl (by exact q7a) HM (by exact q7m) (by exact q7f) (by exact q7l) ?_)) | (refine q9s ?_; first | ((first | refine q8o rfl _ _ rfl rfl rfl HM (by exact q7i) (by exact q7w) (by exact q7w) ?_ | refine q8p rfl _ _ rfl rfl rfl HM (by exact q7i) (by exact q7w) (by exact q7w) ?_); clear HM; intro us HM; dsimp only [List.set] at HM) | ((first | refine q8j rfl _ _ rfl rfl rfl HM (by exact q7i) HSW (by exact q7l) ?_ | refine q8k rfl _ _ rfl rfl rfl HM (by exact q7i) HSW (by exact q7l) ?_ | refine q8l rfl _ _ rfl rfl rfl HM (by exact q7i) HSW ?_ | refine q8m rfl _ _ rfl rfl rfl HM (by exact q7i) HSW ?_ | refine q8n rfl _ _ rfl rfl rfl HM (by exact q7i) HSW (by with_reducible assumption) ?_); clear HM HSW; intro us HM HSW; dsimp only [List.set] at HM HSW) | (refine q8s rfl _ _ _ rfl rfl rfl (by exact q7r) HM (by exact q7i) (by exact q7s) (by exact q7s) (by exact q7o) ?_; clear HM; intro us HM; dsimp only [List.set] at HM)) | (refine q9b ?_; (first | (refine q8g rfl rfl ?_) | (refine q8h rfl _ rfl rfl ?_) | (refine q8i rfl _ rfl rfl (by exact q7w) ?_) | (refine q8v rfl _ rfl (by exact q7a) (by kernel_rfl) ?_))) | ((first | refine q9a ?_ | refine q9x ?_); ((first | refine q8t rfl _ _ rfl rfl HM ?_ | refine q8u rfl _ rfl rowSyn HM ?_ | refine q8u rfl _ rfl rowMou HM ?_ | refine q8u rfl _ rfl (by exact q7r) HM ?_); first | (have q:dV HM = 0:=rfl;clear q HM;intro g1 u1 HG1 HM) | (have q:dV HM = 1:=rfl;clear q HM;intro g2 u2 HG2 HM) | (have q:dV HM = 2:=rfl;clear q HM;intro g3 u3 HG3 HM) | (have q:dV HM = 3:=rfl;clear q HM;intro g4 u4 HG4 HM))))
   refine (HC.out _).mono ?_
   rintro e w3 ⟨rfl, hb⟩
   replace HM := Lib.hid (HM.out.below hb)
   clear hb HC
   go_wp2_with (first | (refine q8w (by rfl) ?_) | (first | (refine q9l ?_; first | (first | (refine q8a rfl _ rfl rfl HM (by exact q7m) (by exact q7w) ?_) | (refine q8b rfl _ rfl rfl HM (by exact q7m) (by exact q7w) ?_) | (refine q8c rfl _ rfl rfl HM (by exact q7m) (by exact q7w) (by with_reducible assumption) ?_) | (refine q8d rfl _ rfl rfl HM (by exact q7m) (by exact q7w) (by with_reducible assumption) ?_) | (refine q8c rfl _ rfl rfl HM (by exact q7m) (by exact q7w) (Lib.hid rfl) ?_) | (refine q8d rfl _ rfl rfl HM (by exact q7m) (by exact q7w) (Lib.hid rfl) ?_) | (refine q8e rfl _ rfl rfl HM (by exact q7m) (by exact q7w) ?_) | (refine q8f rfl _ rfl rfl HM (by exact q7m) (by exact q7w) ?_)) | (refine q8q rfl _ _ rfl rfl (by exact q7r) HM (by exact q7m) (by exact q7s) ?_) | (refine q8r rfl _ _ rfl rfl (by exact q7a) HM (by exact q7m) (by exact q7f) (by exact q7l) ?_)) | (refine q9s ?_; first | ((first | refine q8o rfl _ _ rfl rfl rfl HM (by exact q7i) (by exact q7w) (by exact q7w) ?_ | refine q8p rfl _ _ rfl rfl rfl HM (by exact q7i) (by exact q7w) (by exact q7w) ?_); clear HM; intro us HM; dsimp only [List.set] at HM) | ((first | refine q8j rfl _ _ rfl rfl rfl HM (by exact q7i) HSW (by exact q7l) ?_ | refine q8k rfl _ _ rfl rfl rfl HM (by exact q7i) HSW (by exact q7l) ?_ | refine q8l rfl _ _ rfl rfl rfl HM (by exact q7i) HSW ?_ | refine q8m rfl _ _ rfl rfl rfl HM (by exact q7i) HSW ?_ | refine q8n rfl _ _ rfl rfl rfl HM (by exact q7i) HSW (by with_reducible assumption) ?_); clear HM HSW; intro us HM HSW; dsimp only [List.set] at HM HSW) | (refine q8s rfl _ _ _ rfl rfl rfl (by exact q7r) HM (by exact q7i) (by exact q7s) (by exact q7s) (by exact q7o) ?_; clear HM; intro us HM; dsimp only [List.set] at HM)) | (refine q9b ?_; (first | (refine q8g rfl rfl ?_) | (refine q8h rfl _ rfl rfl ?_) | (refine q8i rfl _ rfl rfl (by exact q7w) ?_) | (refine q8v rfl _ rfl (by exact q7a) (by kernel_rfl) ?_))) | ((first | refine q9a ?_ | refine q9x ?_); ((first | refine q8t rfl _ _ rfl rfl HM ?_ | refine q8u rfl _ rfl rowSyn HM ?_ | refine q8u rfl _ rfl rowMou HM ?_ | refine q8u rfl _ rfl (by exact q7r) HM ?_); first | (have q:dV HM = 0:=rfl;clear q HM;intro g1 u1 HG1 HM) | (have q:dV HM = 1:=rfl;clear q HM;intro g2 u2 HG2 HM) | (have q:dV HM = 2:=rfl;clear q HM;intro g3 u3 HG3 HM) | (have q:dV HM = 3:=rfl;clear q HM;intro g4 u4 HG4 HM)))))
   refine (HD.out _).mono ?_
   rintro e w3 ⟨rfl, hb⟩
   replace HM := Lib.hid (HM.out.below hb)
   clear hb HD
   go_wp2_with (first | (refine q8w (by rfl) ?_) | (first | (refine q9l ?_; first | (first | (refine q8a rfl _ rfl rfl HM (by exact q7m) (by exact q7w) ?_) | (refine q8b rfl _ rfl rfl HM (by exact q7m) (by exact q7w) ?_) | (refine q8c rfl _ rfl rfl HM (by exact q7m) (by exact q7w) (by with_reducible assumption) ?_) | (refine q8d rfl _ rfl rfl HM (by exact q7m) (by exact q7w) (by with_reducible assumption) ?_) | (refine q8c rfl _ rfl rfl HM (by exact q7m) (by exact q7w) (Lib.hid rfl) ?_) | (refine q8d rfl _ rfl rfl HM (by exact q7m) (by exact q7w) (Lib.hid rfl) ?_) | (refine q8e rfl _ rfl rfl HM (by exact q7m) (by exact q7w) ?_) | (refine q8f rfl _ rfl rfl HM (by exact q7m) (by exact q7w) ?_)) | (refine q8q rfl _ _ rfl rfl (by exact q7r) HM (by exact q7m) (by exact q7s) ?_) | (refine q8r rfl _ _ rfl rfl (by exact q7a) HM (by exact q7m) (by exact q7f) (by exact q7l) ?_)) | (refine q9s ?_; first | ((first | refine q8o rfl _ _ rfl rfl rfl HM (by exact q7i) (by exact q7w) (by exact q7w) ?_ | refine q8p rfl _ _ rfl rfl rfl HM (by exact q7i) (by exact q7w) (by exact q7w) ?_); clear HM; intro us HM; dsimp only [List.set] at HM) | ((first | refine q8j rfl _ _ rfl rfl rfl HM (by exact q7i) HSW (by exact q7l) ?_ | refine q8k rfl _ _ rfl rfl rfl HM (by exact q7i) HSW (by exact q7l) ?_ | refine q8l rfl _ _ rfl rfl rfl HM (by exact q7i) HSW ?_ | refine q8m rfl _ _ rfl rfl rfl HM (by exact q7i) HSW ?_ | refine q8n rfl _ _ rfl rfl rfl HM (by exact q7i) HSW (by with_reducible assumption) ?_); clear HM HSW; intro us HM HSW; dsimp only [List.set] at HM HSW) | (refine q8s rfl _ _ _ rfl rfl rfl (by exact q7r) HM (by exact q7i) (by exact q7s) (by exact q7s) (by exact q7o) ?_; clear HM; intro us HM; dsimp only [List.set] at HM)) | (refine q9b ?_; (first | (refine q8g rfl rfl ?_) | (refine q8h rfl _ rfl rfl ?_) | (refine q8i rfl _ rfl rfl (by exact q7w) ?_) | (refine q8v rfl _ rfl (by exact q7a) (by kernel_rfl) ?_))) | ((first | refine q9a ?_ | refine q9x ?_); ((first | refine q8t rfl _ _ rfl rfl HM ?_ | refine q8u rfl _ rfl rowSyn HM ?_ | refine q8u rfl _ rfl rowMou HM ?_ | refine q8u rfl _ rfl (by exact q7r) HM ?_); first | (have q:dV HM = 0:=rfl;clear q HM;intro g1 u1 HG1 HM) | (have q:dV HM = 1:=rfl;clear q HM;intro g2 u2 HG2 HM) | (have q:dV HM = 2:=rfl;clear q HM;intro g3 u3 HG3 HM) | (have q:dV HM = 3:=rfl;clear q HM;intro g4 u4 HG4 HM)))))
   go_ret
   exact ⟨rfl, HM.out.1⟩
  | true =>
   rw [h2] at hz
   have HD := Lib.hid (HB.out true 0 h2 rfl)
   clear h2 HB
   obtain ⟨v, hv⟩ : ∃ v, s.live = v := ⟨_, rfl⟩
   obtain ⟨h, hh⟩ : ∃ h, s.hush = h := ⟨_, rfl⟩
   rw [hv, hh] at hz
   have HLV := Lib.hid hv
   have HHU := Lib.hid hh
   clear hv hh
   cases v <;> cases h
   all_goals
    first
     | (have ez : z = 0 := hz.symm; subst ez)
     | (have ez : z = 1 := hz.symm; subst ez)
    clear hz
    go_enter Tryz.func17, Tryz.ntmps17
    go_wp2_with (first | (refine q9l ?_; first | (first | (refine q8a rfl _ rfl rfl HM (by exact q7m) (by exact q7w) ?_) | (refine q8b rfl _ rfl rfl HM (by exact q7m) (by exact q7w) ?_) | (refine q8c rfl _ rfl rfl HM (by exact q7m) (by exact q7w) (by with_reducible assumption) ?_) | (refine q8d rfl _ rfl rfl HM (by exact q7m) (by exact q7w) (by with_reducible assumption) ?_) | (refine q8c rfl _ rfl rfl HM (by exact q7m) (by exact q7w) (Lib.hid rfl) ?_) | (refine q8d rfl _ rfl rfl HM (by exact q7m) (by exact q7w) (Lib.hid rfl) ?_) | (refine q8e rfl _ rfl rfl HM (by exact q7m) (by exact q7w) ?_) | (refine q8f rfl _ rfl rfl HM (by exact q7m) (by exact q7w) ?_)) | (refine q8q rfl _ _ rfl rfl (by exact q7r) HM (by exact q7m) (by exact q7s) ?_) | (refine q8r rfl _ _ rfl rfl (by exact q7a) HM (by exact q7m) (by exact q7f) (by exact q7l) ?_)) | (refine q9s ?_; first | ((first | refine q8o rfl _ _ rfl rfl rfl HM (by exact q7i) (by exact q7w) (by exact q7w) ?_ | refine q8p rfl _ _ rfl rfl rfl HM (by exact q7i) (by exact q7w) (by exact q7w) ?_); clear HM; intro us HM; dsimp only [List.set] at HM) | ((first | refine q8j rfl _ _ rfl rfl rfl HM (by exact q7i) HSW (by exact q7l) ?_ | refine q8k rfl _ _ rfl rfl rfl HM (by exact q7i) HSW (by exact q7l) ?_ | refine q8l rfl _ _ rfl rfl rfl HM (by exact q7i) HSW ?_ | refine q8m rfl _ _ rfl rfl rfl HM (by exact q7i) HSW ?_ | refine q8n rfl _ _ rfl rfl rfl HM (by exact q7i) HSW (by with_reducible assumption) ?_); clear HM HSW; intro us HM HSW; dsimp only [List.set] at HM HSW) | (refine q8s rfl _ _ _ rfl rfl rfl (by exact q7r) HM (by exact q7i) (by exact q7s) (by exact q7s) (by exact q7o) ?_; clear HM; intro us HM; dsimp only [List.set] at HM)) | (refine q9b ?_; (first | (refine q8g rfl rfl ?_) | (refine q8h rfl _ rfl rfl ?_) | (refine q8i rfl _ rfl rfl (by exact q7w) ?_) | (refine q8v rfl _ rfl (by exact q7a) (by kernel_rfl) ?_))) | ((first | refine q9a ?_ | refine q9x ?_); ((first | refine q8t rfl _ _ rfl rfl HM ?_ | refine q8u rfl _ rfl rowSyn HM ?_ | refine q8u rfl _ rfl rowMou HM ?_ | refine q8u rfl _ rfl (by exact q7r) HM ?_); first | (have q:dV HM = 0:=rfl;clear q HM;intro g1 u1 HG1 HM) | (have q:dV HM = 1:=rfl;clear q HM;intro g2 u2 HG2 HM) | (have q:dV HM = 2:=rfl;clear q HM;intro g3 u3 HG3 HM) | (have q:dV HM = 3:=rfl;clear q HM;intro g4 u4 HG4 HM))))
    refine (HC.out _).mono ?_
    rintro e w3 ⟨rfl, hb⟩
    replace HM := Lib.hid (HM.out.below hb)
    clear hb HC
    go_wp2_with (first | (refine q8w (by rfl) ?_) | (first | (refine q9l ?_; first | (first | (refine q8a rfl _ rfl rfl HM (by exact q7m) (by exact q7w) ?_) | (refine q8b rfl _ rfl rfl HM (by exact q7m) (by exact q7w) ?_) | (refine q8c rfl _ rfl rfl HM (by exact q7m) (by exact q7w) (by with_reducible assumption) ?_) | (refine q8d rfl _ rfl rfl HM (by exact q7m) (by exact q7w) (by with_reducible assumption) ?_) | (refine q8c rfl _ rfl rfl HM (by exact q7m) (by exact q7w) (Lib.hid rfl) ?_) | (refine q8d rfl _ rfl rfl HM (by exact q7m) (by exact q7w) (Lib.hid rfl) ?_) | (refine q8e rfl _ rfl rfl HM (by exact q7m) (by exact q7w) ?_) | (refine q8f rfl _ rfl rfl HM (by exact q7m) (by exact q7w) ?_)) | (refine q8q rfl _ _ rfl rfl (by exact q7r) HM (by exact q7m) (by exact q7s) ?_) | (refine q8r rfl _ _ rfl rfl (by exact q7a) HM (by exact q7m) (by exact q7f) (by exact q7l) ?_)) | (refine q9s ?_; first | ((first | refine q8o rfl _ _ rfl rfl rfl HM (by exact q7i) (by exact q7w) (by exact q7w) ?_ | refine q8p rfl _ _ rfl rfl rfl HM (by exact q7i) (by exact q7w) (by exact q7w) ?_); clear HM; intro us HM; dsimp only [List.set] at HM) | ((first | refine q8j rfl _ _ rfl rfl rfl HM (by exact q7i) HSW (by exact q7l) ?_ | refine q8k rfl _ _ rfl rfl rfl HM (by exact q7i) HSW (by exact q7l) ?_ | refine q8l rfl _ _ rfl rfl rfl HM (by exact q7i) HSW ?_ | refine q8m rfl _ _ rfl rfl rfl HM (by exact q7i) HSW ?_ | refine q8n rfl _ _ rfl rfl rfl HM (by exact q7i) HSW (by with_reducible assumption) ?_); clear HM HSW; intro us HM HSW; dsimp only [List.set] at HM HSW) | (refine q8s rfl _ _ _ rfl rfl rfl (by exact q7r) HM (by exact q7i) (by exact q7s) (by exact q7s) (by exact q7o) ?_; clear HM; intro us HM; dsimp only [List.set] at HM)) | (refine q9b ?_; (first | (refine q8g rfl rfl ?_) | (refine q8h rfl _ rfl rfl ?_) | (refine q8i rfl _ rfl rfl (by exact q7w) ?_) | (refine q8v rfl _ rfl (by exact q7a) (by kernel_rfl) ?_))) | ((first | refine q9a ?_ | refine q9x ?_); ((first | refine q8t rfl _ _ rfl rfl HM ?_ | refine q8u rfl _ rfl rowSyn HM ?_ | refine q8u rfl _ rfl rowMou HM ?_ | refine q8u rfl _ rfl (by exact q7r) HM ?_); first | (have q:dV HM = 0:=rfl;clear q HM;intro g1 u1 HG1 HM) | (have q:dV HM = 1:=rfl;clear q HM;intro g2 u2 HG2 HM) | (have q:dV HM = 2:=rfl;clear q HM;intro g3 u3 HG3 HM) | (have q:dV HM = 3:=rfl;clear q HM;intro g4 u4 HG4 HM)))))
    refine (HD.out _).mono ?_
    rintro e w3 ⟨rfl, hb⟩
    replace HM := Lib.hid (HM.out.below hb)
    clear hb HD
    go_wp2_with (first | (refine q8w (by rfl) ?_) | (first | (refine q9l ?_; first | (first | (refine q8a rfl _ rfl rfl HM (by exact q7m) (by exact q7w) ?_) | (refine q8b rfl _ rfl rfl HM (by exact q7m) (by exact q7w) ?_) | (refine q8c rfl _ rfl rfl HM (by exact q7m) (by exact q7w) (by with_reducible assumption) ?_) | (refine q8d rfl _ rfl rfl HM (by exact q7m) (by exact q7w) (by with_reducible assumption) ?_) | (refine q8c rfl _ rfl rfl HM (by exact q7m) (by exact q7w) (Lib.hid rfl) ?_) | (refine q8d rfl _ rfl rfl HM (by exact q7m) (by exact q7w) (Lib.hid rfl) ?_) | (refine q8e rfl _ rfl rfl HM (by exact q7m) (by exact q7w) ?_) | (refine q8f rfl _ rfl rfl HM (by exact q7m) (by exact q7w) ?_)) | (refine q8q rfl _ _ rfl rfl (by exact q7r) HM (by exact q7m) (by exact q7s) ?_) | (refine q8r rfl _ _ rfl rfl (by exact q7a) HM (by exact q7m) (by exact q7f) (by exact q7l) ?_)) | (refine q9s ?_; first | ((first | refine q8o rfl _ _ rfl rfl rfl HM (by exact q7i) (by exact q7w) (by exact q7w) ?_ | refine q8p rfl _ _ rfl rfl rfl HM (by exact q7i) (by exact q7w) (by exact q7w) ?_); clear HM; intro us HM; dsimp only [List.set] at HM) | ((first | refine q8j rfl _ _ rfl rfl rfl HM (by exact q7i) HSW (by exact q7l) ?_ | refine q8k rfl _ _ rfl rfl rfl HM (by exact q7i) HSW (by exact q7l) ?_ | refine q8l rfl _ _ rfl rfl rfl HM (by exact q7i) HSW ?_ | refine q8m rfl _ _ rfl rfl rfl HM (by exact q7i) HSW ?_ | refine q8n rfl _ _ rfl rfl rfl HM (by exact q7i) HSW (by with_reducible assumption) ?_); clear HM HSW; intro us HM HSW; dsimp only [List.set] at HM HSW) | (refine q8s rfl _ _ _ rfl rfl rfl (by exact q7r) HM (by exact q7i) (by exact q7s) (by exact q7s) (by exact q7o) ?_; clear HM; intro us HM; dsimp only [List.set] at HM)) | (refine q9b ?_; (first | (refine q8g rfl rfl ?_) | (refine q8h rfl _ rfl rfl ?_) | (refine q8i rfl _ rfl rfl (by exact q7w) ?_) | (refine q8v rfl _ rfl (by exact q7a) (by kernel_rfl) ?_))) | ((first | refine q9a ?_ | refine q9x ?_); ((first | refine q8t rfl _ _ rfl rfl HM ?_ | refine q8u rfl _ rfl rowSyn HM ?_ | refine q8u rfl _ rfl rowMou HM ?_ | refine q8u rfl _ rfl (by exact q7r) HM ?_); first | (have q:dV HM = 0:=rfl;clear q HM;intro g1 u1 HG1 HM) | (have q:dV HM = 1:=rfl;clear q HM;intro g2 u2 HG2 HM) | (have q:dV HM = 2:=rfl;clear q HM;intro g3 u3 HG3 HM) | (have q:dV HM = 3:=rfl;clear q HM;intro g4 u4 HG4 HM)))))
    go_ret
    exact ⟨rfl, HM.out.1⟩
end Go.Proofs.YtkcoboamejefiaaGreatDoor.Lp
namespace Go.Proofs.YtkcoboamejefiaaGreatDoor.Lp
open Go.RowKit Fx Fq Tb
theorem rem_at (x m : Int) (h1 : 1 ≤ m) (h2 : m ≤ 1000) : ∃ (R : Int) (K : Nat), x.tmod m = R ∧ -m < R ∧ R < m ∧ (R + m).tmod m = (K : Int) ∧ (R + m) % m = (K : Int) ∧ (K : Int) < m := by
 have a1 := Int.tmod_lt_of_pos x (show (0 : Int) < m by omega)
 have a2 : -m < x.tmod m := by
  have := Int.tmod_lt_of_pos (-x) (show (0 : Int) < m by omega)
  rw [Int.neg_tmod] at this
  omega
 generalize x.tmod m = R at a1 a2
 have h0 : 0 ≤ R + m := by omega
 have e : (R + m).tmod m = (R + m) % m := Int.tmod_eq_emod_of_nonneg h0
 have b1 := Int.emod_nonneg (R + m) (show m ≠ 0 by omega)
 have b2 := Int.emod_lt_of_pos (R + m) (show (0 : Int) < m by omega)
 exact ⟨R, ((R + m) % m).toNat, rfl, a2, a1, by rw [e]; omega, by omega, by omega⟩
end Go.Proofs.YtkcoboamejefiaaGreatDoor.Lp
namespace Go.Proofs.YtkcoboamejefiaaGreatDoor.Lp
open Go.RowKit Fx Fq Tb
def All16 (fs : List (List Int)) : Prop := ∀ f ∈ fs, f.length = 16
def RdA (w : World) (A : Option Addr) (n : Nat) (fs : List (List Int)) : Prop :=
 fs.length = n ∧ All16 fs ∧ (0 < n → ∃ ad, A = some ad ∧ ∀ i f, fs[i]? = some f → ∀ j v, (ic f)[j]? = some v → w.cell? ((ad.add (i * 16)).add j) = some v)
section
variable {w w' w0 : World} {A : Option Addr} {n : Nat} {fs : List (List Int)} {L : List (Nat × TypeId × List Int)}
theorem RdA.keep (h : RdA w A n fs) (hk : ∀ p : Addr, p.block < w.heap.size → w'.cell? p = w.cell? p) : RdA w' A n fs :=
 ⟨h.1, h.2.1, fun hn => by
  obtain ⟨ad, e, hc⟩ := h.2.2 hn
  refine ⟨ad, e, fun i f hf j v hv => ?_⟩
  have hcell := hc i f hf j v hv
  exact (hk _ (World.block_lt_of_cell? _ _ hcell)).trans hcell⟩
theorem RdA.below (h : RdA w A n fs) (hb : Below w.heap.size w w') : RdA w' A n fs := h.keep fun _ hp => hb.cell hp
theorem RdA.drew (h : RdA w A n fs) : RdA w.drew A n fs := h
theorem RdA.at_ {k : Nat} (h : RdA w A n fs) (hk : k < n) : ∃ ad f, A = some ad ∧ fs[k]? = some f ∧ f.length = 16 ∧ ∀ j v, (ic f)[j]? = some v → w.cell? ((ad.add (k * 16)).add j) = some v := by
 obtain ⟨ad, e, hc⟩ := h.2.2 (by omega)
 have hl : k < fs.length := by have := h.1; omega
 have hg : fs[k]? = some fs[k] := List.getElem?_eq_getElem hl
 exact ⟨ad, fs[k], e, hg, h.2.1 _ (List.getElem_mem hl), hc k _ hg⟩
end
section
variable {ops : Array Oper} {rest : List Oper} {o : Oper} {a : Act} {w w0 : World} {Q : Exit → Act → World → Prop} {L : List (Nat × TypeId × List Int)}
theorem run_load_any {n : Nat} {T : TypeId} {xs : List Int} (ha : Arr T n) (ad : Addr) (hl : xs.length = n) (hc : ∀ j v, (ic xs)[j]? = some v → w.cell? (ad.add j) = some v) : (loadVar T ad).run Tryz.prog w = .ok (.agg (icells xs)) w := by
 obtain ⟨d, h1, h2⟩ := ha.1
 have hld : (loadCells ad (ic xs).length).run Tryz.prog w = .ok (ic xs).toArray w := run_loadCells_list (P := Tryz.prog) w ad (ic xs) hc
 rw [ic_length, hl] at hld
 have hsz := ha.size
 cases hq : Tryz.prog.info? T with
 | none => simp [hq] at hsz
 | some i =>
  have hs : i.size = n := by simpa [hq] using hsz
  have hagg : (isAgg T).run Tryz.prog w = .ok true w := by
   unfold isAgg
   rw [Sem.run_bind, run_underlying h1 w]
   cases d <;> first | rfl | cases h2
  simp only [loadVar, Sem.run_bind, hagg, Result.andThen_ok, if_true, sizeOf, typeInfo, run_program, hq, Sem.run_pure, hs, hld]
  rfl
end
end Go.Proofs.YtkcoboamejefiaaGreatDoor.Lp
namespace Go.Proofs.YtkcoboamejefiaaGreatDoor.Lp
open Go.RowKit Fx Fq Tb
open Cd (De FineD fineD0 d0 nxE nxK decV dcC isB_parts)
open Yr (stR inB rdR rd_thru thru kT kindR lvO nmO chkB wrB rd_one wrB_len chkB_iff)
theorem gkind_any {w0 w : World} {gR n c : Nat} {A : Option Addr} {inp : List Bool} (hb : Hid (Below w0.heap.size w0 w)) (hg : w0.heap.size ≤ gR) (hB : Hid (Blk w gR 120 (dcC (d0 inp) A n c (inp.length : Int)))) (hr : Hid (Rd w A n (pack inp))) (hL : inp.length ≤ 60000) :
  Calls Tryz.prog 38 #[.pointer (some ⟨gR, 0, none⟩)] w (fun e u => e = .returned (.tuple #[.int .i64 (kindR inp), .int .i64 0]) ∧ Below w0.heap.size w0 u) := by
 have HM := Lib.hid (MV.start w)
 have hmf : ∀ (fn : Fn) (first cap : Array Value) (w : World), (Instr.makeFunc fn first cap).run Tryz.prog w = .ok (.func fn first cap) w := fun _ _ _ _ => rfl
 have HG := Lib.hid hg
 have HL := Lib.hid hL
 have H1 := Lib.hid (show 0 < [(0 : Int)].length by decide)
 clear hg hL
 go_enter Tryz.func38, Tryz.ntmps38
 go_wp2_with (first | ((refine wv_allocI rfl rfl HM ?_); (clear HM; intro g1 u1 HG1 HM)) | (refine wv_put rfl _ _ rfl rfl rfl HM (by exact q7i) H1 ?_; clear HM; intro us HM; dsimp only [List.set] at HM))
 have hlt := hB.out.lt
 have HI := Lib.hid (show RsI w0 g1 gR 1 3 inp (d0 inp, [0]) [] us from RsI.start (K := []) (hB.out.below HM.out.1 hlt) (hr.out.below HM.out.1) (HM.out.get (by exact q7m)) rfl (hb.out.trans (HM.out.1.mono hb.out.size)) (fun e he => nomatch he))
 have HT := Lib.hid (telRead (N := 1) (TF := 3) (inp := inp) (⟨by have := HG1.out; omega, by have := HG1.out; have := hb.out.size; omega, HG.out⟩ : RsG w0 g1 gR) HL.out)
 have HC := Lib.hid (tkind_any (d0 inp, [0]) [] us HT HI (by omega) (Nat.le_refl _))
 rw [show stR inp (d0 inp, [0]) kT 0 0 = some (nxE inp (d0 inp) kT, [kindR inp]) from by
  unfold stR
  rw [if_pos (show (d0 inp, ([0] : List Int)).1.at_ ≤ inp.length + 32 from by show 32 ≤ inp.length + 32; omega)]
  simp [kindR]] at HC
 clear HI HT hlt HM
 refine HC.out.mono ?_
 rintro e w3 ⟨rfl, hi⟩
 have HB := Lib.hid hi.blw
 have c0 := blk_at hi.bF (i := 0) (by show 0 < 1; omega)
 simp at c0
 clear hi HC
 go_wp2
 go_ret2
 exact ⟨rfl, HB.out⟩
theorem fkind_any (A : Option Addr) (n c : Nat) (bs : List Nat) (w : World) (hr : Hid (Rd w A n bs)) (_hn : n ≤ maxLen) :
  Calls Tryz.prog 20 #[.slice A n c] w (ValQ w (kdV bs)) := by
 have hlen := hr.out.1
 by_cases h : 1 ≤ n ∧ n ≤ 40
 ·have HV : kdV bs = .tuple #[.int .i64 (kindR (inB bs)), .int .i64 0] := by unfold kdV; rw [if_pos (by omega)]
  rw [HV]
  have HO := Lib.hid (open_yes A n c bs w hr h.1 h.2)
  have HLb := Lib.hid (show (inB bs).length ≤ 60000 by rw [inB_len]; omega)
  clear h hlen HV
  go_enter Tryz.func20, Tryz.ntmps20
  go_wp2_with fail
  refine HO.out.mono ?_
  rintro e w2 ⟨gR, rfl, hg, ⟨A2, n2, c2, hB, hR⟩, hb⟩
  have HC := Lib.hid (gkind_any (Lib.hid hb) hg (Lib.hid hB) (Lib.hid hR) HLb.out)
  clear hg hB hR hb HO
  go_wp2_with fail
  refine HC.out.mono ?_
  rintro e w3 ⟨rfl, hb⟩
  have HB := Lib.hid hb
  clear hb HC
  go_wp2
  go_ret2
  exact ⟨rfl, HB.out⟩
 ·have HV : kdV bs = .tuple #[.int .i64 0, .int .i64 21] := by unfold kdV; rw [if_neg (by omega)]
  rw [HV]
  have HO := Lib.hid (open_no A n c w h)
  clear h hlen HV
  go_enter Tryz.func20, Tryz.ntmps20
  go_wp2_with fail
  refine HO.out.mono ?_
  rintro e w2 ⟨rfl, hb⟩
  have HB := Lib.hid hb
  clear hb HO
  go_wp2
  go_ret2
  exact ⟨rfl, HB.out⟩
end Go.Proofs.YtkcoboamejefiaaGreatDoor.Lp
