/-
  Encoder: whoever hears all has what the one who talks says.
-/
import Derived.Test.YtkdbhndegkldcaaGreatDoorK6
set_option maxHeartbeats 8000000
set_option linter.unusedSimpArgs false
set_option linter.unusedVariables false
set_option maxRecDepth 100000
/- Nj -/
namespace Go.Proofs.YtkdbhndegkldcaaGreatDoor.Lp
open Go.RowKit Fx Fq Tb
open Yr (Fr chkB chkB_iff nearB nearN wrB wrB_len kindR inB kind_back rd_back)
theorem rd_sameE {K : Int} {l q p : List Int} (h : Fr K l q p) (ll : l.length = 6) (lq : q.length = 16) : rdV (wrB K l q p) p = .tuple #[.agg (icells (frL K l q)), .int .i64 0] := by
 unfold rdV
 rw [if_pos h.ahead, rd_back h ll lq]
theorem byT_read {t : Ty} {p : List Int} (hk : okSy t.s = true) (hb : byT t p ≠ []) : ∃ F : List Int, rdV (byT t p) t.s.l = .tuple #[.agg (icells F), .int .i64 0] ∧ F.length = 23 := by
 unfold byT at hb ⊢
 split
 ·exact ⟨_, rd_sameE (fr_talk p hk) (lv_len t p) (small_len _ _), frL_len (lv_len t p) (small_len _ _)⟩
 ·rename_i h
  rw [if_neg h] at hb
  unfold restB at hb ⊢
  split
  ·exact ⟨_, rd_sameE (fr_rest p hk) (lv_len t p) (zr_length 16), frL_len (lv_len t p) (zr_length 16)⟩
  ·rename_i h2
   rw [if_neg h2] at hb
   exact absurd rfl hb
theorem next_step {s : Sy} {bs : List Nat} (h : bs ≠ []) : nextD s bs = stepS s bs := if_neg h
theorem next_rest {s : Sy} : nextD s [] = restS s := if_pos rfl
theorem local_law (A : Option Addr) (n c : Nat) (fs : List (List Int)) (w : World) (hr : Hid (RdA w A n fs)) (hn : n ≤ maxLen) (he : Edg w) :
  Calls Tryz.prog 6 #[.slice A n c] w (ValQ w (.bool true)) := by
 have HM := Lib.hid (MV.start w)
 have HE := Lib.hid he
 have LZ := Lib.hid (zr_length 16)
 have LZ3 := Lib.hid (zr_length 23)
 have HGD := Lib.hid (fun u b (h : Hid (RdA u A n fs)) (hb : goodB fs = b) => egood_any A n c fs b u h hn hb)
 have hn1 : n ≤ 9223372036854775807 := by unfold maxLen at hn; omega
 clear hn he
 cases hg : goodB fs with
 | false =>
  have HG := Lib.hid (fun u h => HGD.out u false h hg)
  clear HGD hg
  go_enter Tryz.func6, Tryz.ntmps6
  go_wp2_with (first | (refine tQl ?_) | (refine tQs ?_; clear HM; intro us HM; dsimp only [List.set] at HM) | (refine tQt ?_; clear HM HTW; intro us HM HTW; dsimp only [List.set] at HM HTW) | (refine tQb ?_) | (refine tQn ?_; first | (have q:dV HM = 0:=rfl;clear q HM;intro g1 u1 HG1 HM) | (have q:dV HM = 1:=rfl;clear q HM;intro g2 u2 HG2 HM) | (have q:dV HM = 2:=rfl;clear q HM;intro g3 u3 HG3 HM) | (have q:dV HM = 3:=rfl;clear q HM;intro g4 u4 HG4 HM) | (have q:dV HM = 4:=rfl;clear q HM;intro g5 u5 HG5 HM) | (have q:dV HM = 5:=rfl;clear q HM;intro g6 u6 HG6 HM) | (have q:dV HM = 6:=rfl;clear q HM;intro g7 u7 HG7 HM) | (have q:dV HM = 7:=rfl;clear q HM;intro g8 u8 HG8 HM) | (have q:dV HM = 8:=rfl;clear q HM;intro g9 u9 HG9 HM) | (have q:dV HM = 9:=rfl;clear q HM;intro g10 u10 HG10 HM)) | (first | (refine aQl ?_) | (refine aQs ?_; clear HM; intro us HM; dsimp only [List.set] at HM) | (refine aQt ?_; clear HM HSW; intro us HM HSW; dsimp only [List.set] at HM HSW) | (refine aQv ?_; clear HM; intro us HM; dsimp only [List.set] at HM) | (refine aQb ?_) | (refine aQn ?_; first | (have q:dV HM = 0:=rfl;clear q HM;intro g1 u1 HG1 HM) | (have q:dV HM = 1:=rfl;clear q HM;intro g2 u2 HG2 HM) | (have q:dV HM = 2:=rfl;clear q HM;intro g3 u3 HG3 HM) | (have q:dV HM = 3:=rfl;clear q HM;intro g4 u4 HG4 HM) | (have q:dV HM = 4:=rfl;clear q HM;intro g5 u5 HG5 HM) | (have q:dV HM = 5:=rfl;clear q HM;intro g6 u6 HG6 HM) | (have q:dV HM = 6:=rfl;clear q HM;intro g7 u7 HG7 HM) | (have q:dV HM = 7:=rfl;clear q HM;intro g8 u8 HG8 HM) | (have q:dV HM = 8:=rfl;clear q HM;intro g9 u9 HG9 HM) | (have q:dV HM = 9:=rfl;clear q HM;intro g10 u10 HG10 HM))))
  refine (elive_any _ (HE.out.below HM.out.1)).mono ?_
  rintro e w2 ⟨rfl, hb⟩
  replace HM := Lib.hid (HM.out.below hb)
  clear hb
  go_wp2_with (first | (refine tQl ?_) | (refine tQs ?_; clear HM; intro us HM; dsimp only [List.set] at HM) | (refine tQt ?_; clear HM HTW; intro us HM HTW; dsimp only [List.set] at HM HTW) | (refine tQb ?_) | (refine tQn ?_; first | (have q:dV HM = 0:=rfl;clear q HM;intro g1 u1 HG1 HM) | (have q:dV HM = 1:=rfl;clear q HM;intro g2 u2 HG2 HM) | (have q:dV HM = 2:=rfl;clear q HM;intro g3 u3 HG3 HM) | (have q:dV HM = 3:=rfl;clear q HM;intro g4 u4 HG4 HM) | (have q:dV HM = 4:=rfl;clear q HM;intro g5 u5 HG5 HM) | (have q:dV HM = 5:=rfl;clear q HM;intro g6 u6 HG6 HM) | (have q:dV HM = 6:=rfl;clear q HM;intro g7 u7 HG7 HM) | (have q:dV HM = 7:=rfl;clear q HM;intro g8 u8 HG8 HM) | (have q:dV HM = 8:=rfl;clear q HM;intro g9 u9 HG9 HM) | (have q:dV HM = 9:=rfl;clear q HM;intro g10 u10 HG10 HM)) | (first | (refine aQl ?_) | (refine aQs ?_; clear HM; intro us HM; dsimp only [List.set] at HM) | (refine aQt ?_; clear HM HSW; intro us HM HSW; dsimp only [List.set] at HM HSW) | (refine aQv ?_; clear HM; intro us HM; dsimp only [List.set] at HM) | (refine aQb ?_) | (refine aQn ?_; first | (have q:dV HM = 0:=rfl;clear q HM;intro g1 u1 HG1 HM) | (have q:dV HM = 1:=rfl;clear q HM;intro g2 u2 HG2 HM) | (have q:dV HM = 2:=rfl;clear q HM;intro g3 u3 HG3 HM) | (have q:dV HM = 3:=rfl;clear q HM;intro g4 u4 HG4 HM) | (have q:dV HM = 4:=rfl;clear q HM;intro g5 u5 HG5 HM) | (have q:dV HM = 5:=rfl;clear q HM;intro g6 u6 HG6 HM) | (have q:dV HM = 6:=rfl;clear q HM;intro g7 u7 HG7 HM) | (have q:dV HM = 7:=rfl;clear q HM;intro g8 u8 HG8 HM) | (have q:dV HM = 8:=rfl;clear q HM;intro g9 u9 HG9 HM) | (have q:dV HM = 9:=rfl;clear q HM;intro g10 u10 HG10 HM))))
  refine (HG.out _ (Lib.hid (hr.out.below HM.out.1))).mono ?_
  rintro e w3 ⟨rfl, hb⟩
  replace HM := Lib.hid (HM.out.below hb)
  clear hb HG
  go_wp2_with (first | (refine tQl ?_) | (refine tQs ?_; clear HM; intro us HM; dsimp only [List.set] at HM) | (refine tQt ?_; clear HM HTW; intro us HM HTW; dsimp only [List.set] at HM HTW) | (refine tQb ?_) | (refine tQn ?_; first | (have q:dV HM = 0:=rfl;clear q HM;intro g1 u1 HG1 HM) | (have q:dV HM = 1:=rfl;clear q HM;intro g2 u2 HG2 HM) | (have q:dV HM = 2:=rfl;clear q HM;intro g3 u3 HG3 HM) | (have q:dV HM = 3:=rfl;clear q HM;intro g4 u4 HG4 HM) | (have q:dV HM = 4:=rfl;clear q HM;intro g5 u5 HG5 HM) | (have q:dV HM = 5:=rfl;clear q HM;intro g6 u6 HG6 HM) | (have q:dV HM = 6:=rfl;clear q HM;intro g7 u7 HG7 HM) | (have q:dV HM = 7:=rfl;clear q HM;intro g8 u8 HG8 HM) | (have q:dV HM = 8:=rfl;clear q HM;intro g9 u9 HG9 HM) | (have q:dV HM = 9:=rfl;clear q HM;intro g10 u10 HG10 HM)) | (first | (refine aQl ?_) | (refine aQs ?_; clear HM; intro us HM; dsimp only [List.set] at HM) | (refine aQt ?_; clear HM HSW; intro us HM HSW; dsimp only [List.set] at HM HSW) | (refine aQv ?_; clear HM; intro us HM; dsimp only [List.set] at HM) | (refine aQb ?_) | (refine aQn ?_; first | (have q:dV HM = 0:=rfl;clear q HM;intro g1 u1 HG1 HM) | (have q:dV HM = 1:=rfl;clear q HM;intro g2 u2 HG2 HM) | (have q:dV HM = 2:=rfl;clear q HM;intro g3 u3 HG3 HM) | (have q:dV HM = 3:=rfl;clear q HM;intro g4 u4 HG4 HM) | (have q:dV HM = 4:=rfl;clear q HM;intro g5 u5 HG5 HM) | (have q:dV HM = 5:=rfl;clear q HM;intro g6 u6 HG6 HM) | (have q:dV HM = 6:=rfl;clear q HM;intro g7 u7 HG7 HM) | (have q:dV HM = 7:=rfl;clear q HM;intro g8 u8 HG8 HM) | (have q:dV HM = 8:=rfl;clear q HM;intro g9 u9 HG9 HM) | (have q:dV HM = 9:=rfl;clear q HM;intro g10 u10 HG10 HM))))
  go_ret
  exact ⟨rfl, HM.out.1⟩
 | true =>
  have HG := Lib.hid (fun u h => HGD.out u true h hg)
  obtain ⟨h40, hok⟩ := goodB_iff hg
  have hl : fs.length = n := hr.out.1
  have HOK := Lib.hid hok
  have hn4 : n ≤ 40 := by omega
  clear HGD hg h40 hl hok
  go_enter Tryz.func6, Tryz.ntmps6
  go_wp2_with (first | (refine tQl ?_) | (refine tQs ?_; clear HM; intro us HM; dsimp only [List.set] at HM) | (refine tQt ?_; clear HM HTW; intro us HM HTW; dsimp only [List.set] at HM HTW) | (refine tQb ?_) | (refine tQn ?_; first | (have q:dV HM = 0:=rfl;clear q HM;intro g1 u1 HG1 HM) | (have q:dV HM = 1:=rfl;clear q HM;intro g2 u2 HG2 HM) | (have q:dV HM = 2:=rfl;clear q HM;intro g3 u3 HG3 HM) | (have q:dV HM = 3:=rfl;clear q HM;intro g4 u4 HG4 HM) | (have q:dV HM = 4:=rfl;clear q HM;intro g5 u5 HG5 HM) | (have q:dV HM = 5:=rfl;clear q HM;intro g6 u6 HG6 HM) | (have q:dV HM = 6:=rfl;clear q HM;intro g7 u7 HG7 HM) | (have q:dV HM = 7:=rfl;clear q HM;intro g8 u8 HG8 HM) | (have q:dV HM = 8:=rfl;clear q HM;intro g9 u9 HG9 HM) | (have q:dV HM = 9:=rfl;clear q HM;intro g10 u10 HG10 HM)) | (first | (refine aQl ?_) | (refine aQs ?_; clear HM; intro us HM; dsimp only [List.set] at HM) | (refine aQt ?_; clear HM HSW; intro us HM HSW; dsimp only [List.set] at HM HSW) | (refine aQv ?_; clear HM; intro us HM; dsimp only [List.set] at HM) | (refine aQb ?_) | (refine aQn ?_; first | (have q:dV HM = 0:=rfl;clear q HM;intro g1 u1 HG1 HM) | (have q:dV HM = 1:=rfl;clear q HM;intro g2 u2 HG2 HM) | (have q:dV HM = 2:=rfl;clear q HM;intro g3 u3 HG3 HM) | (have q:dV HM = 3:=rfl;clear q HM;intro g4 u4 HG4 HM) | (have q:dV HM = 4:=rfl;clear q HM;intro g5 u5 HG5 HM) | (have q:dV HM = 5:=rfl;clear q HM;intro g6 u6 HG6 HM) | (have q:dV HM = 6:=rfl;clear q HM;intro g7 u7 HG7 HM) | (have q:dV HM = 7:=rfl;clear q HM;intro g8 u8 HG8 HM) | (have q:dV HM = 8:=rfl;clear q HM;intro g9 u9 HG9 HM) | (have q:dV HM = 9:=rfl;clear q HM;intro g10 u10 HG10 HM))))
  refine (elive_any _ (HE.out.below HM.out.1)).mono ?_
  rintro e w2 ⟨rfl, hb⟩
  replace HM := Lib.hid (HM.out.below hb)
  clear hb
  go_wp2_with (first | (refine tQl ?_) | (refine tQs ?_; clear HM; intro us HM; dsimp only [List.set] at HM) | (refine tQt ?_; clear HM HTW; intro us HM HTW; dsimp only [List.set] at HM HTW) | (refine tQb ?_) | (refine tQn ?_; first | (have q:dV HM = 0:=rfl;clear q HM;intro g1 u1 HG1 HM) | (have q:dV HM = 1:=rfl;clear q HM;intro g2 u2 HG2 HM) | (have q:dV HM = 2:=rfl;clear q HM;intro g3 u3 HG3 HM) | (have q:dV HM = 3:=rfl;clear q HM;intro g4 u4 HG4 HM) | (have q:dV HM = 4:=rfl;clear q HM;intro g5 u5 HG5 HM) | (have q:dV HM = 5:=rfl;clear q HM;intro g6 u6 HG6 HM) | (have q:dV HM = 6:=rfl;clear q HM;intro g7 u7 HG7 HM) | (have q:dV HM = 7:=rfl;clear q HM;intro g8 u8 HG8 HM) | (have q:dV HM = 8:=rfl;clear q HM;intro g9 u9 HG9 HM) | (have q:dV HM = 9:=rfl;clear q HM;intro g10 u10 HG10 HM)) | (first | (refine aQl ?_) | (refine aQs ?_; clear HM; intro us HM; dsimp only [List.set] at HM) | (refine aQt ?_; clear HM HSW; intro us HM HSW; dsimp only [List.set] at HM HSW) | (refine aQv ?_; clear HM; intro us HM; dsimp only [List.set] at HM) | (refine aQb ?_) | (refine aQn ?_; first | (have q:dV HM = 0:=rfl;clear q HM;intro g1 u1 HG1 HM) | (have q:dV HM = 1:=rfl;clear q HM;intro g2 u2 HG2 HM) | (have q:dV HM = 2:=rfl;clear q HM;intro g3 u3 HG3 HM) | (have q:dV HM = 3:=rfl;clear q HM;intro g4 u4 HG4 HM) | (have q:dV HM = 4:=rfl;clear q HM;intro g5 u5 HG5 HM) | (have q:dV HM = 5:=rfl;clear q HM;intro g6 u6 HG6 HM) | (have q:dV HM = 6:=rfl;clear q HM;intro g7 u7 HG7 HM) | (have q:dV HM = 7:=rfl;clear q HM;intro g8 u8 HG8 HM) | (have q:dV HM = 8:=rfl;clear q HM;intro g9 u9 HG9 HM) | (have q:dV HM = 9:=rfl;clear q HM;intro g10 u10 HG10 HM))))
  refine (HG.out _ (Lib.hid (hr.out.below HM.out.1))).mono ?_
  rintro e w3 ⟨rfl, hb⟩
  replace HM := Lib.hid (HM.out.below hb)
  clear hb HG
  go_wp2_with (first | (refine tQl ?_) | (refine tQs ?_; clear HM; intro us HM; dsimp only [List.set] at HM) | (refine tQt ?_; clear HM HTW; intro us HM HTW; dsimp only [List.set] at HM HTW) | (refine tQb ?_) | (refine tQn ?_; first | (have q:dV HM = 0:=rfl;clear q HM;intro g1 u1 HG1 HM) | (have q:dV HM = 1:=rfl;clear q HM;intro g2 u2 HG2 HM) | (have q:dV HM = 2:=rfl;clear q HM;intro g3 u3 HG3 HM) | (have q:dV HM = 3:=rfl;clear q HM;intro g4 u4 HG4 HM) | (have q:dV HM = 4:=rfl;clear q HM;intro g5 u5 HG5 HM) | (have q:dV HM = 5:=rfl;clear q HM;intro g6 u6 HG6 HM) | (have q:dV HM = 6:=rfl;clear q HM;intro g7 u7 HG7 HM) | (have q:dV HM = 7:=rfl;clear q HM;intro g8 u8 HG8 HM) | (have q:dV HM = 8:=rfl;clear q HM;intro g9 u9 HG9 HM) | (have q:dV HM = 9:=rfl;clear q HM;intro g10 u10 HG10 HM)) | (first | (refine aQl ?_) | (refine aQs ?_; clear HM; intro us HM; dsimp only [List.set] at HM) | (refine aQt ?_; clear HM HSW; intro us HM HSW; dsimp only [List.set] at HM HSW) | (refine aQv ?_; clear HM; intro us HM; dsimp only [List.set] at HM) | (refine aQb ?_) | (refine aQn ?_; first | (have q:dV HM = 0:=rfl;clear q HM;intro g1 u1 HG1 HM) | (have q:dV HM = 1:=rfl;clear q HM;intro g2 u2 HG2 HM) | (have q:dV HM = 2:=rfl;clear q HM;intro g3 u3 HG3 HM) | (have q:dV HM = 3:=rfl;clear q HM;intro g4 u4 HG4 HM) | (have q:dV HM = 4:=rfl;clear q HM;intro g5 u5 HG5 HM) | (have q:dV HM = 5:=rfl;clear q HM;intro g6 u6 HG6 HM) | (have q:dV HM = 6:=rfl;clear q HM;intro g7 u7 HG7 HM) | (have q:dV HM = 7:=rfl;clear q HM;intro g8 u8 HG8 HM) | (have q:dV HM = 8:=rfl;clear q HM;intro g9 u9 HG9 HM) | (have q:dV HM = 9:=rfl;clear q HM;intro g10 u10 HG10 HM))))
  refine (estart_any _).mono ?_
  rintro e w4 ⟨rfl, hb⟩
  replace HM := Lib.hid (HM.out.below hb)
  clear hb
  have HTW := Lib.hid tyW_one
  go_wp2_with (first | (refine tQl ?_) | (refine tQs ?_; clear HM; intro us HM; dsimp only [List.set] at HM) | (refine tQt ?_; clear HM HTW; intro us HM HTW; dsimp only [List.set] at HM HTW) | (refine tQb ?_) | (refine tQn ?_; first | (have q:dV HM = 0:=rfl;clear q HM;intro g1 u1 HG1 HM) | (have q:dV HM = 1:=rfl;clear q HM;intro g2 u2 HG2 HM) | (have q:dV HM = 2:=rfl;clear q HM;intro g3 u3 HG3 HM) | (have q:dV HM = 3:=rfl;clear q HM;intro g4 u4 HG4 HM) | (have q:dV HM = 4:=rfl;clear q HM;intro g5 u5 HG5 HM) | (have q:dV HM = 5:=rfl;clear q HM;intro g6 u6 HG6 HM) | (have q:dV HM = 6:=rfl;clear q HM;intro g7 u7 HG7 HM) | (have q:dV HM = 7:=rfl;clear q HM;intro g8 u8 HG8 HM) | (have q:dV HM = 8:=rfl;clear q HM;intro g9 u9 HG9 HM) | (have q:dV HM = 9:=rfl;clear q HM;intro g10 u10 HG10 HM)) | (first | (refine aQl ?_) | (refine aQs ?_; clear HM; intro us HM; dsimp only [List.set] at HM) | (refine aQt ?_; clear HM HSW; intro us HM HSW; dsimp only [List.set] at HM HSW) | (refine aQv ?_; clear HM; intro us HM; dsimp only [List.set] at HM) | (refine aQb ?_) | (refine aQn ?_; first | (have q:dV HM = 0:=rfl;clear q HM;intro g1 u1 HG1 HM) | (have q:dV HM = 1:=rfl;clear q HM;intro g2 u2 HG2 HM) | (have q:dV HM = 2:=rfl;clear q HM;intro g3 u3 HG3 HM) | (have q:dV HM = 3:=rfl;clear q HM;intro g4 u4 HG4 HM) | (have q:dV HM = 4:=rfl;clear q HM;intro g5 u5 HG5 HM) | (have q:dV HM = 5:=rfl;clear q HM;intro g6 u6 HG6 HM) | (have q:dV HM = 6:=rfl;clear q HM;intro g7 u7 HG7 HM) | (have q:dV HM = 7:=rfl;clear q HM;intro g8 u8 HG8 HM) | (have q:dV HM = 8:=rfl;clear q HM;intro g9 u9 HG9 HM) | (have q:dV HM = 9:=rfl;clear q HM;intro g10 u10 HG10 HM))))
  refine (pstart_any _).mono ?_
  rintro e w5 ⟨rfl, hb⟩
  replace HM := Lib.hid (HM.out.below hb)
  clear hb
  go_wp2_with (first | (refine tQl ?_) | (refine tQs ?_; clear HM; intro us HM; dsimp only [List.set] at HM) | (refine tQt ?_; clear HM HTW; intro us HM HTW; dsimp only [List.set] at HM HTW) | (refine tQb ?_) | (refine tQn ?_; first | (have q:dV HM = 0:=rfl;clear q HM;intro g1 u1 HG1 HM) | (have q:dV HM = 1:=rfl;clear q HM;intro g2 u2 HG2 HM) | (have q:dV HM = 2:=rfl;clear q HM;intro g3 u3 HG3 HM) | (have q:dV HM = 3:=rfl;clear q HM;intro g4 u4 HG4 HM) | (have q:dV HM = 4:=rfl;clear q HM;intro g5 u5 HG5 HM) | (have q:dV HM = 5:=rfl;clear q HM;intro g6 u6 HG6 HM) | (have q:dV HM = 6:=rfl;clear q HM;intro g7 u7 HG7 HM) | (have q:dV HM = 7:=rfl;clear q HM;intro g8 u8 HG8 HM) | (have q:dV HM = 8:=rfl;clear q HM;intro g9 u9 HG9 HM) | (have q:dV HM = 9:=rfl;clear q HM;intro g10 u10 HG10 HM)) | (first | (refine aQl ?_) | (refine aQs ?_; clear HM; intro us HM; dsimp only [List.set] at HM) | (refine aQt ?_; clear HM HSW; intro us HM HSW; dsimp only [List.set] at HM HSW) | (refine aQv ?_; clear HM; intro us HM; dsimp only [List.set] at HM) | (refine aQb ?_) | (refine aQn ?_; first | (have q:dV HM = 0:=rfl;clear q HM;intro g1 u1 HG1 HM) | (have q:dV HM = 1:=rfl;clear q HM;intro g2 u2 HG2 HM) | (have q:dV HM = 2:=rfl;clear q HM;intro g3 u3 HG3 HM) | (have q:dV HM = 3:=rfl;clear q HM;intro g4 u4 HG4 HM) | (have q:dV HM = 4:=rfl;clear q HM;intro g5 u5 HG5 HM) | (have q:dV HM = 5:=rfl;clear q HM;intro g6 u6 HG6 HM) | (have q:dV HM = 6:=rfl;clear q HM;intro g7 u7 HG7 HM) | (have q:dV HM = 7:=rfl;clear q HM;intro g8 u8 HG8 HM) | (have q:dV HM = 8:=rfl;clear q HM;intro g9 u9 HG9 HM) | (have q:dV HM = 9:=rfl;clear q HM;intro g10 u10 HG10 HM))))
  have HS0 := Lib.hid (show MV w w [(g2, 32, syC Ty.one.s), (g1, 52, tyC Ty.one)] _ from HM.out)
  clear HM HTW HG1 HG2
  go_loopw [23] (fun vi wr => ∃ (k : Nat) (t : Ty), k ≤ n ∧ vi = .int .i64 (k : Int) ∧ Hid (TyN k t) ∧ Hid (MV w w [(g2, 32, syC t.s), (g1, 52, tyC t)] wr)) (fun vi _ => n - (intOf vi).toNat)
  case atStart => exact ⟨0, Ty.one, by omega, rfl, Lib.hid tyN_one, HS0⟩
  case round =>
   clear HS0
   obtain ⟨k, t, hk, rfl, HT, HM⟩ := hrel
   have HTW := Lib.hid HT.out.w
   have HSW := Lib.hid HT.out.w.sy
   by_cases hlt : k < n
   ·have k6 : (k : Int) < (n : Int) := by omega
    obtain ⟨ad, p, rfl, hp, lp, hc⟩ := (hr.out.below HM.out.1).at_ hlt
    have LP := Lib.hid lp
    have HLD := Lib.hid (run_load_any arrPcm (ad.add (k * 16)) lp hc)
    have HST := Lib.hid (fun u h => estep_any t p u (Lib.hid HT.out.w) (HT.out.ok (by omega)) lp (HOK.out k p hp) h)
    have HNX := Lib.hid (HT.out.next (by omega) lp (HOK.out k p hp))
    have st := tstp_ok (t := t) (p := p) HT.out.w.sy HT.out.oks
    obtain ⟨o, ho⟩ := st.nx
    rw [show heaS t.s (byT t p) = (nexT t p).s from rfl] at ho
    have HSM := Lib.hid (fun u => psame_any (nexT t p).s u (Lib.hid HNX.out.w.sy) HNX.out.oks)
    have HQ1 := Lib.hid (fun u => run_same_sy HNX.out.w.sy u)
    have hbl := byT_len (t := t) (p := p) HT.out.oks
    have hrd := byT_read (t := t) (p := p) HT.out.oks
    unfold EsQ at HST
    generalize nexT t p = T at HST HNX ho HSM HQ1
    generalize byT t p = bs at HST ho hbl hrd
    have HTW2 := Lib.hid HNX.out.w
    have HSW2 := Lib.hid HNX.out.w.sy
    have w5' : IntKind.i64.wrap ((k : Int) + 1) = (k : Int) + 1 := i64_w (by omega) (by omega)
    clear hp lp hc st
    go_wp2_with (first | (refine wv_loadE rfl _ _ rfl rfl HLD ?_) | (first | (refine tQl ?_) | (refine tQs ?_; clear HM; intro us HM; dsimp only [List.set] at HM) | (refine tQt ?_; clear HM HTW; intro us HM HTW; dsimp only [List.set] at HM HTW) | (refine tQb ?_) | (refine tQn ?_; first | (have q:dV HM = 0:=rfl;clear q HM;intro g1 u1 HG1 HM) | (have q:dV HM = 1:=rfl;clear q HM;intro g2 u2 HG2 HM) | (have q:dV HM = 2:=rfl;clear q HM;intro g3 u3 HG3 HM) | (have q:dV HM = 3:=rfl;clear q HM;intro g4 u4 HG4 HM) | (have q:dV HM = 4:=rfl;clear q HM;intro g5 u5 HG5 HM) | (have q:dV HM = 5:=rfl;clear q HM;intro g6 u6 HG6 HM) | (have q:dV HM = 6:=rfl;clear q HM;intro g7 u7 HG7 HM) | (have q:dV HM = 7:=rfl;clear q HM;intro g8 u8 HG8 HM) | (have q:dV HM = 8:=rfl;clear q HM;intro g9 u9 HG9 HM) | (have q:dV HM = 9:=rfl;clear q HM;intro g10 u10 HG10 HM)) | (first | (refine aQl ?_) | (refine aQs ?_; clear HM; intro us HM; dsimp only [List.set] at HM) | (refine aQt ?_; clear HM HSW; intro us HM HSW; dsimp only [List.set] at HM HSW) | (refine aQv ?_; clear HM; intro us HM; dsimp only [List.set] at HM) | (refine aQb ?_) | (refine aQn ?_; first | (have q:dV HM = 0:=rfl;clear q HM;intro g1 u1 HG1 HM) | (have q:dV HM = 1:=rfl;clear q HM;intro g2 u2 HG2 HM) | (have q:dV HM = 2:=rfl;clear q HM;intro g3 u3 HG3 HM) | (have q:dV HM = 3:=rfl;clear q HM;intro g4 u4 HG4 HM) | (have q:dV HM = 4:=rfl;clear q HM;intro g5 u5 HG5 HM) | (have q:dV HM = 5:=rfl;clear q HM;intro g6 u6 HG6 HM) | (have q:dV HM = 6:=rfl;clear q HM;intro g7 u7 HG7 HM) | (have q:dV HM = 7:=rfl;clear q HM;intro g8 u8 HG8 HM) | (have q:dV HM = 8:=rfl;clear q HM;intro g9 u9 HG9 HM) | (have q:dV HM = 9:=rfl;clear q HM;intro g10 u10 HG10 HM)))))
    refine (HST.out _ (HE.out.below HM.out.1)).mono ?_
    rintro e w6 ⟨A2, n2, c2, rfl, hn2, hr2, hb⟩
    have HR := Lib.hid hr2
    have HAL := Lib.hid (rd_lt hr2)
    have HM2 := Lib.hid (HM.out.below hb)
    have HAP := Lib.hid (show Apt A2 n2 [g3, g2, g1] from fun ad e hn g hg => by
     simp only [List.mem_cons, List.not_mem_nil, or_false] at hg
     rcases hg with rfl | rfl | rfl
     ·exact rd_noM hr2 (HM2.out.get (by exact q7m)) (icells8 _) e hn
     ·exact rd_noM hr2 (HM2.out.get (by exact q7m)) (syn8 HSW.out) e hn
     ·exact rd_noM hr2 (HM2.out.get (by exact q7m)) (tyC8 _) e hn)
    have hl2 : n2 ≤ 40 := by rw [← hr2.1]; exact hbl
    have d40 : decide (40 < (n2 : Int)) = false := decide_eq_false (by omega)
    have d41 : decide (40 < n2) = false := decide_eq_false (by omega)
    clear hb HM HST HLD hbl
    have HM := Lib.hid HM2.out.base
    clear HM2
    by_cases h0 : n2 = 0
    ·subst h0
     have hbs : bs = [] := List.eq_nil_of_length_eq_zero hr2.1
     subst hbs
     rw [next_rest] at ho
     have HPR := Lib.hid (fun u (h : Edg u) => prest_any t.s u (Lib.hid HT.out.w.sy) h)
     rw [ho] at HPR
     clear ho hrd hn2 hr2 hl2 HAP HAL HR
     go_wp2_with (first | (refine q9g ?_; refine q8w (by rfl) ?_) | (first | (refine tQl ?_) | (refine tQs ?_; clear HM; intro us HM; dsimp only [List.set] at HM) | (refine tQt ?_; clear HM HTW; intro us HM HTW; dsimp only [List.set] at HM HTW) | (refine tQb ?_) | (refine tQn ?_; first | (have q:dV HM = 0:=rfl;clear q HM;intro g1 u1 HG1 HM) | (have q:dV HM = 1:=rfl;clear q HM;intro g2 u2 HG2 HM) | (have q:dV HM = 2:=rfl;clear q HM;intro g3 u3 HG3 HM) | (have q:dV HM = 3:=rfl;clear q HM;intro g4 u4 HG4 HM) | (have q:dV HM = 4:=rfl;clear q HM;intro g5 u5 HG5 HM) | (have q:dV HM = 5:=rfl;clear q HM;intro g6 u6 HG6 HM) | (have q:dV HM = 6:=rfl;clear q HM;intro g7 u7 HG7 HM) | (have q:dV HM = 7:=rfl;clear q HM;intro g8 u8 HG8 HM) | (have q:dV HM = 8:=rfl;clear q HM;intro g9 u9 HG9 HM) | (have q:dV HM = 9:=rfl;clear q HM;intro g10 u10 HG10 HM)) | (first | (refine aQl ?_) | (refine aQs ?_; clear HM; intro us HM; dsimp only [List.set] at HM) | (refine aQt ?_; clear HM HSW; intro us HM HSW; dsimp only [List.set] at HM HSW) | (refine aQv ?_; clear HM; intro us HM; dsimp only [List.set] at HM) | (refine aQb ?_) | (refine aQn ?_; first | (have q:dV HM = 0:=rfl;clear q HM;intro g1 u1 HG1 HM) | (have q:dV HM = 1:=rfl;clear q HM;intro g2 u2 HG2 HM) | (have q:dV HM = 2:=rfl;clear q HM;intro g3 u3 HG3 HM) | (have q:dV HM = 3:=rfl;clear q HM;intro g4 u4 HG4 HM) | (have q:dV HM = 4:=rfl;clear q HM;intro g5 u5 HG5 HM) | (have q:dV HM = 5:=rfl;clear q HM;intro g6 u6 HG6 HM) | (have q:dV HM = 6:=rfl;clear q HM;intro g7 u7 HG7 HM) | (have q:dV HM = 7:=rfl;clear q HM;intro g8 u8 HG8 HM) | (have q:dV HM = 8:=rfl;clear q HM;intro g9 u9 HG9 HM) | (have q:dV HM = 9:=rfl;clear q HM;intro g10 u10 HG10 HM)))))
     refine (HPR.out _ (HE.out.below HM.out.1)).mono ?_
     rintro e w7 ⟨rfl, hb, hw, ho⟩
     replace HM := Lib.hid (HM.out.below hb)
     clear hb HPR hw ho
     dsimp only [dsV]
     go_wp2_with (first | (first | (refine tQl ?_) | (refine tQs ?_; clear HM; intro us HM; dsimp only [List.set] at HM) | (refine tQt ?_; clear HM HTW; intro us HM HTW; dsimp only [List.set] at HM HTW) | (refine tQb ?_) | (refine tQn ?_; first | (have q:dV HM = 0:=rfl;clear q HM;intro g1 u1 HG1 HM) | (have q:dV HM = 1:=rfl;clear q HM;intro g2 u2 HG2 HM) | (have q:dV HM = 2:=rfl;clear q HM;intro g3 u3 HG3 HM) | (have q:dV HM = 3:=rfl;clear q HM;intro g4 u4 HG4 HM) | (have q:dV HM = 4:=rfl;clear q HM;intro g5 u5 HG5 HM) | (have q:dV HM = 5:=rfl;clear q HM;intro g6 u6 HG6 HM) | (have q:dV HM = 6:=rfl;clear q HM;intro g7 u7 HG7 HM) | (have q:dV HM = 7:=rfl;clear q HM;intro g8 u8 HG8 HM) | (have q:dV HM = 8:=rfl;clear q HM;intro g9 u9 HG9 HM) | (have q:dV HM = 9:=rfl;clear q HM;intro g10 u10 HG10 HM)) | (first | (refine aQl ?_) | (refine aQs ?_; clear HM; intro us HM; dsimp only [List.set] at HM) | (refine aQt ?_; clear HM HSW; intro us HM HSW; dsimp only [List.set] at HM HSW) | (refine aQv ?_; clear HM; intro us HM; dsimp only [List.set] at HM) | (refine aQb ?_) | (refine aQn ?_; first | (have q:dV HM = 0:=rfl;clear q HM;intro g1 u1 HG1 HM) | (have q:dV HM = 1:=rfl;clear q HM;intro g2 u2 HG2 HM) | (have q:dV HM = 2:=rfl;clear q HM;intro g3 u3 HG3 HM) | (have q:dV HM = 3:=rfl;clear q HM;intro g4 u4 HG4 HM) | (have q:dV HM = 4:=rfl;clear q HM;intro g5 u5 HG5 HM) | (have q:dV HM = 5:=rfl;clear q HM;intro g6 u6 HG6 HM) | (have q:dV HM = 6:=rfl;clear q HM;intro g7 u7 HG7 HM) | (have q:dV HM = 7:=rfl;clear q HM;intro g8 u8 HG8 HM) | (have q:dV HM = 8:=rfl;clear q HM;intro g9 u9 HG9 HM) | (have q:dV HM = 9:=rfl;clear q HM;intro g10 u10 HG10 HM)))) | (show wpList _ _ _ ({ dst := _, op := Op.binOp _ _ _ _ _, type := _, pos := _, after := _, guard := _ } :: _) _ _; (refine aCe ?_)))
     refine (HSM.out _).mono ?_
     rintro e w8 ⟨rfl, hb⟩
     replace HM := Lib.hid (HM.out.below hb)
     clear hb HSM
     go_wp2_with (first | (refine tQl ?_) | (refine tQs ?_; clear HM; intro us HM; dsimp only [List.set] at HM) | (refine tQt ?_; clear HM HTW; intro us HM HTW; dsimp only [List.set] at HM HTW) | (refine tQb ?_) | (refine tQn ?_; first | (have q:dV HM = 0:=rfl;clear q HM;intro g1 u1 HG1 HM) | (have q:dV HM = 1:=rfl;clear q HM;intro g2 u2 HG2 HM) | (have q:dV HM = 2:=rfl;clear q HM;intro g3 u3 HG3 HM) | (have q:dV HM = 3:=rfl;clear q HM;intro g4 u4 HG4 HM) | (have q:dV HM = 4:=rfl;clear q HM;intro g5 u5 HG5 HM) | (have q:dV HM = 5:=rfl;clear q HM;intro g6 u6 HG6 HM) | (have q:dV HM = 6:=rfl;clear q HM;intro g7 u7 HG7 HM) | (have q:dV HM = 7:=rfl;clear q HM;intro g8 u8 HG8 HM) | (have q:dV HM = 8:=rfl;clear q HM;intro g9 u9 HG9 HM) | (have q:dV HM = 9:=rfl;clear q HM;intro g10 u10 HG10 HM)) | (first | (refine aQl ?_) | (refine aQs ?_; clear HM; intro us HM; dsimp only [List.set] at HM) | (refine aQt ?_; clear HM HSW; intro us HM HSW; dsimp only [List.set] at HM HSW) | (refine aQv ?_; clear HM; intro us HM; dsimp only [List.set] at HM) | (refine aQb ?_) | (refine aQn ?_; first | (have q:dV HM = 0:=rfl;clear q HM;intro g1 u1 HG1 HM) | (have q:dV HM = 1:=rfl;clear q HM;intro g2 u2 HG2 HM) | (have q:dV HM = 2:=rfl;clear q HM;intro g3 u3 HG3 HM) | (have q:dV HM = 3:=rfl;clear q HM;intro g4 u4 HG4 HM) | (have q:dV HM = 4:=rfl;clear q HM;intro g5 u5 HG5 HM) | (have q:dV HM = 5:=rfl;clear q HM;intro g6 u6 HG6 HM) | (have q:dV HM = 6:=rfl;clear q HM;intro g7 u7 HG7 HM) | (have q:dV HM = 7:=rfl;clear q HM;intro g8 u8 HG8 HM) | (have q:dV HM = 8:=rfl;clear q HM;intro g9 u9 HG9 HM) | (have q:dV HM = 9:=rfl;clear q HM;intro g10 u10 HG10 HM))))
     go_roundw
     case rel => exact ⟨k + 1, T, by omega, by go_num, HNX, Lib.hid (HM.out.down (by exact q7v))⟩
     case measure => simp [intOf]; omega
    ·have hbs : bs ≠ [] := fun e => h0 (by rw [← hr2.1, e]; rfl)
     have hpos : 0 < (n2 : Int) := by omega
     have hpos2 : 0 < n2 := by omega
     rw [next_step hbs] at ho
     have HPS := Lib.hid (fun u (h : Edg u) (hr : Hid (Rd u A2 n2 bs)) => pstep_any t.s A2 n2 c2 bs u (Lib.hid HT.out.w.sy) hr h)
     rw [ho] at HPS
     obtain ⟨F, hF, lF⟩ := hrd hbs
     have HFR := Lib.hid (fun u (h : Edg u) (hr : Hid (Rd u A2 n2 bs)) => fread_any A2 n2 c2 bs t.s.l u hr HT.out.w.sy.ll h)
     rw [hF] at HFR
     have LF := Lib.hid lF
     clear ho hrd hn2 hr2 hl2 hF lF hbs h0
     go_wp2_with (first | (refine q9g ?_; refine q8w (by rfl) ?_) | (first | (refine tQl ?_) | (refine tQs ?_; clear HM; intro us HM; dsimp only [List.set] at HM) | (refine tQt ?_; clear HM HTW; intro us HM HTW; dsimp only [List.set] at HM HTW) | (refine tQb ?_) | (refine tQn ?_; first | (have q:dV HM = 0:=rfl;clear q HM;intro g1 u1 HG1 HM) | (have q:dV HM = 1:=rfl;clear q HM;intro g2 u2 HG2 HM) | (have q:dV HM = 2:=rfl;clear q HM;intro g3 u3 HG3 HM) | (have q:dV HM = 3:=rfl;clear q HM;intro g4 u4 HG4 HM) | (have q:dV HM = 4:=rfl;clear q HM;intro g5 u5 HG5 HM) | (have q:dV HM = 5:=rfl;clear q HM;intro g6 u6 HG6 HM) | (have q:dV HM = 6:=rfl;clear q HM;intro g7 u7 HG7 HM) | (have q:dV HM = 7:=rfl;clear q HM;intro g8 u8 HG8 HM) | (have q:dV HM = 8:=rfl;clear q HM;intro g9 u9 HG9 HM) | (have q:dV HM = 9:=rfl;clear q HM;intro g10 u10 HG10 HM)) | (first | (refine aQl ?_) | (refine aQs ?_; clear HM; intro us HM; dsimp only [List.set] at HM) | (refine aQt ?_; clear HM HSW; intro us HM HSW; dsimp only [List.set] at HM HSW) | (refine aQv ?_; clear HM; intro us HM; dsimp only [List.set] at HM) | (refine aQb ?_) | (refine aQn ?_; first | (have q:dV HM = 0:=rfl;clear q HM;intro g1 u1 HG1 HM) | (have q:dV HM = 1:=rfl;clear q HM;intro g2 u2 HG2 HM) | (have q:dV HM = 2:=rfl;clear q HM;intro g3 u3 HG3 HM) | (have q:dV HM = 3:=rfl;clear q HM;intro g4 u4 HG4 HM) | (have q:dV HM = 4:=rfl;clear q HM;intro g5 u5 HG5 HM) | (have q:dV HM = 5:=rfl;clear q HM;intro g6 u6 HG6 HM) | (have q:dV HM = 6:=rfl;clear q HM;intro g7 u7 HG7 HM) | (have q:dV HM = 7:=rfl;clear q HM;intro g8 u8 HG8 HM) | (have q:dV HM = 8:=rfl;clear q HM;intro g9 u9 HG9 HM) | (have q:dV HM = 9:=rfl;clear q HM;intro g10 u10 HG10 HM)))))
     refine (HFR.out _ (HE.out.below HM.out.1) (Lib.hid (HM.out.rdA HR.out (HAP.out.cons HAL.out HG4.out)))).mono ?_
     rintro e w7 ⟨rfl, hb⟩
     replace HM := Lib.hid (HM.out.below hb)
     clear hb HFR
     go_wp2_with (first | (refine tQl ?_) | (refine tQs ?_; clear HM; intro us HM; dsimp only [List.set] at HM) | (refine tQt ?_; clear HM HTW; intro us HM HTW; dsimp only [List.set] at HM HTW) | (refine tQb ?_) | (refine tQn ?_; first | (have q:dV HM = 0:=rfl;clear q HM;intro g1 u1 HG1 HM) | (have q:dV HM = 1:=rfl;clear q HM;intro g2 u2 HG2 HM) | (have q:dV HM = 2:=rfl;clear q HM;intro g3 u3 HG3 HM) | (have q:dV HM = 3:=rfl;clear q HM;intro g4 u4 HG4 HM) | (have q:dV HM = 4:=rfl;clear q HM;intro g5 u5 HG5 HM) | (have q:dV HM = 5:=rfl;clear q HM;intro g6 u6 HG6 HM) | (have q:dV HM = 6:=rfl;clear q HM;intro g7 u7 HG7 HM) | (have q:dV HM = 7:=rfl;clear q HM;intro g8 u8 HG8 HM) | (have q:dV HM = 8:=rfl;clear q HM;intro g9 u9 HG9 HM) | (have q:dV HM = 9:=rfl;clear q HM;intro g10 u10 HG10 HM)) | (first | (refine aQl ?_) | (refine aQs ?_; clear HM; intro us HM; dsimp only [List.set] at HM) | (refine aQt ?_; clear HM HSW; intro us HM HSW; dsimp only [List.set] at HM HSW) | (refine aQv ?_; clear HM; intro us HM; dsimp only [List.set] at HM) | (refine aQb ?_) | (refine aQn ?_; first | (have q:dV HM = 0:=rfl;clear q HM;intro g1 u1 HG1 HM) | (have q:dV HM = 1:=rfl;clear q HM;intro g2 u2 HG2 HM) | (have q:dV HM = 2:=rfl;clear q HM;intro g3 u3 HG3 HM) | (have q:dV HM = 3:=rfl;clear q HM;intro g4 u4 HG4 HM) | (have q:dV HM = 4:=rfl;clear q HM;intro g5 u5 HG5 HM) | (have q:dV HM = 5:=rfl;clear q HM;intro g6 u6 HG6 HM) | (have q:dV HM = 6:=rfl;clear q HM;intro g7 u7 HG7 HM) | (have q:dV HM = 7:=rfl;clear q HM;intro g8 u8 HG8 HM) | (have q:dV HM = 8:=rfl;clear q HM;intro g9 u9 HG9 HM) | (have q:dV HM = 9:=rfl;clear q HM;intro g10 u10 HG10 HM))))
     refine (HPS.out _ (HE.out.below HM.out.1) (Lib.hid (HM.out.rdA HR.out ((HAP.out.cons HAL.out HG4.out).cons HAL.out HG5.out)))).mono ?_
     rintro e w8 ⟨rfl, hb, hw, ho⟩
     replace HM := Lib.hid (HM.out.below hb)
     clear hb HPS hw ho
     dsimp only [dsV]
     go_wp2_with (first | (first | (refine tQl ?_) | (refine tQs ?_; clear HM; intro us HM; dsimp only [List.set] at HM) | (refine tQt ?_; clear HM HTW; intro us HM HTW; dsimp only [List.set] at HM HTW) | (refine tQb ?_) | (refine tQn ?_; first | (have q:dV HM = 0:=rfl;clear q HM;intro g1 u1 HG1 HM) | (have q:dV HM = 1:=rfl;clear q HM;intro g2 u2 HG2 HM) | (have q:dV HM = 2:=rfl;clear q HM;intro g3 u3 HG3 HM) | (have q:dV HM = 3:=rfl;clear q HM;intro g4 u4 HG4 HM) | (have q:dV HM = 4:=rfl;clear q HM;intro g5 u5 HG5 HM) | (have q:dV HM = 5:=rfl;clear q HM;intro g6 u6 HG6 HM) | (have q:dV HM = 6:=rfl;clear q HM;intro g7 u7 HG7 HM) | (have q:dV HM = 7:=rfl;clear q HM;intro g8 u8 HG8 HM) | (have q:dV HM = 8:=rfl;clear q HM;intro g9 u9 HG9 HM) | (have q:dV HM = 9:=rfl;clear q HM;intro g10 u10 HG10 HM)) | (first | (refine aQl ?_) | (refine aQs ?_; clear HM; intro us HM; dsimp only [List.set] at HM) | (refine aQt ?_; clear HM HSW; intro us HM HSW; dsimp only [List.set] at HM HSW) | (refine aQv ?_; clear HM; intro us HM; dsimp only [List.set] at HM) | (refine aQb ?_) | (refine aQn ?_; first | (have q:dV HM = 0:=rfl;clear q HM;intro g1 u1 HG1 HM) | (have q:dV HM = 1:=rfl;clear q HM;intro g2 u2 HG2 HM) | (have q:dV HM = 2:=rfl;clear q HM;intro g3 u3 HG3 HM) | (have q:dV HM = 3:=rfl;clear q HM;intro g4 u4 HG4 HM) | (have q:dV HM = 4:=rfl;clear q HM;intro g5 u5 HG5 HM) | (have q:dV HM = 5:=rfl;clear q HM;intro g6 u6 HG6 HM) | (have q:dV HM = 6:=rfl;clear q HM;intro g7 u7 HG7 HM) | (have q:dV HM = 7:=rfl;clear q HM;intro g8 u8 HG8 HM) | (have q:dV HM = 8:=rfl;clear q HM;intro g9 u9 HG9 HM) | (have q:dV HM = 9:=rfl;clear q HM;intro g10 u10 HG10 HM)))) | (show wpList _ _ _ ({ dst := _, op := Op.binOp _ _ _ _ _, type := _, pos := _, after := _, guard := _ } :: _) _ _; (refine aCe ?_)))
     refine (HSM.out _).mono ?_
     rintro e w9 ⟨rfl, hb⟩
     replace HM := Lib.hid (HM.out.below hb)
     clear hb HSM
     go_wp2_with (first | (refine tQl ?_) | (refine tQs ?_; clear HM; intro us HM; dsimp only [List.set] at HM) | (refine tQt ?_; clear HM HTW; intro us HM HTW; dsimp only [List.set] at HM HTW) | (refine tQb ?_) | (refine tQn ?_; first | (have q:dV HM = 0:=rfl;clear q HM;intro g1 u1 HG1 HM) | (have q:dV HM = 1:=rfl;clear q HM;intro g2 u2 HG2 HM) | (have q:dV HM = 2:=rfl;clear q HM;intro g3 u3 HG3 HM) | (have q:dV HM = 3:=rfl;clear q HM;intro g4 u4 HG4 HM) | (have q:dV HM = 4:=rfl;clear q HM;intro g5 u5 HG5 HM) | (have q:dV HM = 5:=rfl;clear q HM;intro g6 u6 HG6 HM) | (have q:dV HM = 6:=rfl;clear q HM;intro g7 u7 HG7 HM) | (have q:dV HM = 7:=rfl;clear q HM;intro g8 u8 HG8 HM) | (have q:dV HM = 8:=rfl;clear q HM;intro g9 u9 HG9 HM) | (have q:dV HM = 9:=rfl;clear q HM;intro g10 u10 HG10 HM)) | (first | (refine aQl ?_) | (refine aQs ?_; clear HM; intro us HM; dsimp only [List.set] at HM) | (refine aQt ?_; clear HM HSW; intro us HM HSW; dsimp only [List.set] at HM HSW) | (refine aQv ?_; clear HM; intro us HM; dsimp only [List.set] at HM) | (refine aQb ?_) | (refine aQn ?_; first | (have q:dV HM = 0:=rfl;clear q HM;intro g1 u1 HG1 HM) | (have q:dV HM = 1:=rfl;clear q HM;intro g2 u2 HG2 HM) | (have q:dV HM = 2:=rfl;clear q HM;intro g3 u3 HG3 HM) | (have q:dV HM = 3:=rfl;clear q HM;intro g4 u4 HG4 HM) | (have q:dV HM = 4:=rfl;clear q HM;intro g5 u5 HG5 HM) | (have q:dV HM = 5:=rfl;clear q HM;intro g6 u6 HG6 HM) | (have q:dV HM = 6:=rfl;clear q HM;intro g7 u7 HG7 HM) | (have q:dV HM = 7:=rfl;clear q HM;intro g8 u8 HG8 HM) | (have q:dV HM = 8:=rfl;clear q HM;intro g9 u9 HG9 HM) | (have q:dV HM = 9:=rfl;clear q HM;intro g10 u10 HG10 HM))))
     go_roundw
     case rel => exact ⟨k + 1, T, by omega, by go_num, HNX, Lib.hid (HM.out.down (by exact q7v))⟩
     case measure => simp [intOf]; omega
   ·obtain rfl : k = n := by omega
    go_wp2_with (first | (refine tQl ?_) | (refine tQs ?_; clear HM; intro us HM; dsimp only [List.set] at HM) | (refine tQt ?_; clear HM HTW; intro us HM HTW; dsimp only [List.set] at HM HTW) | (refine tQb ?_) | (refine tQn ?_; first | (have q:dV HM = 0:=rfl;clear q HM;intro g1 u1 HG1 HM) | (have q:dV HM = 1:=rfl;clear q HM;intro g2 u2 HG2 HM) | (have q:dV HM = 2:=rfl;clear q HM;intro g3 u3 HG3 HM) | (have q:dV HM = 3:=rfl;clear q HM;intro g4 u4 HG4 HM) | (have q:dV HM = 4:=rfl;clear q HM;intro g5 u5 HG5 HM) | (have q:dV HM = 5:=rfl;clear q HM;intro g6 u6 HG6 HM) | (have q:dV HM = 6:=rfl;clear q HM;intro g7 u7 HG7 HM) | (have q:dV HM = 7:=rfl;clear q HM;intro g8 u8 HG8 HM) | (have q:dV HM = 8:=rfl;clear q HM;intro g9 u9 HG9 HM) | (have q:dV HM = 9:=rfl;clear q HM;intro g10 u10 HG10 HM)) | (first | (refine aQl ?_) | (refine aQs ?_; clear HM; intro us HM; dsimp only [List.set] at HM) | (refine aQt ?_; clear HM HSW; intro us HM HSW; dsimp only [List.set] at HM HSW) | (refine aQv ?_; clear HM; intro us HM; dsimp only [List.set] at HM) | (refine aQb ?_) | (refine aQn ?_; first | (have q:dV HM = 0:=rfl;clear q HM;intro g1 u1 HG1 HM) | (have q:dV HM = 1:=rfl;clear q HM;intro g2 u2 HG2 HM) | (have q:dV HM = 2:=rfl;clear q HM;intro g3 u3 HG3 HM) | (have q:dV HM = 3:=rfl;clear q HM;intro g4 u4 HG4 HM) | (have q:dV HM = 4:=rfl;clear q HM;intro g5 u5 HG5 HM) | (have q:dV HM = 5:=rfl;clear q HM;intro g6 u6 HG6 HM) | (have q:dV HM = 6:=rfl;clear q HM;intro g7 u7 HG7 HM) | (have q:dV HM = 7:=rfl;clear q HM;intro g8 u8 HG8 HM) | (have q:dV HM = 8:=rfl;clear q HM;intro g9 u9 HG9 HM) | (have q:dV HM = 9:=rfl;clear q HM;intro g10 u10 HG10 HM))))
    go_ret
    exact ⟨rfl, HM.out.1⟩
end Go.Proofs.YtkdbhndegkldcaaGreatDoor.Lp
