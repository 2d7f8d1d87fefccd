/-
  The walk of DecoderTotal.
-/
import Derived.Test.YtkdbhndegkldcaaGreatDoorL1
set_option maxHeartbeats 60000000
set_option linter.unusedSimpArgs false
set_option linter.unusedVariables false
set_option maxRecDepth 100000
/- Tot -/
namespace Go.Proofs.YtkdbhndegkldcaaGreatDoor.Lp
open Go.RowKit Fx Fq Tb
theorem aCeK {r p : Prop} (k : r) (h : Arm r → p := by intro hk; (first | (refine wl_val (by rfl) (ex_ne _ _ _ _ rfl rfl rfl (by first | exact grdPcm | exact grdSyn | exact grdTail | exact grdLev) (by first | exact HQ1.out _ | exact HQ2.out _ | exact HQ3.out _ | exact HQ4.out _)) ?_) | (refine wl_val (by rfl) (ex_eq _ _ _ _ rfl rfl rfl (by first | exact grdPcm | exact grdSyn | exact grdTail | exact grdLev) (by first | exact HQ1.out _ | exact HQ2.out _ | exact HQ3.out _ | exact HQ4.out _)) ?_)); exact hk.out) : p := h ⟨k⟩
theorem aQlK {r p : Prop} (k : r) (h : Arm r → p := by intro hk; show wpList _ _ _ ({ dst := _, op := Op.load _ _, type := _, pos := _, after := _, guard := _ } :: _) _ _; (first | (first | (refine q8a (by rfl) _ rfl rfl HM (by exact q7m) (by exact q7w) ?_) | (refine q8b (by rfl) _ rfl rfl HM (by exact q7m) (by exact q7w) ?_) | (refine q8c (by rfl) _ rfl rfl HM (by exact q7m) (by exact q7w) (by with_reducible assumption) ?_) | (refine q8d (by rfl) _ rfl rfl HM (by exact q7m) (by exact q7w) (by with_reducible assumption) ?_) | (refine q8c (by rfl) _ rfl rfl HM (by exact q7m) (by exact q7w) (Lib.hid rfl) ?_) | (refine q8d (by rfl) _ rfl rfl HM (by exact q7m) (by exact q7w) (Lib.hid rfl) ?_) | (refine q8e (by rfl) _ rfl rfl HM (by exact q7m) (by exact q7w) ?_) | (refine q8f (by rfl) _ rfl rfl HM (by exact q7m) (by exact q7w) ?_)) | (refine q8q (by rfl) _ _ rfl rfl (by exact q7r) HM (by exact q7m) (by exact q7s) ?_) | (refine q8r (by rfl) _ _ rfl rfl (by exact q7a) HM (by exact q7m) (by exact q7f) (by exact q7l) ?_)); exact hk.out) : p := h ⟨k⟩
theorem aQsK {r p : Prop} (k : r) (h : Arm r → p := by intro hk; show wpList _ _ _ ({ dst := _, op := Op.store _ _ _, type := _, pos := _, after := _, guard := _ } :: _) _ _; (first | refine q8o (by rfl) _ _ rfl rfl rfl HM (by exact q7i) (by exact q7w) (by exact q7w) ?_ | refine q8p (by rfl) _ _ rfl rfl rfl HM (by exact q7i) (by exact q7w) (by exact q7w) ?_); exact hk.out) : p := h ⟨k⟩
theorem aQtK {r p : Prop} (k : r) (h : Arm r → p := by intro hk; show wpList _ _ _ ({ dst := _, op := Op.store _ _ _, type := _, pos := _, after := _, guard := _ } :: _) _ _; (first | refine q8j (by rfl) _ _ rfl rfl rfl HM (by exact q7i) HSW (by exact q7l) ?_ | refine q8k (by rfl) _ _ rfl rfl rfl HM (by exact q7i) HSW (by exact q7l) ?_ | refine q8l (by rfl) _ _ rfl rfl rfl HM (by exact q7i) HSW ?_ | refine q8m (by rfl) _ _ rfl rfl rfl HM (by exact q7i) HSW ?_ | refine q8n (by rfl) _ _ rfl rfl rfl HM (by exact q7i) HSW (by with_reducible assumption) ?_); exact hk.out) : p := h ⟨k⟩
theorem aQvK {r p : Prop} (k : r) (h : Arm r → p := by intro hk; show wpList _ _ _ ({ dst := _, op := Op.store _ _ _, type := _, pos := _, after := _, guard := _ } :: _) _ _; refine q8s (by rfl) _ _ _ rfl rfl rfl (by exact q7r) HM (by exact q7i) (by exact q7s) (by exact q7s) (by exact q7o) ?_; exact hk.out) : p := h ⟨k⟩
theorem aQbK {r p : Prop} (k : r) (h : Arm r → p := by intro hk; show wpList _ _ _ ({ dst := _, op := Op.build _ _, type := _, pos := _, after := _, guard := _ } :: _) _ _; (first | (refine q8g (by rfl) rfl ?_) | (refine q8h (by rfl) _ rfl rfl ?_) | (refine q8i (by rfl) _ rfl rfl (by exact q7w) ?_) | (refine q8v (by rfl) _ rfl (by exact q7a) (by kernel_rfl) ?_)); exact hk.out) : p := h ⟨k⟩
theorem aQnK {r p : Prop} (k : r) (h : Arm r → p := by intro hk; (first | show wpList _ _ _ ({ dst := _, op := Op.alloc _, type := _, pos := _, after := _, guard := _ } :: _) _ _ | show wpList _ _ _ ({ dst := _, op := Op.box _ _, type := _, pos := _, after := _, guard := _ } :: _) _ _); (first | refine q8t (by rfl) _ _ rfl rfl HM ?_ | refine q8u (by rfl) _ rfl rowSyn HM ?_ | refine q8u (by rfl) _ rfl rowMou HM ?_ | refine q8u (by rfl) _ rfl (by exact q7r) HM ?_); exact hk.out) : p := h ⟨k⟩
structure TtS (w u0 : World) (g : Nat) (s : Sy) (u : World) : Prop where
 ok : okSy s = true
 sw : SyW s
 m : MV w u0 [(g, 32, syC s)] u
theorem total_law (AL : Option Addr) (n cap : Nat) (ls : List Bts) (GA : Option Addr) (ng cg : Nat) (zs : List Int) (w : World) (h : Hid (RdBB w AL n ls)) (hm : n ≤ maxLen) (hg : Hid (RdI w GA ng zs)) (hgm : ng ≤ maxLen) (he : Edg w) :
  Calls Tryz.prog 3 #[.slice AL n cap, .slice GA ng cg] w (ValQ w (.bool true)) := by
 have HM := Lib.hid (MV.start w)
 have HE := Lib.hid he
 have LZ := Lib.hid (zr_length 16)
 have g63 : ng ≤ 9223372036854775807 := by unfold maxLen at hgm; omega
 obtain ⟨few, hfew⟩ : ∃ b, fewB ls = b := ⟨_, rfl⟩
 have HFW := Lib.hid (fun u (hu : Hid (RdBB u AL n ls)) => dfew_any AL n cap ls few u hu hm hfew)
 have HN30 := Lib.hid (show few = true → n ≤ 30 from fun e => by
  subst e
  have := (fewB_iff hfew).1
  have := h.out.1
  omega)
 clear he hfew hm hgm
 go_enter Tryz.func3, Tryz.ntmps3
 go_wp2_with (first | (refine aQlK ?_) | (refine aQsK ?_; clear HM; intro us HM; dsimp only [List.set] at HM) | (refine aQtK ?_; clear HM HSW; intro us HM HSW; dsimp only [List.set] at HM HSW) | (refine aQvK ?_; clear HM; intro us HM; dsimp only [List.set] at HM) | (refine aQbK ?_) | (refine aQnK ?_; first | (have q:dV HM = 0:=rfl;clear q HM;intro g1 u1 HG1 HM) | (have q:dV HM = 1:=rfl;clear q HM;intro g2 u2 HG2 HM) | (have q:dV HM = 2:=rfl;clear q HM;intro g3 u3 HG3 HM) | (have q:dV HM = 3:=rfl;clear q HM;intro g4 u4 HG4 HM) | (have q:dV HM = 4:=rfl;clear q HM;intro g5 u5 HG5 HM) | (have q:dV HM = 5:=rfl;clear q HM;intro g6 u6 HG6 HM) | (have q:dV HM = 6:=rfl;clear q HM;intro g7 u7 HG7 HM) | (have q:dV HM = 7:=rfl;clear q HM;intro g8 u8 HG8 HM) | (have q:dV HM = 8:=rfl;clear q HM;intro g9 u9 HG9 HM) | (have q:dV HM = 9:=rfl;clear q HM;intro g10 u10 HG10 HM) | (have q:dV HM = 10:=rfl;clear q HM;intro g11 u11 HG11 HM) | (have q:dV HM = 11:=rfl;clear q HM;intro g12 u12 HG12 HM) | (have q:dV HM = 12:=rfl;clear q HM;intro g13 u13 HG13 HM) | (have q:dV HM = 13:=rfl;clear q HM;intro g14 u14 HG14 HM)))
 refine (dlive_any _ (HE.out.below HM.out.1)).mono ?_
 rintro e w2 ⟨rfl, hb⟩
 replace HM := Lib.hid (HM.out.below hb)
 clear hb
 go_wp2_with (first | (refine aQlK ?_) | (refine aQsK ?_; clear HM; intro us HM; dsimp only [List.set] at HM) | (refine aQtK ?_; clear HM HSW; intro us HM HSW; dsimp only [List.set] at HM HSW) | (refine aQvK ?_; clear HM; intro us HM; dsimp only [List.set] at HM) | (refine aQbK ?_) | (refine aQnK ?_; first | (have q:dV HM = 0:=rfl;clear q HM;intro g1 u1 HG1 HM) | (have q:dV HM = 1:=rfl;clear q HM;intro g2 u2 HG2 HM) | (have q:dV HM = 2:=rfl;clear q HM;intro g3 u3 HG3 HM) | (have q:dV HM = 3:=rfl;clear q HM;intro g4 u4 HG4 HM) | (have q:dV HM = 4:=rfl;clear q HM;intro g5 u5 HG5 HM) | (have q:dV HM = 5:=rfl;clear q HM;intro g6 u6 HG6 HM) | (have q:dV HM = 6:=rfl;clear q HM;intro g7 u7 HG7 HM) | (have q:dV HM = 7:=rfl;clear q HM;intro g8 u8 HG8 HM) | (have q:dV HM = 8:=rfl;clear q HM;intro g9 u9 HG9 HM) | (have q:dV HM = 9:=rfl;clear q HM;intro g10 u10 HG10 HM) | (have q:dV HM = 10:=rfl;clear q HM;intro g11 u11 HG11 HM) | (have q:dV HM = 11:=rfl;clear q HM;intro g12 u12 HG12 HM) | (have q:dV HM = 12:=rfl;clear q HM;intro g13 u13 HG13 HM) | (have q:dV HM = 13:=rfl;clear q HM;intro g14 u14 HG14 HM)))
 refine (HFW.out _ (Lib.hid (h.out.keep HM.out.1))).mono ?_
 rintro e w3 ⟨rfl, hb⟩
 replace HM := Lib.hid (HM.out.below hb)
 clear hb HFW
 cases few with
 | false =>
  go_wp2_with (first | (refine q9g ?_; refine q8w (by rfl) ?_) | (first | (refine aQlK ?_) | (refine aQsK ?_; clear HM; intro us HM; dsimp only [List.set] at HM) | (refine aQtK ?_; clear HM HSW; intro us HM HSW; dsimp only [List.set] at HM HSW) | (refine aQvK ?_; clear HM; intro us HM; dsimp only [List.set] at HM) | (refine aQbK ?_) | (refine aQnK ?_; first | (have q:dV HM = 0:=rfl;clear q HM;intro g1 u1 HG1 HM) | (have q:dV HM = 1:=rfl;clear q HM;intro g2 u2 HG2 HM) | (have q:dV HM = 2:=rfl;clear q HM;intro g3 u3 HG3 HM) | (have q:dV HM = 3:=rfl;clear q HM;intro g4 u4 HG4 HM) | (have q:dV HM = 4:=rfl;clear q HM;intro g5 u5 HG5 HM) | (have q:dV HM = 5:=rfl;clear q HM;intro g6 u6 HG6 HM) | (have q:dV HM = 6:=rfl;clear q HM;intro g7 u7 HG7 HM) | (have q:dV HM = 7:=rfl;clear q HM;intro g8 u8 HG8 HM) | (have q:dV HM = 8:=rfl;clear q HM;intro g9 u9 HG9 HM) | (have q:dV HM = 9:=rfl;clear q HM;intro g10 u10 HG10 HM) | (have q:dV HM = 10:=rfl;clear q HM;intro g11 u11 HG11 HM) | (have q:dV HM = 11:=rfl;clear q HM;intro g12 u12 HG12 HM) | (have q:dV HM = 12:=rfl;clear q HM;intro g13 u13 HG13 HM) | (have q:dV HM = 13:=rfl;clear q HM;intro g14 u14 HG14 HM))) | (show wpList _ _ _ ({ dst := _, op := Op.binOp _ _ _ _ _, type := _, pos := _, after := _, guard := _ } :: _) _ _; (refine aCeK ?_)))
  go_ret
  exact ⟨rfl, HM.out.1⟩
 | true =>
  have n30 := HN30.out rfl
  by_cases h30 : 30 < ng
  ·have d1 : (30 : Int) < (ng : Int) := by omega
   go_wp2_with (first | (refine q9g ?_; refine q8w (by rfl) ?_) | (first | (refine aQlK ?_) | (refine aQsK ?_; clear HM; intro us HM; dsimp only [List.set] at HM) | (refine aQtK ?_; clear HM HSW; intro us HM HSW; dsimp only [List.set] at HM HSW) | (refine aQvK ?_; clear HM; intro us HM; dsimp only [List.set] at HM) | (refine aQbK ?_) | (refine aQnK ?_; first | (have q:dV HM = 0:=rfl;clear q HM;intro g1 u1 HG1 HM) | (have q:dV HM = 1:=rfl;clear q HM;intro g2 u2 HG2 HM) | (have q:dV HM = 2:=rfl;clear q HM;intro g3 u3 HG3 HM) | (have q:dV HM = 3:=rfl;clear q HM;intro g4 u4 HG4 HM) | (have q:dV HM = 4:=rfl;clear q HM;intro g5 u5 HG5 HM) | (have q:dV HM = 5:=rfl;clear q HM;intro g6 u6 HG6 HM) | (have q:dV HM = 6:=rfl;clear q HM;intro g7 u7 HG7 HM) | (have q:dV HM = 7:=rfl;clear q HM;intro g8 u8 HG8 HM) | (have q:dV HM = 8:=rfl;clear q HM;intro g9 u9 HG9 HM) | (have q:dV HM = 9:=rfl;clear q HM;intro g10 u10 HG10 HM) | (have q:dV HM = 10:=rfl;clear q HM;intro g11 u11 HG11 HM) | (have q:dV HM = 11:=rfl;clear q HM;intro g12 u12 HG12 HM) | (have q:dV HM = 12:=rfl;clear q HM;intro g13 u13 HG13 HM) | (have q:dV HM = 13:=rfl;clear q HM;intro g14 u14 HG14 HM))) | (show wpList _ _ _ ({ dst := _, op := Op.binOp _ _ _ _ _, type := _, pos := _, after := _, guard := _ } :: _) _ _; (refine aCeK ?_)))
   go_ret
   exact ⟨rfl, HM.out.1⟩
  have d1 : ¬ (30 : Int) < (ng : Int) := by omega
  clear HN30
  go_wp2_with (first | (refine q9g ?_; refine q8w (by rfl) ?_) | (first | (refine aQlK ?_) | (refine aQsK ?_; clear HM; intro us HM; dsimp only [List.set] at HM) | (refine aQtK ?_; clear HM HSW; intro us HM HSW; dsimp only [List.set] at HM HSW) | (refine aQvK ?_; clear HM; intro us HM; dsimp only [List.set] at HM) | (refine aQbK ?_) | (refine aQnK ?_; first | (have q:dV HM = 0:=rfl;clear q HM;intro g1 u1 HG1 HM) | (have q:dV HM = 1:=rfl;clear q HM;intro g2 u2 HG2 HM) | (have q:dV HM = 2:=rfl;clear q HM;intro g3 u3 HG3 HM) | (have q:dV HM = 3:=rfl;clear q HM;intro g4 u4 HG4 HM) | (have q:dV HM = 4:=rfl;clear q HM;intro g5 u5 HG5 HM) | (have q:dV HM = 5:=rfl;clear q HM;intro g6 u6 HG6 HM) | (have q:dV HM = 6:=rfl;clear q HM;intro g7 u7 HG7 HM) | (have q:dV HM = 7:=rfl;clear q HM;intro g8 u8 HG8 HM) | (have q:dV HM = 8:=rfl;clear q HM;intro g9 u9 HG9 HM) | (have q:dV HM = 9:=rfl;clear q HM;intro g10 u10 HG10 HM) | (have q:dV HM = 10:=rfl;clear q HM;intro g11 u11 HG11 HM) | (have q:dV HM = 11:=rfl;clear q HM;intro g12 u12 HG12 HM) | (have q:dV HM = 12:=rfl;clear q HM;intro g13 u13 HG13 HM) | (have q:dV HM = 13:=rfl;clear q HM;intro g14 u14 HG14 HM))) | (show wpList _ _ _ ({ dst := _, op := Op.binOp _ _ _ _ _, type := _, pos := _, after := _, guard := _ } :: _) _ _; (refine aCeK ?_)))
  refine (pstart_any _).mono ?_
  rintro e w4 ⟨rfl, hb⟩
  replace HM := Lib.hid (HM.out.below hb)
  clear hb
  go_wp2_with (first | (refine q9g ?_; refine q8w (by rfl) ?_) | (first | (refine aQlK ?_) | (refine aQsK ?_; clear HM; intro us HM; dsimp only [List.set] at HM) | (refine aQtK ?_; clear HM HSW; intro us HM HSW; dsimp only [List.set] at HM HSW) | (refine aQvK ?_; clear HM; intro us HM; dsimp only [List.set] at HM) | (refine aQbK ?_) | (refine aQnK ?_; first | (have q:dV HM = 0:=rfl;clear q HM;intro g1 u1 HG1 HM) | (have q:dV HM = 1:=rfl;clear q HM;intro g2 u2 HG2 HM) | (have q:dV HM = 2:=rfl;clear q HM;intro g3 u3 HG3 HM) | (have q:dV HM = 3:=rfl;clear q HM;intro g4 u4 HG4 HM) | (have q:dV HM = 4:=rfl;clear q HM;intro g5 u5 HG5 HM) | (have q:dV HM = 5:=rfl;clear q HM;intro g6 u6 HG6 HM) | (have q:dV HM = 6:=rfl;clear q HM;intro g7 u7 HG7 HM) | (have q:dV HM = 7:=rfl;clear q HM;intro g8 u8 HG8 HM) | (have q:dV HM = 8:=rfl;clear q HM;intro g9 u9 HG9 HM) | (have q:dV HM = 9:=rfl;clear q HM;intro g10 u10 HG10 HM) | (have q:dV HM = 10:=rfl;clear q HM;intro g11 u11 HG11 HM) | (have q:dV HM = 11:=rfl;clear q HM;intro g12 u12 HG12 HM) | (have q:dV HM = 12:=rfl;clear q HM;intro g13 u13 HG13 HM) | (have q:dV HM = 13:=rfl;clear q HM;intro g14 u14 HG14 HM))) | (show wpList _ _ _ ({ dst := _, op := Op.binOp _ _ _ _ _, type := _, pos := _, after := _, guard := _ } :: _) _ _; (refine aCeK ?_)))
  have HS0 := Lib.hid (show TtS w us g1 Sy.one us from ⟨one_ok, syW_one, HM.out.base⟩)
  generalize us = u0 at HM HS0 ⊢
  clear HM HG1 d1
  go_loopw [31] (fun vi wr => ∃ (k : Nat) (s : Sy), k ≤ n ∧ vi = .int .i64 (k : Int) ∧ Hid (TtS w u0 g1 s wr)) (fun vi _ => n - (intOf vi).toNat)
  case atStart => exact ⟨0, Sy.one, by omega, rfl, HS0⟩
  case round =>
   clear HS0
   obtain ⟨k, s, hk, rfl, HS⟩ := hrel
   have HM := Lib.hid HS.out.m
   have HSW := Lib.hid HS.out.sw
   have HOK := Lib.hid HS.out.ok
   clear HS
   by_cases hlt : k < n
   ·have kn : (k : Int) < (n : Int) := by omega
    obtain ⟨L, x, rfl, -, x0w, hrd⟩ := h.out.at_ hlt
    have x0 := (HM.out.1.cell (World.block_lt_of_cell? _ _ x0w)).trans x0w
    have HRW := Lib.hid hrd
    clear x0w hrd
    go_upto_region 8 with (first | (refine q9g ?_; refine q8w (by rfl) ?_) | (first | (refine aQlK ?_) | (refine aQsK ?_; clear HM; intro us HM; dsimp only [List.set] at HM) | (refine aQtK ?_; clear HM HSW; intro us HM HSW; dsimp only [List.set] at HM HSW) | (refine aQvK ?_; clear HM; intro us HM; dsimp only [List.set] at HM) | (refine aQbK ?_) | (refine aQnK ?_; first | (have q:dV HM = 0:=rfl;clear q HM;intro g1 u1 HG1 HM) | (have q:dV HM = 1:=rfl;clear q HM;intro g2 u2 HG2 HM) | (have q:dV HM = 2:=rfl;clear q HM;intro g3 u3 HG3 HM) | (have q:dV HM = 3:=rfl;clear q HM;intro g4 u4 HG4 HM) | (have q:dV HM = 4:=rfl;clear q HM;intro g5 u5 HG5 HM) | (have q:dV HM = 5:=rfl;clear q HM;intro g6 u6 HG6 HM) | (have q:dV HM = 6:=rfl;clear q HM;intro g7 u7 HG7 HM) | (have q:dV HM = 7:=rfl;clear q HM;intro g8 u8 HG8 HM) | (have q:dV HM = 8:=rfl;clear q HM;intro g9 u9 HG9 HM) | (have q:dV HM = 9:=rfl;clear q HM;intro g10 u10 HG10 HM) | (have q:dV HM = 10:=rfl;clear q HM;intro g11 u11 HG11 HM) | (have q:dV HM = 11:=rfl;clear q HM;intro g12 u12 HG12 HM) | (have q:dV HM = 12:=rfl;clear q HM;intro g13 u13 HG13 HM) | (have q:dV HM = 13:=rfl;clear q HM;intro g14 u14 HG14 HM))) | (show wpList _ _ _ ({ dst := _, op := Op.binOp _ _ _ _ _, type := _, pos := _, after := _, guard := _ } :: _) _ _; (refine aCeK ?_)))
    go_cut [47] from 36 to 47 (fun v47 wx => ∃ b : Bool, v47 = .bool b ∧ wx = wr)
    case first =>
     by_cases hkg : k < ng
     ·have kg : (k : Int) < (ng : Int) := by omega
      obtain ⟨ad, rfl, -, y0⟩ := (hg.out.below HM.out.1).at_ hkg
      generalize zs.getD k 0 = v at y0
      obtain ⟨R, hR⟩ : ∃ R, v.tmod 3 = R := ⟨_, rfl⟩
      by_cases hR1 : R = 1
      ·subst hR1
       go_wp2_with (first | (refine q9g ?_; refine q8w (by rfl) ?_) | (first | (refine aQlK ?_) | (refine aQsK ?_; clear HM; intro us HM; dsimp only [List.set] at HM) | (refine aQtK ?_; clear HM HSW; intro us HM HSW; dsimp only [List.set] at HM HSW) | (refine aQvK ?_; clear HM; intro us HM; dsimp only [List.set] at HM) | (refine aQbK ?_) | (refine aQnK ?_; first | (have q:dV HM = 0:=rfl;clear q HM;intro g1 u1 HG1 HM) | (have q:dV HM = 1:=rfl;clear q HM;intro g2 u2 HG2 HM) | (have q:dV HM = 2:=rfl;clear q HM;intro g3 u3 HG3 HM) | (have q:dV HM = 3:=rfl;clear q HM;intro g4 u4 HG4 HM) | (have q:dV HM = 4:=rfl;clear q HM;intro g5 u5 HG5 HM) | (have q:dV HM = 5:=rfl;clear q HM;intro g6 u6 HG6 HM) | (have q:dV HM = 6:=rfl;clear q HM;intro g7 u7 HG7 HM) | (have q:dV HM = 7:=rfl;clear q HM;intro g8 u8 HG8 HM) | (have q:dV HM = 8:=rfl;clear q HM;intro g9 u9 HG9 HM) | (have q:dV HM = 9:=rfl;clear q HM;intro g10 u10 HG10 HM) | (have q:dV HM = 10:=rfl;clear q HM;intro g11 u11 HG11 HM) | (have q:dV HM = 11:=rfl;clear q HM;intro g12 u12 HG12 HM) | (have q:dV HM = 12:=rfl;clear q HM;intro g13 u13 HG13 HM) | (have q:dV HM = 13:=rfl;clear q HM;intro g14 u14 HG14 HM))) | (show wpList _ _ _ ({ dst := _, op := Op.binOp _ _ _ _ _, type := _, pos := _, after := _, guard := _ } :: _) _ _; (refine aCeK ?_)))
       go_meet
       exact ⟨_, rfl, rfl⟩
      ·have d3 : (R == 1) = false := by simpa using hR1
       go_wp2_with (first | (refine q9g ?_; refine q8w (by rfl) ?_) | (first | (refine aQlK ?_) | (refine aQsK ?_; clear HM; intro us HM; dsimp only [List.set] at HM) | (refine aQtK ?_; clear HM HSW; intro us HM HSW; dsimp only [List.set] at HM HSW) | (refine aQvK ?_; clear HM; intro us HM; dsimp only [List.set] at HM) | (refine aQbK ?_) | (refine aQnK ?_; first | (have q:dV HM = 0:=rfl;clear q HM;intro g1 u1 HG1 HM) | (have q:dV HM = 1:=rfl;clear q HM;intro g2 u2 HG2 HM) | (have q:dV HM = 2:=rfl;clear q HM;intro g3 u3 HG3 HM) | (have q:dV HM = 3:=rfl;clear q HM;intro g4 u4 HG4 HM) | (have q:dV HM = 4:=rfl;clear q HM;intro g5 u5 HG5 HM) | (have q:dV HM = 5:=rfl;clear q HM;intro g6 u6 HG6 HM) | (have q:dV HM = 6:=rfl;clear q HM;intro g7 u7 HG7 HM) | (have q:dV HM = 7:=rfl;clear q HM;intro g8 u8 HG8 HM) | (have q:dV HM = 8:=rfl;clear q HM;intro g9 u9 HG9 HM) | (have q:dV HM = 9:=rfl;clear q HM;intro g10 u10 HG10 HM) | (have q:dV HM = 10:=rfl;clear q HM;intro g11 u11 HG11 HM) | (have q:dV HM = 11:=rfl;clear q HM;intro g12 u12 HG12 HM) | (have q:dV HM = 12:=rfl;clear q HM;intro g13 u13 HG13 HM) | (have q:dV HM = 13:=rfl;clear q HM;intro g14 u14 HG14 HM))) | (show wpList _ _ _ ({ dst := _, op := Op.binOp _ _ _ _ _, type := _, pos := _, after := _, guard := _ } :: _) _ _; (refine aCeK ?_)))
       go_meet
       exact ⟨_, rfl, rfl⟩
     ·have kg : ¬ (k : Int) < (ng : Int) := by omega
      go_wp2_with (first | (refine q9g ?_; refine q8w (by rfl) ?_) | (first | (refine aQlK ?_) | (refine aQsK ?_; clear HM; intro us HM; dsimp only [List.set] at HM) | (refine aQtK ?_; clear HM HSW; intro us HM HSW; dsimp only [List.set] at HM HSW) | (refine aQvK ?_; clear HM; intro us HM; dsimp only [List.set] at HM) | (refine aQbK ?_) | (refine aQnK ?_; first | (have q:dV HM = 0:=rfl;clear q HM;intro g1 u1 HG1 HM) | (have q:dV HM = 1:=rfl;clear q HM;intro g2 u2 HG2 HM) | (have q:dV HM = 2:=rfl;clear q HM;intro g3 u3 HG3 HM) | (have q:dV HM = 3:=rfl;clear q HM;intro g4 u4 HG4 HM) | (have q:dV HM = 4:=rfl;clear q HM;intro g5 u5 HG5 HM) | (have q:dV HM = 5:=rfl;clear q HM;intro g6 u6 HG6 HM) | (have q:dV HM = 6:=rfl;clear q HM;intro g7 u7 HG7 HM) | (have q:dV HM = 7:=rfl;clear q HM;intro g8 u8 HG8 HM) | (have q:dV HM = 8:=rfl;clear q HM;intro g9 u9 HG9 HM) | (have q:dV HM = 9:=rfl;clear q HM;intro g10 u10 HG10 HM) | (have q:dV HM = 10:=rfl;clear q HM;intro g11 u11 HG11 HM) | (have q:dV HM = 11:=rfl;clear q HM;intro g12 u12 HG12 HM) | (have q:dV HM = 12:=rfl;clear q HM;intro g13 u13 HG13 HM) | (have q:dV HM = 13:=rfl;clear q HM;intro g14 u14 HG14 HM))) | (show wpList _ _ _ ({ dst := _, op := Op.binOp _ _ _ _ _, type := _, pos := _, after := _, guard := _ } :: _) _ _; (refine aCeK ?_)))
      go_meet
      exact ⟨_, rfl, rfl⟩
    case rest =>
     clear x0
     obtain ⟨b, rfl, rfl⟩ := hcut
     go_upto_if 47 with (first | (refine q9g ?_; refine q8w (by rfl) ?_) | (first | (refine aQlK ?_) | (refine aQsK ?_; clear HM; intro us HM; dsimp only [List.set] at HM) | (refine aQtK ?_; clear HM HSW; intro us HM HSW; dsimp only [List.set] at HM HSW) | (refine aQvK ?_; clear HM; intro us HM; dsimp only [List.set] at HM) | (refine aQbK ?_) | (refine aQnK ?_; first | (have q:dV HM = 0:=rfl;clear q HM;intro g1 u1 HG1 HM) | (have q:dV HM = 1:=rfl;clear q HM;intro g2 u2 HG2 HM) | (have q:dV HM = 2:=rfl;clear q HM;intro g3 u3 HG3 HM) | (have q:dV HM = 3:=rfl;clear q HM;intro g4 u4 HG4 HM) | (have q:dV HM = 4:=rfl;clear q HM;intro g5 u5 HG5 HM) | (have q:dV HM = 5:=rfl;clear q HM;intro g6 u6 HG6 HM) | (have q:dV HM = 6:=rfl;clear q HM;intro g7 u7 HG7 HM) | (have q:dV HM = 7:=rfl;clear q HM;intro g8 u8 HG8 HM) | (have q:dV HM = 8:=rfl;clear q HM;intro g9 u9 HG9 HM) | (have q:dV HM = 9:=rfl;clear q HM;intro g10 u10 HG10 HM) | (have q:dV HM = 10:=rfl;clear q HM;intro g11 u11 HG11 HM) | (have q:dV HM = 11:=rfl;clear q HM;intro g12 u12 HG12 HM) | (have q:dV HM = 12:=rfl;clear q HM;intro g13 u13 HG13 HM) | (have q:dV HM = 13:=rfl;clear q HM;intro g14 u14 HG14 HM))) | (show wpList _ _ _ ({ dst := _, op := Op.binOp _ _ _ _ _, type := _, pos := _, after := _, guard := _ } :: _) _ _; (refine aCeK ?_)))
     go_cut [9, 10, 11] from 48 to 72 (fun v9 v10 v11 wx => ∃ s : Sy, Hid (TtS w u0 g1 s wx))
     case first =>
      cases b with
      | true =>
       go_upto_region 9 with (first | (refine q9g ?_; refine q8w (by rfl) ?_) | (first | (refine aQlK ?_) | (refine aQsK ?_; clear HM; intro us HM; dsimp only [List.set] at HM) | (refine aQtK ?_; clear HM HSW; intro us HM HSW; dsimp only [List.set] at HM HSW) | (refine aQvK ?_; clear HM; intro us HM; dsimp only [List.set] at HM) | (refine aQbK ?_) | (refine aQnK ?_; first | (have q:dV HM = 0:=rfl;clear q HM;intro g1 u1 HG1 HM) | (have q:dV HM = 1:=rfl;clear q HM;intro g2 u2 HG2 HM) | (have q:dV HM = 2:=rfl;clear q HM;intro g3 u3 HG3 HM) | (have q:dV HM = 3:=rfl;clear q HM;intro g4 u4 HG4 HM) | (have q:dV HM = 4:=rfl;clear q HM;intro g5 u5 HG5 HM) | (have q:dV HM = 5:=rfl;clear q HM;intro g6 u6 HG6 HM) | (have q:dV HM = 6:=rfl;clear q HM;intro g7 u7 HG7 HM) | (have q:dV HM = 7:=rfl;clear q HM;intro g8 u8 HG8 HM) | (have q:dV HM = 8:=rfl;clear q HM;intro g9 u9 HG9 HM) | (have q:dV HM = 9:=rfl;clear q HM;intro g10 u10 HG10 HM) | (have q:dV HM = 10:=rfl;clear q HM;intro g11 u11 HG11 HM) | (have q:dV HM = 11:=rfl;clear q HM;intro g12 u12 HG12 HM) | (have q:dV HM = 12:=rfl;clear q HM;intro g13 u13 HG13 HM) | (have q:dV HM = 13:=rfl;clear q HM;intro g14 u14 HG14 HM))) | (show wpList _ _ _ ({ dst := _, op := Op.binOp _ _ _ _ _, type := _, pos := _, after := _, guard := _ } :: _) _ _; (refine aCeK ?_)))
       have h1k : IntKind.i64.wrap (1 + (k : Int)) = 1 + (k : Int) := i64_w (by omega) (by omega)
       obtain ⟨s1, p1, hq1⟩ : ∃ s1 p1, fadeS s (1 + (k : Int)) = .ok (s1, p1) := by
        unfold fadeS
        rw [if_pos ⟨HOK.out, by omega⟩]
        exact ⟨_, _, rfl⟩
       obtain ⟨-, -, ok1, okp1, sw1, lp1, lv1, -, -⟩ := fade_ok HSW.out hq1
       have HFD := Lib.hid (fun u he => pfade_any s (1 + (k : Int)) u HSW (by omega) (by omega) he)
       rw [hq1] at HFD
       unfold DsQ at HFD
       dsimp only [dsV] at HFD
       have HSW1 := Lib.hid sw1
       have HOK1 := Lib.hid ok1
       have LP1 := Lib.hid lp1
       have HLV1 := Lib.hid lv1
       have HCP := Lib.hid (fun u => check_any p1 true 0 u lp1 okp1 rfl)
       have HCS := Lib.hid (fun u => rdcheck_any s1 0 u HSW1 (by rw [ok1]; rfl))
       clear hq1 ok1 okp1 sw1 lp1 lv1
       go_wp2_with (first | (refine q9g ?_; refine q8w (by rfl) ?_) | (first | (refine aQlK ?_) | (refine aQsK ?_; clear HM; intro us HM; dsimp only [List.set] at HM) | (refine aQtK ?_; clear HM HSW; intro us HM HSW; dsimp only [List.set] at HM HSW) | (refine aQvK ?_; clear HM; intro us HM; dsimp only [List.set] at HM) | (refine aQbK ?_) | (refine aQnK ?_; first | (have q:dV HM = 0:=rfl;clear q HM;intro g1 u1 HG1 HM) | (have q:dV HM = 1:=rfl;clear q HM;intro g2 u2 HG2 HM) | (have q:dV HM = 2:=rfl;clear q HM;intro g3 u3 HG3 HM) | (have q:dV HM = 3:=rfl;clear q HM;intro g4 u4 HG4 HM) | (have q:dV HM = 4:=rfl;clear q HM;intro g5 u5 HG5 HM) | (have q:dV HM = 5:=rfl;clear q HM;intro g6 u6 HG6 HM) | (have q:dV HM = 6:=rfl;clear q HM;intro g7 u7 HG7 HM) | (have q:dV HM = 7:=rfl;clear q HM;intro g8 u8 HG8 HM) | (have q:dV HM = 8:=rfl;clear q HM;intro g9 u9 HG9 HM) | (have q:dV HM = 9:=rfl;clear q HM;intro g10 u10 HG10 HM) | (have q:dV HM = 10:=rfl;clear q HM;intro g11 u11 HG11 HM) | (have q:dV HM = 11:=rfl;clear q HM;intro g12 u12 HG12 HM) | (have q:dV HM = 12:=rfl;clear q HM;intro g13 u13 HG13 HM) | (have q:dV HM = 13:=rfl;clear q HM;intro g14 u14 HG14 HM))) | (show wpList _ _ _ ({ dst := _, op := Op.binOp _ _ _ _ _, type := _, pos := _, after := _, guard := _ } :: _) _ _; (refine aCeK ?_)))
       refine (HFD.out _ (HE.out.below HM.out.1)).mono ?_
       rintro e w6 ⟨rfl, hb, -⟩
       replace HM := Lib.hid (HM.out.below hb)
       clear hb
       go_wp2_with (first | (refine q9g ?_; refine q8w (by rfl) ?_) | (first | (refine aQlK ?_) | (refine aQsK ?_; clear HM; intro us HM; dsimp only [List.set] at HM) | (refine aQtK ?_; clear HM HSW; intro us HM HSW; dsimp only [List.set] at HM HSW) | (refine aQvK ?_; clear HM; intro us HM; dsimp only [List.set] at HM) | (refine aQbK ?_) | (refine aQnK ?_; first | (have q:dV HM = 0:=rfl;clear q HM;intro g1 u1 HG1 HM) | (have q:dV HM = 1:=rfl;clear q HM;intro g2 u2 HG2 HM) | (have q:dV HM = 2:=rfl;clear q HM;intro g3 u3 HG3 HM) | (have q:dV HM = 3:=rfl;clear q HM;intro g4 u4 HG4 HM) | (have q:dV HM = 4:=rfl;clear q HM;intro g5 u5 HG5 HM) | (have q:dV HM = 5:=rfl;clear q HM;intro g6 u6 HG6 HM) | (have q:dV HM = 6:=rfl;clear q HM;intro g7 u7 HG7 HM) | (have q:dV HM = 7:=rfl;clear q HM;intro g8 u8 HG8 HM) | (have q:dV HM = 8:=rfl;clear q HM;intro g9 u9 HG9 HM) | (have q:dV HM = 9:=rfl;clear q HM;intro g10 u10 HG10 HM) | (have q:dV HM = 10:=rfl;clear q HM;intro g11 u11 HG11 HM) | (have q:dV HM = 11:=rfl;clear q HM;intro g12 u12 HG12 HM) | (have q:dV HM = 12:=rfl;clear q HM;intro g13 u13 HG13 HM) | (have q:dV HM = 13:=rfl;clear q HM;intro g14 u14 HG14 HM))) | (show wpList _ _ _ ({ dst := _, op := Op.binOp _ _ _ _ _, type := _, pos := _, after := _, guard := _ } :: _) _ _; (refine aCeK ?_)))
       refine (HCP.out _).mono ?_
       rintro e w6 ⟨rfl, hb⟩
       replace HM := Lib.hid (HM.out.below hb)
       clear hb
       go_wp2_with (first | (refine q9g ?_; refine q8w (by rfl) ?_) | (first | (refine aQlK ?_) | (refine aQsK ?_; clear HM; intro us HM; dsimp only [List.set] at HM) | (refine aQtK ?_; clear HM HSW; intro us HM HSW; dsimp only [List.set] at HM HSW) | (refine aQvK ?_; clear HM; intro us HM; dsimp only [List.set] at HM) | (refine aQbK ?_) | (refine aQnK ?_; first | (have q:dV HM = 0:=rfl;clear q HM;intro g1 u1 HG1 HM) | (have q:dV HM = 1:=rfl;clear q HM;intro g2 u2 HG2 HM) | (have q:dV HM = 2:=rfl;clear q HM;intro g3 u3 HG3 HM) | (have q:dV HM = 3:=rfl;clear q HM;intro g4 u4 HG4 HM) | (have q:dV HM = 4:=rfl;clear q HM;intro g5 u5 HG5 HM) | (have q:dV HM = 5:=rfl;clear q HM;intro g6 u6 HG6 HM) | (have q:dV HM = 6:=rfl;clear q HM;intro g7 u7 HG7 HM) | (have q:dV HM = 7:=rfl;clear q HM;intro g8 u8 HG8 HM) | (have q:dV HM = 8:=rfl;clear q HM;intro g9 u9 HG9 HM) | (have q:dV HM = 9:=rfl;clear q HM;intro g10 u10 HG10 HM) | (have q:dV HM = 10:=rfl;clear q HM;intro g11 u11 HG11 HM) | (have q:dV HM = 11:=rfl;clear q HM;intro g12 u12 HG12 HM) | (have q:dV HM = 12:=rfl;clear q HM;intro g13 u13 HG13 HM) | (have q:dV HM = 13:=rfl;clear q HM;intro g14 u14 HG14 HM))) | (show wpList _ _ _ ({ dst := _, op := Op.binOp _ _ _ _ _, type := _, pos := _, after := _, guard := _ } :: _) _ _; (refine aCeK ?_)))
       refine (HCS.out _).mono ?_
       rintro e w6 ⟨rfl, hb⟩
       replace HM := Lib.hid (HM.out.below hb)
       clear hb
       go_wp2_with (first | (refine q9g ?_; refine q8w (by rfl) ?_) | (first | (refine aQlK ?_) | (refine aQsK ?_; clear HM; intro us HM; dsimp only [List.set] at HM) | (refine aQtK ?_; clear HM HSW; intro us HM HSW; dsimp only [List.set] at HM HSW) | (refine aQvK ?_; clear HM; intro us HM; dsimp only [List.set] at HM) | (refine aQbK ?_) | (refine aQnK ?_; first | (have q:dV HM = 0:=rfl;clear q HM;intro g1 u1 HG1 HM) | (have q:dV HM = 1:=rfl;clear q HM;intro g2 u2 HG2 HM) | (have q:dV HM = 2:=rfl;clear q HM;intro g3 u3 HG3 HM) | (have q:dV HM = 3:=rfl;clear q HM;intro g4 u4 HG4 HM) | (have q:dV HM = 4:=rfl;clear q HM;intro g5 u5 HG5 HM) | (have q:dV HM = 5:=rfl;clear q HM;intro g6 u6 HG6 HM) | (have q:dV HM = 6:=rfl;clear q HM;intro g7 u7 HG7 HM) | (have q:dV HM = 7:=rfl;clear q HM;intro g8 u8 HG8 HM) | (have q:dV HM = 8:=rfl;clear q HM;intro g9 u9 HG9 HM) | (have q:dV HM = 9:=rfl;clear q HM;intro g10 u10 HG10 HM) | (have q:dV HM = 10:=rfl;clear q HM;intro g11 u11 HG11 HM) | (have q:dV HM = 11:=rfl;clear q HM;intro g12 u12 HG12 HM) | (have q:dV HM = 12:=rfl;clear q HM;intro g13 u13 HG13 HM) | (have q:dV HM = 13:=rfl;clear q HM;intro g14 u14 HG14 HM))) | (show wpList _ _ _ ({ dst := _, op := Op.binOp _ _ _ _ _, type := _, pos := _, after := _, guard := _ } :: _) _ _; (refine aCeK ?_)))
       go_meet
       exact ⟨s1, Lib.hid ⟨HOK1.out, HSW1.out, (by have HP := HM.out; (repeat (replace HP := HP.popH (by with_reducible assumption))); exact HP)⟩⟩
      | false =>
       go_wp2_with (first | (refine q9g ?_; refine q8w (by rfl) ?_) | (first | (refine aQlK ?_) | (refine aQsK ?_; clear HM; intro us HM; dsimp only [List.set] at HM) | (refine aQtK ?_; clear HM HSW; intro us HM HSW; dsimp only [List.set] at HM HSW) | (refine aQvK ?_; clear HM; intro us HM; dsimp only [List.set] at HM) | (refine aQbK ?_) | (refine aQnK ?_; first | (have q:dV HM = 0:=rfl;clear q HM;intro g1 u1 HG1 HM) | (have q:dV HM = 1:=rfl;clear q HM;intro g2 u2 HG2 HM) | (have q:dV HM = 2:=rfl;clear q HM;intro g3 u3 HG3 HM) | (have q:dV HM = 3:=rfl;clear q HM;intro g4 u4 HG4 HM) | (have q:dV HM = 4:=rfl;clear q HM;intro g5 u5 HG5 HM) | (have q:dV HM = 5:=rfl;clear q HM;intro g6 u6 HG6 HM) | (have q:dV HM = 6:=rfl;clear q HM;intro g7 u7 HG7 HM) | (have q:dV HM = 7:=rfl;clear q HM;intro g8 u8 HG8 HM) | (have q:dV HM = 8:=rfl;clear q HM;intro g9 u9 HG9 HM) | (have q:dV HM = 9:=rfl;clear q HM;intro g10 u10 HG10 HM) | (have q:dV HM = 10:=rfl;clear q HM;intro g11 u11 HG11 HM) | (have q:dV HM = 11:=rfl;clear q HM;intro g12 u12 HG12 HM) | (have q:dV HM = 12:=rfl;clear q HM;intro g13 u13 HG13 HM) | (have q:dV HM = 13:=rfl;clear q HM;intro g14 u14 HG14 HM))) | (show wpList _ _ _ ({ dst := _, op := Op.binOp _ _ _ _ _, type := _, pos := _, after := _, guard := _ } :: _) _ _; (refine aCeK ?_)))
       go_meet
       exact ⟨s, Lib.hid ⟨HOK.out, HSW.out, HM.out⟩⟩
     case rest =>
      clear HM HSW HOK
      obtain ⟨s, HS⟩ := hcut
      have HM := Lib.hid HS.out.m
      have HSW := Lib.hid HS.out.sw
      have HOK := Lib.hid HS.out.ok
      clear HS
      have HNX := Lib.hid (fun (v : World) (hm : MV w u0 [(g1, 32, syC s)] v) => (show TtS w u0 g1 s v from ⟨HOK.out, HSW.out, hm⟩))
      have HST := Lib.hid (fun u hr he => pstep_any s x.A x.n x.c x.bs u HSW hr he)
      cases hq : stepS s x.bs with
      | error z =>
       rw [hq] at HST
       unfold DsQ at HST
       dsimp only [dsV] at HST
       have HQ1 := Lib.hid (fun u => run_same_sy syW_z u)
       have HQ2 := Lib.hid (fun u => run_equalIn_same 35 (n := 16) (by kernel_rfl) (zr 16) (zr_length 16) u)
       have her := step_err HOK.out hq
       have dz1 : (z != 0) = true := by rcases her with rfl | rfl <;> rfl
       have dz2 : (z != z) = false := by simp
       clear hq
       go_wp2_with (first | (refine q9g ?_; refine q8w (by rfl) ?_) | (first | (refine aQlK ?_) | (refine aQsK ?_; clear HM; intro us HM; dsimp only [List.set] at HM) | (refine aQtK ?_; clear HM HSW; intro us HM HSW; dsimp only [List.set] at HM HSW) | (refine aQvK ?_; clear HM; intro us HM; dsimp only [List.set] at HM) | (refine aQbK ?_) | (refine aQnK ?_; first | (have q:dV HM = 0:=rfl;clear q HM;intro g1 u1 HG1 HM) | (have q:dV HM = 1:=rfl;clear q HM;intro g2 u2 HG2 HM) | (have q:dV HM = 2:=rfl;clear q HM;intro g3 u3 HG3 HM) | (have q:dV HM = 3:=rfl;clear q HM;intro g4 u4 HG4 HM) | (have q:dV HM = 4:=rfl;clear q HM;intro g5 u5 HG5 HM) | (have q:dV HM = 5:=rfl;clear q HM;intro g6 u6 HG6 HM) | (have q:dV HM = 6:=rfl;clear q HM;intro g7 u7 HG7 HM) | (have q:dV HM = 7:=rfl;clear q HM;intro g8 u8 HG8 HM) | (have q:dV HM = 8:=rfl;clear q HM;intro g9 u9 HG9 HM) | (have q:dV HM = 9:=rfl;clear q HM;intro g10 u10 HG10 HM) | (have q:dV HM = 10:=rfl;clear q HM;intro g11 u11 HG11 HM) | (have q:dV HM = 11:=rfl;clear q HM;intro g12 u12 HG12 HM) | (have q:dV HM = 12:=rfl;clear q HM;intro g13 u13 HG13 HM) | (have q:dV HM = 13:=rfl;clear q HM;intro g14 u14 HG14 HM))) | (show wpList _ _ _ ({ dst := _, op := Op.binOp _ _ _ _ _, type := _, pos := _, after := _, guard := _ } :: _) _ _; (refine aCeK ?_)))
       refine (HST.out _ (Lib.hid (HRW.out.below HM.out.1)) (HE.out.below HM.out.1)).mono ?_
       rintro e w6 ⟨rfl, hb, -⟩
       replace HM := Lib.hid (HM.out.below hb)
       clear hb
       go_wp2_with (first | (refine q9g ?_; refine q8w (by rfl) ?_) | (first | (refine aQlK ?_) | (refine aQsK ?_; clear HM; intro us HM; dsimp only [List.set] at HM) | (refine aQtK ?_; clear HM HSW; intro us HM HSW; dsimp only [List.set] at HM HSW) | (refine aQvK ?_; clear HM; intro us HM; dsimp only [List.set] at HM) | (refine aQbK ?_) | (refine aQnK ?_; first | (have q:dV HM = 0:=rfl;clear q HM;intro g1 u1 HG1 HM) | (have q:dV HM = 1:=rfl;clear q HM;intro g2 u2 HG2 HM) | (have q:dV HM = 2:=rfl;clear q HM;intro g3 u3 HG3 HM) | (have q:dV HM = 3:=rfl;clear q HM;intro g4 u4 HG4 HM) | (have q:dV HM = 4:=rfl;clear q HM;intro g5 u5 HG5 HM) | (have q:dV HM = 5:=rfl;clear q HM;intro g6 u6 HG6 HM) | (have q:dV HM = 6:=rfl;clear q HM;intro g7 u7 HG7 HM) | (have q:dV HM = 7:=rfl;clear q HM;intro g8 u8 HG8 HM) | (have q:dV HM = 8:=rfl;clear q HM;intro g9 u9 HG9 HM) | (have q:dV HM = 9:=rfl;clear q HM;intro g10 u10 HG10 HM) | (have q:dV HM = 10:=rfl;clear q HM;intro g11 u11 HG11 HM) | (have q:dV HM = 11:=rfl;clear q HM;intro g12 u12 HG12 HM) | (have q:dV HM = 12:=rfl;clear q HM;intro g13 u13 HG13 HM) | (have q:dV HM = 13:=rfl;clear q HM;intro g14 u14 HG14 HM))) | (show wpList _ _ _ ({ dst := _, op := Op.binOp _ _ _ _ _, type := _, pos := _, after := _, guard := _ } :: _) _ _; (refine aCeK ?_)))
       refine (HST.out _ (Lib.hid (HRW.out.below HM.out.1)) (HE.out.below HM.out.1)).mono ?_
       rintro e w6 ⟨rfl, hb, -⟩
       replace HM := Lib.hid (HM.out.below hb)
       clear hb
       go_upto_region 18 with (first | (refine q9g ?_; refine q8w (by rfl) ?_) | (first | (refine aQlK ?_) | (refine aQsK ?_; clear HM; intro us HM; dsimp only [List.set] at HM) | (refine aQtK ?_; clear HM HSW; intro us HM HSW; dsimp only [List.set] at HM HSW) | (refine aQvK ?_; clear HM; intro us HM; dsimp only [List.set] at HM) | (refine aQbK ?_) | (refine aQnK ?_; first | (have q:dV HM = 0:=rfl;clear q HM;intro g1 u1 HG1 HM) | (have q:dV HM = 1:=rfl;clear q HM;intro g2 u2 HG2 HM) | (have q:dV HM = 2:=rfl;clear q HM;intro g3 u3 HG3 HM) | (have q:dV HM = 3:=rfl;clear q HM;intro g4 u4 HG4 HM) | (have q:dV HM = 4:=rfl;clear q HM;intro g5 u5 HG5 HM) | (have q:dV HM = 5:=rfl;clear q HM;intro g6 u6 HG6 HM) | (have q:dV HM = 6:=rfl;clear q HM;intro g7 u7 HG7 HM) | (have q:dV HM = 7:=rfl;clear q HM;intro g8 u8 HG8 HM) | (have q:dV HM = 8:=rfl;clear q HM;intro g9 u9 HG9 HM) | (have q:dV HM = 9:=rfl;clear q HM;intro g10 u10 HG10 HM) | (have q:dV HM = 10:=rfl;clear q HM;intro g11 u11 HG11 HM) | (have q:dV HM = 11:=rfl;clear q HM;intro g12 u12 HG12 HM) | (have q:dV HM = 12:=rfl;clear q HM;intro g13 u13 HG13 HM) | (have q:dV HM = 13:=rfl;clear q HM;intro g14 u14 HG14 HM))) | (show wpList _ _ _ ({ dst := _, op := Op.binOp _ _ _ _ _, type := _, pos := _, after := _, guard := _ } :: _) _ _; (refine aCeK ?_)))
       clear HST dz1 dz2
       rcases her with rfl | rfl
       all_goals
        go_wp2_with (first | (refine q9g ?_; refine q8w (by rfl) ?_) | (first | (refine aQlK ?_) | (refine aQsK ?_; clear HM; intro us HM; dsimp only [List.set] at HM) | (refine aQtK ?_; clear HM HSW; intro us HM HSW; dsimp only [List.set] at HM HSW) | (refine aQvK ?_; clear HM; intro us HM; dsimp only [List.set] at HM) | (refine aQbK ?_) | (refine aQnK ?_; first | (have q:dV HM = 0:=rfl;clear q HM;intro g1 u1 HG1 HM) | (have q:dV HM = 1:=rfl;clear q HM;intro g2 u2 HG2 HM) | (have q:dV HM = 2:=rfl;clear q HM;intro g3 u3 HG3 HM) | (have q:dV HM = 3:=rfl;clear q HM;intro g4 u4 HG4 HM) | (have q:dV HM = 4:=rfl;clear q HM;intro g5 u5 HG5 HM) | (have q:dV HM = 5:=rfl;clear q HM;intro g6 u6 HG6 HM) | (have q:dV HM = 6:=rfl;clear q HM;intro g7 u7 HG7 HM) | (have q:dV HM = 7:=rfl;clear q HM;intro g8 u8 HG8 HM) | (have q:dV HM = 8:=rfl;clear q HM;intro g9 u9 HG9 HM) | (have q:dV HM = 9:=rfl;clear q HM;intro g10 u10 HG10 HM) | (have q:dV HM = 10:=rfl;clear q HM;intro g11 u11 HG11 HM) | (have q:dV HM = 11:=rfl;clear q HM;intro g12 u12 HG12 HM) | (have q:dV HM = 12:=rfl;clear q HM;intro g13 u13 HG13 HM) | (have q:dV HM = 13:=rfl;clear q HM;intro g14 u14 HG14 HM))) | (show wpList _ _ _ ({ dst := _, op := Op.binOp _ _ _ _ _, type := _, pos := _, after := _, guard := _ } :: _) _ _; (refine aCeK ?_)))
        have HS2 := Lib.hid (HNX.out _ (by have HP := HM.out; (repeat (replace HP := HP.popH (by with_reducible assumption))); exact HP))
        clear HM HNX
        go_roundw
        case rel => exact ⟨k + 1, s, by omega, by go_num, HS2⟩
        case measure => simp [intOf]; omega
      | ok r =>
       obtain ⟨s3, p⟩ := r
       obtain ⟨-, ok3, okp, sw3, lp3, hne⟩ := step_ok HSW.out hq
       rw [hq] at HST
       unfold DsQ at HST
       dsimp only [dsV] at HST
       have HSW3 := Lib.hid sw3
       have LP := Lib.hid lp3
       have HQ1 := Lib.hid (fun u => run_same_sy sw3 u)
       have HQ2 := Lib.hid (fun u => run_equalIn_same 35 (n := 16) (by kernel_rfl) p lp3 u)
       have HCP := Lib.hid (fun u => check_any p true 0 u lp3 okp rfl)
       have HCS := Lib.hid (fun u => rdcheck_any s3 0 u HSW3 (by rw [ok3]; rfl))
       have HNY := Lib.hid (fun (v : World) (hm : MV w u0 [(g1, 32, syC s3)] v) => (show TtS w u0 g1 s3 v from ⟨ok3, sw3, hm⟩))
       obtain ⟨lv, hlv⟩ : ∃ v, s3.live = v := ⟨_, rfl⟩
       have hhu : s3.hush = !lv := by cases lv <;> cases e : s3.hush <;> simp_all
       have HLV := Lib.hid hlv
       have HHU := Lib.hid hhu
       clear hq ok3 okp sw3 lp3 hne hlv hhu HNX
       go_wp2_with (first | (refine q9g ?_; refine q8w (by rfl) ?_) | (first | (refine aQlK ?_) | (refine aQsK ?_; clear HM; intro us HM; dsimp only [List.set] at HM) | (refine aQtK ?_; clear HM HSW; intro us HM HSW; dsimp only [List.set] at HM HSW) | (refine aQvK ?_; clear HM; intro us HM; dsimp only [List.set] at HM) | (refine aQbK ?_) | (refine aQnK ?_; first | (have q:dV HM = 0:=rfl;clear q HM;intro g1 u1 HG1 HM) | (have q:dV HM = 1:=rfl;clear q HM;intro g2 u2 HG2 HM) | (have q:dV HM = 2:=rfl;clear q HM;intro g3 u3 HG3 HM) | (have q:dV HM = 3:=rfl;clear q HM;intro g4 u4 HG4 HM) | (have q:dV HM = 4:=rfl;clear q HM;intro g5 u5 HG5 HM) | (have q:dV HM = 5:=rfl;clear q HM;intro g6 u6 HG6 HM) | (have q:dV HM = 6:=rfl;clear q HM;intro g7 u7 HG7 HM) | (have q:dV HM = 7:=rfl;clear q HM;intro g8 u8 HG8 HM) | (have q:dV HM = 8:=rfl;clear q HM;intro g9 u9 HG9 HM) | (have q:dV HM = 9:=rfl;clear q HM;intro g10 u10 HG10 HM) | (have q:dV HM = 10:=rfl;clear q HM;intro g11 u11 HG11 HM) | (have q:dV HM = 11:=rfl;clear q HM;intro g12 u12 HG12 HM) | (have q:dV HM = 12:=rfl;clear q HM;intro g13 u13 HG13 HM) | (have q:dV HM = 13:=rfl;clear q HM;intro g14 u14 HG14 HM))) | (show wpList _ _ _ ({ dst := _, op := Op.binOp _ _ _ _ _, type := _, pos := _, after := _, guard := _ } :: _) _ _; (refine aCeK ?_)))
       refine (HST.out _ (Lib.hid (HRW.out.below HM.out.1)) (HE.out.below HM.out.1)).mono ?_
       rintro e w6 ⟨rfl, hb, -⟩
       replace HM := Lib.hid (HM.out.below hb)
       clear hb
       go_wp2_with (first | (refine q9g ?_; refine q8w (by rfl) ?_) | (first | (refine aQlK ?_) | (refine aQsK ?_; clear HM; intro us HM; dsimp only [List.set] at HM) | (refine aQtK ?_; clear HM HSW; intro us HM HSW; dsimp only [List.set] at HM HSW) | (refine aQvK ?_; clear HM; intro us HM; dsimp only [List.set] at HM) | (refine aQbK ?_) | (refine aQnK ?_; first | (have q:dV HM = 0:=rfl;clear q HM;intro g1 u1 HG1 HM) | (have q:dV HM = 1:=rfl;clear q HM;intro g2 u2 HG2 HM) | (have q:dV HM = 2:=rfl;clear q HM;intro g3 u3 HG3 HM) | (have q:dV HM = 3:=rfl;clear q HM;intro g4 u4 HG4 HM) | (have q:dV HM = 4:=rfl;clear q HM;intro g5 u5 HG5 HM) | (have q:dV HM = 5:=rfl;clear q HM;intro g6 u6 HG6 HM) | (have q:dV HM = 6:=rfl;clear q HM;intro g7 u7 HG7 HM) | (have q:dV HM = 7:=rfl;clear q HM;intro g8 u8 HG8 HM) | (have q:dV HM = 8:=rfl;clear q HM;intro g9 u9 HG9 HM) | (have q:dV HM = 9:=rfl;clear q HM;intro g10 u10 HG10 HM) | (have q:dV HM = 10:=rfl;clear q HM;intro g11 u11 HG11 HM) | (have q:dV HM = 11:=rfl;clear q HM;intro g12 u12 HG12 HM) | (have q:dV HM = 12:=rfl;clear q HM;intro g13 u13 HG13 HM) | (have q:dV HM = 13:=rfl;clear q HM;intro g14 u14 HG14 HM))) | (show wpList _ _ _ ({ dst := _, op := Op.binOp _ _ _ _ _, type := _, pos := _, after := _, guard := _ } :: _) _ _; (refine aCeK ?_)))
       refine (HST.out _ (Lib.hid (HRW.out.below HM.out.1)) (HE.out.below HM.out.1)).mono ?_
       rintro e w6 ⟨rfl, hb, -⟩
       replace HM := Lib.hid (HM.out.below hb)
       clear hb
       go_wp2_with (first | (refine q9g ?_; refine q8w (by rfl) ?_) | (first | (refine aQlK ?_) | (refine aQsK ?_; clear HM; intro us HM; dsimp only [List.set] at HM) | (refine aQtK ?_; clear HM HSW; intro us HM HSW; dsimp only [List.set] at HM HSW) | (refine aQvK ?_; clear HM; intro us HM; dsimp only [List.set] at HM) | (refine aQbK ?_) | (refine aQnK ?_; first | (have q:dV HM = 0:=rfl;clear q HM;intro g1 u1 HG1 HM) | (have q:dV HM = 1:=rfl;clear q HM;intro g2 u2 HG2 HM) | (have q:dV HM = 2:=rfl;clear q HM;intro g3 u3 HG3 HM) | (have q:dV HM = 3:=rfl;clear q HM;intro g4 u4 HG4 HM) | (have q:dV HM = 4:=rfl;clear q HM;intro g5 u5 HG5 HM) | (have q:dV HM = 5:=rfl;clear q HM;intro g6 u6 HG6 HM) | (have q:dV HM = 6:=rfl;clear q HM;intro g7 u7 HG7 HM) | (have q:dV HM = 7:=rfl;clear q HM;intro g8 u8 HG8 HM) | (have q:dV HM = 8:=rfl;clear q HM;intro g9 u9 HG9 HM) | (have q:dV HM = 9:=rfl;clear q HM;intro g10 u10 HG10 HM) | (have q:dV HM = 10:=rfl;clear q HM;intro g11 u11 HG11 HM) | (have q:dV HM = 11:=rfl;clear q HM;intro g12 u12 HG12 HM) | (have q:dV HM = 12:=rfl;clear q HM;intro g13 u13 HG13 HM) | (have q:dV HM = 13:=rfl;clear q HM;intro g14 u14 HG14 HM))) | (show wpList _ _ _ ({ dst := _, op := Op.binOp _ _ _ _ _, type := _, pos := _, after := _, guard := _ } :: _) _ _; (refine aCeK ?_)))
       refine (HCP.out _).mono ?_
       rintro e w6 ⟨rfl, hb⟩
       replace HM := Lib.hid (HM.out.below hb)
       clear hb
       go_wp2_with (first | (refine q9g ?_; refine q8w (by rfl) ?_) | (first | (refine aQlK ?_) | (refine aQsK ?_; clear HM; intro us HM; dsimp only [List.set] at HM) | (refine aQtK ?_; clear HM HSW; intro us HM HSW; dsimp only [List.set] at HM HSW) | (refine aQvK ?_; clear HM; intro us HM; dsimp only [List.set] at HM) | (refine aQbK ?_) | (refine aQnK ?_; first | (have q:dV HM = 0:=rfl;clear q HM;intro g1 u1 HG1 HM) | (have q:dV HM = 1:=rfl;clear q HM;intro g2 u2 HG2 HM) | (have q:dV HM = 2:=rfl;clear q HM;intro g3 u3 HG3 HM) | (have q:dV HM = 3:=rfl;clear q HM;intro g4 u4 HG4 HM) | (have q:dV HM = 4:=rfl;clear q HM;intro g5 u5 HG5 HM) | (have q:dV HM = 5:=rfl;clear q HM;intro g6 u6 HG6 HM) | (have q:dV HM = 6:=rfl;clear q HM;intro g7 u7 HG7 HM) | (have q:dV HM = 7:=rfl;clear q HM;intro g8 u8 HG8 HM) | (have q:dV HM = 8:=rfl;clear q HM;intro g9 u9 HG9 HM) | (have q:dV HM = 9:=rfl;clear q HM;intro g10 u10 HG10 HM) | (have q:dV HM = 10:=rfl;clear q HM;intro g11 u11 HG11 HM) | (have q:dV HM = 11:=rfl;clear q HM;intro g12 u12 HG12 HM) | (have q:dV HM = 12:=rfl;clear q HM;intro g13 u13 HG13 HM) | (have q:dV HM = 13:=rfl;clear q HM;intro g14 u14 HG14 HM))) | (show wpList _ _ _ ({ dst := _, op := Op.binOp _ _ _ _ _, type := _, pos := _, after := _, guard := _ } :: _) _ _; (refine aCeK ?_)))
       refine (HCS.out _).mono ?_
       rintro e w6 ⟨rfl, hb⟩
       replace HM := Lib.hid (HM.out.below hb)
       clear hb
       cases lv
       all_goals
        go_wp2_with (first | (refine q9g ?_; refine q8w (by rfl) ?_) | (first | (refine aQlK ?_) | (refine aQsK ?_; clear HM; intro us HM; dsimp only [List.set] at HM) | (refine aQtK ?_; clear HM HSW; intro us HM HSW; dsimp only [List.set] at HM HSW) | (refine aQvK ?_; clear HM; intro us HM; dsimp only [List.set] at HM) | (refine aQbK ?_) | (refine aQnK ?_; first | (have q:dV HM = 0:=rfl;clear q HM;intro g1 u1 HG1 HM) | (have q:dV HM = 1:=rfl;clear q HM;intro g2 u2 HG2 HM) | (have q:dV HM = 2:=rfl;clear q HM;intro g3 u3 HG3 HM) | (have q:dV HM = 3:=rfl;clear q HM;intro g4 u4 HG4 HM) | (have q:dV HM = 4:=rfl;clear q HM;intro g5 u5 HG5 HM) | (have q:dV HM = 5:=rfl;clear q HM;intro g6 u6 HG6 HM) | (have q:dV HM = 6:=rfl;clear q HM;intro g7 u7 HG7 HM) | (have q:dV HM = 7:=rfl;clear q HM;intro g8 u8 HG8 HM) | (have q:dV HM = 8:=rfl;clear q HM;intro g9 u9 HG9 HM) | (have q:dV HM = 9:=rfl;clear q HM;intro g10 u10 HG10 HM) | (have q:dV HM = 10:=rfl;clear q HM;intro g11 u11 HG11 HM) | (have q:dV HM = 11:=rfl;clear q HM;intro g12 u12 HG12 HM) | (have q:dV HM = 12:=rfl;clear q HM;intro g13 u13 HG13 HM) | (have q:dV HM = 13:=rfl;clear q HM;intro g14 u14 HG14 HM))) | (show wpList _ _ _ ({ dst := _, op := Op.binOp _ _ _ _ _, type := _, pos := _, after := _, guard := _ } :: _) _ _; (refine aCeK ?_)))
        have HS2 := Lib.hid (HNY.out _ (by have HP := HM.out; (repeat (replace HP := HP.popH (by with_reducible assumption))); exact HP))
        clear HM HNY HST
        go_roundw
        case rel => exact ⟨k + 1, s3, by omega, by go_num, HS2⟩
        case measure => simp [intOf]; omega
   ·obtain rfl : k = n := by omega
    go_wp2_with (first | (refine aQlK ?_) | (refine aQsK ?_; clear HM; intro us HM; dsimp only [List.set] at HM) | (refine aQtK ?_; clear HM HSW; intro us HM HSW; dsimp only [List.set] at HM HSW) | (refine aQvK ?_; clear HM; intro us HM; dsimp only [List.set] at HM) | (refine aQbK ?_) | (refine aQnK ?_; first | (have q:dV HM = 0:=rfl;clear q HM;intro g1 u1 HG1 HM) | (have q:dV HM = 1:=rfl;clear q HM;intro g2 u2 HG2 HM) | (have q:dV HM = 2:=rfl;clear q HM;intro g3 u3 HG3 HM) | (have q:dV HM = 3:=rfl;clear q HM;intro g4 u4 HG4 HM) | (have q:dV HM = 4:=rfl;clear q HM;intro g5 u5 HG5 HM) | (have q:dV HM = 5:=rfl;clear q HM;intro g6 u6 HG6 HM) | (have q:dV HM = 6:=rfl;clear q HM;intro g7 u7 HG7 HM) | (have q:dV HM = 7:=rfl;clear q HM;intro g8 u8 HG8 HM) | (have q:dV HM = 8:=rfl;clear q HM;intro g9 u9 HG9 HM) | (have q:dV HM = 9:=rfl;clear q HM;intro g10 u10 HG10 HM) | (have q:dV HM = 10:=rfl;clear q HM;intro g11 u11 HG11 HM) | (have q:dV HM = 11:=rfl;clear q HM;intro g12 u12 HG12 HM) | (have q:dV HM = 12:=rfl;clear q HM;intro g13 u13 HG13 HM) | (have q:dV HM = 13:=rfl;clear q HM;intro g14 u14 HG14 HM)))
    go_ret
    exact ⟨rfl, HM.out.1⟩
end Go.Proofs.YtkdbhndegkldcaaGreatDoor.Lp
