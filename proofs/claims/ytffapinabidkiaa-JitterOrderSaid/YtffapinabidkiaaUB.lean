/-
  Numbers brought to their bounds.
-/
import Derived.Test.YtffapinabidkiaaUA
import Derived.LoopTactic
set_option linter.unusedSimpArgs false
set_option linter.unusedVariables false
/- UB -/
namespace Go.Proofs.Ytffapinabidkiaa.Lp
open Go.RowKit Go.Proofs.Ytffapinabidkiaa.Fq
def holdN (v lo hi : Int) : Int := max lo (min v hi)
theorem numIx (a b c : Int) (w : World) : (Instr.index 54 (num3 a b c) (.int .i64 0)).run Try.prog w = .ok (.int .i64 a) w ∧ (Instr.index 54 (num3 a b c) (.int .i64 1)).run Try.prog w = .ok (.int .i64 b) w ∧ (Instr.index 54 (num3 a b c) (.int .i64 2)).run Try.prog w = .ok (.int .i64 c) w := ⟨by kernel_rfl, by kernel_rfl, by kernel_rfl⟩
/-- behind k rounds -/
def heldC (k a b c ma mb mc : Int) : Array Value := #[.int .i64 (if 0 < k then holdN a 0 ma else a), .int .i64 (if 1 < k then holdN b 1 mb else b), .int .i64 (if 2 < k then holdN c 0 mc else c)]
set_option maxRecDepth 100000 in
set_option maxHeartbeats 4000000 in
theorem held_any (a b c ma mb mc : Int) (w : World) :
    Calls Try.prog 38 #[num3 a b c, num3 ma mb mc] w (ValQ w (num3 (holdN a 0 ma) (holdN b 1 mb) (holdN c 0 mc))) := by
  have HM := Lib.hid (MV.start w)
  go_enter Try.func38, Try.ntmps38
  go_wp2_with (first | (refine jL ?_) | (refine jS ?_; clear HM; intro us HM; simp only [List.set, List.setIfInBounds_toArray, List.set_cons_zero, List.set_cons_succ] at HM) | (refine jN ?_; first | (have q : dV HM = 0 := rfl; clear q HM; intro g1 u1 HG1 HM) | (have q : dV HM = 1 := rfl; clear q HM; intro g2 u2 HG2 HM) | (have q : dV HM = 2 := rfl; clear q HM; intro g3 u3 HG3 HM) | (have q : dV HM = 3 := rfl; clear q HM; intro g4 u4 HG4 HM) | (have q : dV HM = 4 := rfl; clear q HM; intro g5 u5 HG5 HM) | (have q : dV HM = 5 := rfl; clear q HM; intro g6 u6 HG6 HM) | (have q : dV HM = 6 := rfl; clear q HM; intro g7 u7 HG7 HM) | (have q : dV HM = 7 := rfl; clear q HM; intro g8 u8 HG8 HM) | (have q : dV HM = 8 := rfl; clear q HM; intro g9 u9 HG9 HM) | (have q : dV HM = 9 := rfl; clear q HM; intro g10 u10 HG10 HM) | (have q : dV HM = 10 := rfl; clear q HM; intro g11 u11 HG11 HM) | (have q : dV HM = 11 := rfl; clear q HM; intro g12 u12 HG12 HM) | (have q : dV HM = 12 := rfl; clear q HM; intro g13 u13 HG13 HM) | (have q : dV HM = 13 := rfl; clear q HM; intro g14 u14 HG14 HM)))
  refine (least_any _).mono ?_
  rintro e w2 ⟨rfl, h1⟩
  have HM2 := Lib.hid (HM.out.below h1)
  clear h1 HM
  have HM := HM2
  clear HM2
  go_wp2_with fail
  go_loopw [8] (fun vi wr => ∃ k : Int, 0 ≤ k ∧ k ≤ 3 ∧ vi = .int .i64 k ∧ Hid (MV w w [(g3, 54, #[.int .i64 0, .int .i64 0, .int .i64 0]), (g2, 54, #[.int .i64 ma, .int .i64 mb, .int .i64 mc]), (g1, 54, heldC k a b c ma mb mc)] wr)) (fun vi _ => 3 - (intOf vi).toNat)
  case atStart => exact ⟨0, by omega, by omega, rfl, HM⟩
  case round =>
    clear HM
    obtain ⟨k, hk0, hk, rfl, HM⟩ := hrel
    rcases (by omega : k = 0 ∨ k = 1 ∨ k = 2 ∨ k = 3) with rfl | rfl | rfl | rfl
    · obtain ⟨ix, -, -⟩ := numIx 0 1 0 wr
      have c1 := HM.out.cell (.tail _ (.tail _ (.head _))) (k := 0) (v := .int .i64 a) rfl
      have c2 := HM.out.cell (.tail _ (.head _)) (k := 0) (v := .int .i64 ma) rfl
      have f1 := HM.out.free (.tail _ (.tail _ (.head _))) 0
      go_wp2_with fail
      go_region
      all_goals
        have HM2 := Lib.hid (HM.out.put 2 rfl 0 (.int .i64 (holdN a 0 ma))).drew
        simp only [List.set_cons_zero, List.set_cons_succ] at HM2
        clear HM c1 c2 f1
        go_wp2
        go_roundw
        case rel => exact ⟨1, by omega, by omega, rfl, HM2⟩
        case measure => simp [intOf]
    · obtain ⟨-, ix, -⟩ := numIx 0 1 0 wr
      have c1 := HM.out.cell (.tail _ (.tail _ (.head _))) (k := 1) (v := .int .i64 b) rfl
      have c2 := HM.out.cell (.tail _ (.head _)) (k := 1) (v := .int .i64 mb) rfl
      have f1 := HM.out.free (.tail _ (.tail _ (.head _))) 1
      go_wp2_with fail
      go_region
      all_goals
        have HM2 := Lib.hid (HM.out.put 2 rfl 1 (.int .i64 (holdN b 1 mb))).drew
        simp only [List.set_cons_zero, List.set_cons_succ] at HM2
        clear HM c1 c2 f1
        go_wp2
        go_roundw
        case rel => exact ⟨2, by omega, by omega, rfl, HM2⟩
        case measure => simp [intOf]
    · obtain ⟨-, -, ix⟩ := numIx 0 1 0 wr
      have c1 := HM.out.cell (.tail _ (.tail _ (.head _))) (k := 2) (v := .int .i64 c) rfl
      have c2 := HM.out.cell (.tail _ (.head _)) (k := 2) (v := .int .i64 mc) rfl
      have f1 := HM.out.free (.tail _ (.tail _ (.head _))) 2
      go_wp2_with fail
      go_region
      all_goals
        have HM2 := Lib.hid (HM.out.put 2 rfl 2 (.int .i64 (holdN c 0 mc))).drew
        simp only [List.set_cons_zero, List.set_cons_succ] at HM2
        clear HM c1 c2 f1
        go_wp2
        go_roundw
        case rel => exact ⟨3, by omega, by omega, rfl, HM2⟩
        case measure => simp [intOf]
    · have HM2 := Lib.hid (show MV w w [(g3, 54, #[.int .i64 0, .int .i64 0, .int .i64 0]), (g2, 54, #[.int .i64 ma, .int .i64 mb, .int .i64 mc]), (g1, 54, #[.int .i64 (holdN a 0 ma), .int .i64 (holdN b 1 mb), .int .i64 (holdN c 0 mc)])] wr from HM.out)
      clear HM
      have HM := HM2
      clear HM2
      go_wp2_with (first | (refine jL ?_) | (refine jS ?_; clear HM; intro us HM; simp only [List.set, List.setIfInBounds_toArray, List.set_cons_zero, List.set_cons_succ] at HM) | (refine jN ?_; first | (have q : dV HM = 0 := rfl; clear q HM; intro g1 u1 HG1 HM) | (have q : dV HM = 1 := rfl; clear q HM; intro g2 u2 HG2 HM) | (have q : dV HM = 2 := rfl; clear q HM; intro g3 u3 HG3 HM) | (have q : dV HM = 3 := rfl; clear q HM; intro g4 u4 HG4 HM) | (have q : dV HM = 4 := rfl; clear q HM; intro g5 u5 HG5 HM) | (have q : dV HM = 5 := rfl; clear q HM; intro g6 u6 HG6 HM) | (have q : dV HM = 6 := rfl; clear q HM; intro g7 u7 HG7 HM) | (have q : dV HM = 7 := rfl; clear q HM; intro g8 u8 HG8 HM) | (have q : dV HM = 8 := rfl; clear q HM; intro g9 u9 HG9 HM) | (have q : dV HM = 9 := rfl; clear q HM; intro g10 u10 HG10 HM) | (have q : dV HM = 10 := rfl; clear q HM; intro g11 u11 HG11 HM) | (have q : dV HM = 11 := rfl; clear q HM; intro g12 u12 HG12 HM) | (have q : dV HM = 12 := rfl; clear q HM; intro g13 u13 HG13 HM) | (have q : dV HM = 13 := rfl; clear q HM; intro g14 u14 HG14 HM)))
      refine bodyPost_ret (v := num3 (holdN a 0 ma) (holdN b 1 mb) (holdN c 0 mc)) (vres_one rfl _ rfl rowNum HM (by exact vmemOf) (Lib.hid rfl)) rfl ⟨rfl, HM.out.1⟩
end Go.Proofs.Ytffapinabidkiaa.Lp
