/-
  Encoder: no more than eight frames stand between one Intra and the next; frames are sent as long as it is loud, and a little longer.
-/
import Derived.Test.YtkdbhndegkldcaaGreatDoorK6
set_option maxHeartbeats 16000000
set_option linter.unusedSimpArgs false
set_option linter.unusedVariables false
set_option maxRecDepth 100000
/- Nk -/
namespace Go.Proofs.YtkdbhndegkldcaaGreatDoor.Lp
open Go.RowKit Fx Fq Tb
open Yr (Fr chkB chkB_iff nearB nearN wrB wrB_len kindR inB kind_back rd_back)
theorem fresh12_law (A : Option Addr) (n c : Nat) (fs : List (List Int)) (w : World) (hr : Hid (RdA w A n fs)) (hn : n ≤ maxLen) (he : Edg w) :
  Calls Tryz.prog 7 #[.slice A n c] w (ValQ w (.bool true)) := by
 have HM := Lib.hid (MV.start w)
 have HE := Lib.hid he
 have LZ := Lib.hid (zr_length 16)
 have HGD := Lib.hid (fun u b (h : Hid (RdA u A n fs)) (hb : goodB fs = b) => egood_any A n c fs b u h hn hb)
 have hn1 : n ≤ 9223372036854775807 := by unfold maxLen at hn; omega
 clear hn he
 cases hg : goodB fs with
 | false =>
  have HG := Lib.hid (fun u h => HGD.out u false h hg)
  clear HGD hg
  go_enter Tryz.func7, Tryz.ntmps7
  go_wp2_with (first | (refine tQl ?_) | (refine tQs ?_; clear HM; intro us HM; dsimp only [List.set] at HM) | (refine tQt ?_; clear HM HTW; intro us HM HTW; dsimp only [List.set] at HM HTW) | (refine tQb ?_) | (refine tQn ?_; first | (have q:dV HM = 0:=rfl;clear q HM;intro g1 u1 HG1 HM) | (have q:dV HM = 1:=rfl;clear q HM;intro g2 u2 HG2 HM) | (have q:dV HM = 2:=rfl;clear q HM;intro g3 u3 HG3 HM) | (have q:dV HM = 3:=rfl;clear q HM;intro g4 u4 HG4 HM) | (have q:dV HM = 4:=rfl;clear q HM;intro g5 u5 HG5 HM)) | (first | (refine aQl ?_) | (refine aQs ?_; clear HM; intro us HM; dsimp only [List.set] at HM) | (refine aQt ?_; clear HM HSW; intro us HM HSW; dsimp only [List.set] at HM HSW) | (refine aQv ?_; clear HM; intro us HM; dsimp only [List.set] at HM) | (refine aQb ?_) | (refine aQn ?_; first | (have q:dV HM = 0:=rfl;clear q HM;intro g1 u1 HG1 HM) | (have q:dV HM = 1:=rfl;clear q HM;intro g2 u2 HG2 HM) | (have q:dV HM = 2:=rfl;clear q HM;intro g3 u3 HG3 HM) | (have q:dV HM = 3:=rfl;clear q HM;intro g4 u4 HG4 HM) | (have q:dV HM = 4:=rfl;clear q HM;intro g5 u5 HG5 HM))))
  refine (elive_any _ (HE.out.below HM.out.1)).mono ?_
  rintro e w2 ⟨rfl, hb⟩
  replace HM := Lib.hid (HM.out.below hb)
  clear hb
  go_wp2_with (first | (refine tQl ?_) | (refine tQs ?_; clear HM; intro us HM; dsimp only [List.set] at HM) | (refine tQt ?_; clear HM HTW; intro us HM HTW; dsimp only [List.set] at HM HTW) | (refine tQb ?_) | (refine tQn ?_; first | (have q:dV HM = 0:=rfl;clear q HM;intro g1 u1 HG1 HM) | (have q:dV HM = 1:=rfl;clear q HM;intro g2 u2 HG2 HM) | (have q:dV HM = 2:=rfl;clear q HM;intro g3 u3 HG3 HM) | (have q:dV HM = 3:=rfl;clear q HM;intro g4 u4 HG4 HM) | (have q:dV HM = 4:=rfl;clear q HM;intro g5 u5 HG5 HM)) | (first | (refine aQl ?_) | (refine aQs ?_; clear HM; intro us HM; dsimp only [List.set] at HM) | (refine aQt ?_; clear HM HSW; intro us HM HSW; dsimp only [List.set] at HM HSW) | (refine aQv ?_; clear HM; intro us HM; dsimp only [List.set] at HM) | (refine aQb ?_) | (refine aQn ?_; first | (have q:dV HM = 0:=rfl;clear q HM;intro g1 u1 HG1 HM) | (have q:dV HM = 1:=rfl;clear q HM;intro g2 u2 HG2 HM) | (have q:dV HM = 2:=rfl;clear q HM;intro g3 u3 HG3 HM) | (have q:dV HM = 3:=rfl;clear q HM;intro g4 u4 HG4 HM) | (have q:dV HM = 4:=rfl;clear q HM;intro g5 u5 HG5 HM))))
  refine (HG.out _ (Lib.hid (hr.out.below HM.out.1))).mono ?_
  rintro e w3 ⟨rfl, hb⟩
  replace HM := Lib.hid (HM.out.below hb)
  clear hb HG
  go_wp2_with (first | (refine tQl ?_) | (refine tQs ?_; clear HM; intro us HM; dsimp only [List.set] at HM) | (refine tQt ?_; clear HM HTW; intro us HM HTW; dsimp only [List.set] at HM HTW) | (refine tQb ?_) | (refine tQn ?_; first | (have q:dV HM = 0:=rfl;clear q HM;intro g1 u1 HG1 HM) | (have q:dV HM = 1:=rfl;clear q HM;intro g2 u2 HG2 HM) | (have q:dV HM = 2:=rfl;clear q HM;intro g3 u3 HG3 HM) | (have q:dV HM = 3:=rfl;clear q HM;intro g4 u4 HG4 HM) | (have q:dV HM = 4:=rfl;clear q HM;intro g5 u5 HG5 HM)) | (first | (refine aQl ?_) | (refine aQs ?_; clear HM; intro us HM; dsimp only [List.set] at HM) | (refine aQt ?_; clear HM HSW; intro us HM HSW; dsimp only [List.set] at HM HSW) | (refine aQv ?_; clear HM; intro us HM; dsimp only [List.set] at HM) | (refine aQb ?_) | (refine aQn ?_; first | (have q:dV HM = 0:=rfl;clear q HM;intro g1 u1 HG1 HM) | (have q:dV HM = 1:=rfl;clear q HM;intro g2 u2 HG2 HM) | (have q:dV HM = 2:=rfl;clear q HM;intro g3 u3 HG3 HM) | (have q:dV HM = 3:=rfl;clear q HM;intro g4 u4 HG4 HM) | (have q:dV HM = 4:=rfl;clear q HM;intro g5 u5 HG5 HM))))
  go_ret
  exact ⟨rfl, HM.out.1⟩
 | true =>
  have HG := Lib.hid (fun u h => HGD.out u true h hg)
  obtain ⟨h40, hok⟩ := goodB_iff hg
  have hl : fs.length = n := hr.out.1
  have HOK := Lib.hid hok
  have hn4 : n ≤ 40 := by omega
  clear HGD hg h40 hl hok
  go_enter Tryz.func7, Tryz.ntmps7
  go_wp2_with (first | (refine tQl ?_) | (refine tQs ?_; clear HM; intro us HM; dsimp only [List.set] at HM) | (refine tQt ?_; clear HM HTW; intro us HM HTW; dsimp only [List.set] at HM HTW) | (refine tQb ?_) | (refine tQn ?_; first | (have q:dV HM = 0:=rfl;clear q HM;intro g1 u1 HG1 HM) | (have q:dV HM = 1:=rfl;clear q HM;intro g2 u2 HG2 HM) | (have q:dV HM = 2:=rfl;clear q HM;intro g3 u3 HG3 HM) | (have q:dV HM = 3:=rfl;clear q HM;intro g4 u4 HG4 HM) | (have q:dV HM = 4:=rfl;clear q HM;intro g5 u5 HG5 HM)) | (first | (refine aQl ?_) | (refine aQs ?_; clear HM; intro us HM; dsimp only [List.set] at HM) | (refine aQt ?_; clear HM HSW; intro us HM HSW; dsimp only [List.set] at HM HSW) | (refine aQv ?_; clear HM; intro us HM; dsimp only [List.set] at HM) | (refine aQb ?_) | (refine aQn ?_; first | (have q:dV HM = 0:=rfl;clear q HM;intro g1 u1 HG1 HM) | (have q:dV HM = 1:=rfl;clear q HM;intro g2 u2 HG2 HM) | (have q:dV HM = 2:=rfl;clear q HM;intro g3 u3 HG3 HM) | (have q:dV HM = 3:=rfl;clear q HM;intro g4 u4 HG4 HM) | (have q:dV HM = 4:=rfl;clear q HM;intro g5 u5 HG5 HM))))
  refine (elive_any _ (HE.out.below HM.out.1)).mono ?_
  rintro e w2 ⟨rfl, hb⟩
  replace HM := Lib.hid (HM.out.below hb)
  clear hb
  go_wp2_with (first | (refine tQl ?_) | (refine tQs ?_; clear HM; intro us HM; dsimp only [List.set] at HM) | (refine tQt ?_; clear HM HTW; intro us HM HTW; dsimp only [List.set] at HM HTW) | (refine tQb ?_) | (refine tQn ?_; first | (have q:dV HM = 0:=rfl;clear q HM;intro g1 u1 HG1 HM) | (have q:dV HM = 1:=rfl;clear q HM;intro g2 u2 HG2 HM) | (have q:dV HM = 2:=rfl;clear q HM;intro g3 u3 HG3 HM) | (have q:dV HM = 3:=rfl;clear q HM;intro g4 u4 HG4 HM) | (have q:dV HM = 4:=rfl;clear q HM;intro g5 u5 HG5 HM)) | (first | (refine aQl ?_) | (refine aQs ?_; clear HM; intro us HM; dsimp only [List.set] at HM) | (refine aQt ?_; clear HM HSW; intro us HM HSW; dsimp only [List.set] at HM HSW) | (refine aQv ?_; clear HM; intro us HM; dsimp only [List.set] at HM) | (refine aQb ?_) | (refine aQn ?_; first | (have q:dV HM = 0:=rfl;clear q HM;intro g1 u1 HG1 HM) | (have q:dV HM = 1:=rfl;clear q HM;intro g2 u2 HG2 HM) | (have q:dV HM = 2:=rfl;clear q HM;intro g3 u3 HG3 HM) | (have q:dV HM = 3:=rfl;clear q HM;intro g4 u4 HG4 HM) | (have q:dV HM = 4:=rfl;clear q HM;intro g5 u5 HG5 HM))))
  refine (HG.out _ (Lib.hid (hr.out.below HM.out.1))).mono ?_
  rintro e w3 ⟨rfl, hb⟩
  replace HM := Lib.hid (HM.out.below hb)
  clear hb HG
  go_wp2_with (first | (refine tQl ?_) | (refine tQs ?_; clear HM; intro us HM; dsimp only [List.set] at HM) | (refine tQt ?_; clear HM HTW; intro us HM HTW; dsimp only [List.set] at HM HTW) | (refine tQb ?_) | (refine tQn ?_; first | (have q:dV HM = 0:=rfl;clear q HM;intro g1 u1 HG1 HM) | (have q:dV HM = 1:=rfl;clear q HM;intro g2 u2 HG2 HM) | (have q:dV HM = 2:=rfl;clear q HM;intro g3 u3 HG3 HM) | (have q:dV HM = 3:=rfl;clear q HM;intro g4 u4 HG4 HM) | (have q:dV HM = 4:=rfl;clear q HM;intro g5 u5 HG5 HM)) | (first | (refine aQl ?_) | (refine aQs ?_; clear HM; intro us HM; dsimp only [List.set] at HM) | (refine aQt ?_; clear HM HSW; intro us HM HSW; dsimp only [List.set] at HM HSW) | (refine aQv ?_; clear HM; intro us HM; dsimp only [List.set] at HM) | (refine aQb ?_) | (refine aQn ?_; first | (have q:dV HM = 0:=rfl;clear q HM;intro g1 u1 HG1 HM) | (have q:dV HM = 1:=rfl;clear q HM;intro g2 u2 HG2 HM) | (have q:dV HM = 2:=rfl;clear q HM;intro g3 u3 HG3 HM) | (have q:dV HM = 3:=rfl;clear q HM;intro g4 u4 HG4 HM) | (have q:dV HM = 4:=rfl;clear q HM;intro g5 u5 HG5 HM))))
  refine (estart_any _).mono ?_
  rintro e w4 ⟨rfl, hb⟩
  replace HM := Lib.hid (HM.out.below hb)
  clear hb
  have HTW := Lib.hid tyW_one
  go_wp2_with (first | (refine tQl ?_) | (refine tQs ?_; clear HM; intro us HM; dsimp only [List.set] at HM) | (refine tQt ?_; clear HM HTW; intro us HM HTW; dsimp only [List.set] at HM HTW) | (refine tQb ?_) | (refine tQn ?_; first | (have q:dV HM = 0:=rfl;clear q HM;intro g1 u1 HG1 HM) | (have q:dV HM = 1:=rfl;clear q HM;intro g2 u2 HG2 HM) | (have q:dV HM = 2:=rfl;clear q HM;intro g3 u3 HG3 HM) | (have q:dV HM = 3:=rfl;clear q HM;intro g4 u4 HG4 HM) | (have q:dV HM = 4:=rfl;clear q HM;intro g5 u5 HG5 HM)) | (first | (refine aQl ?_) | (refine aQs ?_; clear HM; intro us HM; dsimp only [List.set] at HM) | (refine aQt ?_; clear HM HSW; intro us HM HSW; dsimp only [List.set] at HM HSW) | (refine aQv ?_; clear HM; intro us HM; dsimp only [List.set] at HM) | (refine aQb ?_) | (refine aQn ?_; first | (have q:dV HM = 0:=rfl;clear q HM;intro g1 u1 HG1 HM) | (have q:dV HM = 1:=rfl;clear q HM;intro g2 u2 HG2 HM) | (have q:dV HM = 2:=rfl;clear q HM;intro g3 u3 HG3 HM) | (have q:dV HM = 3:=rfl;clear q HM;intro g4 u4 HG4 HM) | (have q:dV HM = 4:=rfl;clear q HM;intro g5 u5 HG5 HM))))
  have HS0 := HM
  clear HM HTW HG1
  go_loopw [5, 6, 7, 27] (fun v5 v6 v7 vi wr => ∃ (k : Nat) (t : Ty) (S : Int), k ≤ n ∧ v5 = .int .i64 S ∧ v6 = .bool (decide (0 < t.sent)) ∧ v7 = .int .i64 t.hang ∧ vi = .int .i64 (k : Int) ∧ Hid (TyN k t) ∧ Hid (0 ≤ S ∧ S ≤ 100 + (k : Int) ∧ (0 < t.sent → S ≤ (t.sent - 1) % 8)) ∧ Hid (MV w w [(g1, 52, tyC t)] wr)) (fun _ _ _ vi _ => n - (intOf vi).toNat)
  case atStart => exact ⟨0, Ty.one, 100, by omega, rfl, rfl, rfl, rfl, Lib.hid tyN_one, Lib.hid ⟨by omega, by omega, fun h => absurd h (by decide)⟩, HS0⟩
  case round =>
   clear HS0
   obtain ⟨k, t, S, hk, rfl, rfl, rfl, rfl, HT, HSB, HM⟩ := hrel
   have HTW := Lib.hid HT.out.w
   by_cases hlt : k < n
   ·have k6 : (k : Int) < (n : Int) := by omega
    obtain ⟨ad, p, rfl, hp, lp, hc⟩ := (hr.out.below HM.out.1).at_ hlt
    have LP := Lib.hid lp
    have HLD := Lib.hid (run_load_any arrPcm (ad.add (k * 16)) lp hc)
    have okp := HOK.out k p hp
    have HLO := Lib.hid (fun u h => eloud_any t.p p u HT.out.w.lp lp HT.out.okp okp h)
    rw [show decide (100 ≤ ldN (measL (fwdL t.p p)) 6) = loudT t p from rfl] at HLO
    have HST := Lib.hid (fun u h => estep_any t p u (Lib.hid HT.out.w) (HT.out.ok (by omega)) lp okp h)
    have HNX := Lib.hid (HT.out.next (by omega) lp okp)
    have HTH := Lib.hid (show (nexT t p).hang = if loudT t p = true then 4 else max 0 (t.hang - 1) from rfl)
    have hsd : sndT t p = (loudT t p || decide (0 < t.hang)) := rfl
    have hsn : (nexT t p).sent = if sndT t p = true then t.sent + 1 else 0 := rfl
    have HNN := Lib.hid HT.out.sent
    have hhg := HT.out.hang
    have HB4 := Lib.hid (byT_len (t := t) (p := p) HT.out.oks)
    have hbt : byT t p = if sndT t p = true then talkB t p else restB t p := rfl
    have htk : talkB t p = wrB (kinT t p) (lvTy t p) (smallL (fwdL t.p p) (lvTy t p)) t.s.l := rfl
    have hrs : restB t p = if t.quiet % 8 = 0 then wrB 2 (lvTy t p) (zr 16) t.s.l else [] := rfl
    have hfr := fr_talk p HT.out.oks
    have hfs := fr_rest p HT.out.oks
    have hkd := kd_of hfr (lv_len t p) (small_len _ _)
    have hks := kd_of hfs (lv_len t p) (zr_length 16)
    have hkc := kin_cases t p
    have hk0 : kinT t p = 1 → ¬ t.sent % 8 = 0 := fun h => by
     unfold kinT at h
     split at h
     ·rename_i h2; exact h2.2.1
     ·cases h
    unfold EsQ at HST
    have w5' : IntKind.i64.wrap ((k : Int) + 1) = (k : Int) + 1 := i64_w (by omega) (by omega)
    have w6' : IntKind.i64.wrap (S + 1) = S + 1 := i64_w (by have := HSB.out; omega) (by have := HSB.out; omega)
    have w7' : IntKind.i64.wrap (t.hang - 1) = t.hang - 1 := i64_w (by omega) (by omega)
    have hwl := wrB_len hfr
    have hws := wrB_len hfs
    rw [← htk] at hkd hwl
    generalize nexT t p = T at HST HNX HTH hsn
    have HTW2 := Lib.hid HNX.out.w
    clear hp lp hc okp
    cases hs : sndT t p with
    | true =>
     rw [hs, if_pos rfl] at hsn hbt
     have HTS := Lib.hid hsn
     have HKD := Lib.hid (fun (A2 : Option Addr) (n2 c2 : Nat) (u : World) (h : Hid (Rd u A2 n2 (byT t p))) (hn : n2 ≤ maxLen) => fkind_any A2 n2 c2 (byT t p) u h hn)
     rw [show kdV (byT t p) = .tuple #[.int .i64 (kinT t p), .int .i64 0] by rw [hbt]; exact hkd] at HKD
     have HBL := Lib.hid (show 0 < (byT t p).length by rw [hbt]; exact hwl.2)
     generalize byT t p = bs at HST HKD HBL HB4
     rw [hs] at hsd
     rcases hkc with h0 | ⟨h1, hlv, -⟩
     ·rw [h0] at HKD
      cases hld : loudT t p with
      | true =>
       rw [hld] at HLO
       rw [hld, if_pos rfl] at HTH
       clear hs hsd hsn hbt htk hrs hfr hfs hkd hks hwl hws hk0 h0 hld
       by_cases hvo : 0 < t.sent
       ·have hv : decide (0 < t.sent) = true := decide_eq_true hvo
        go_wp2_with (first | (refine wv_loadE rfl _ _ rfl rfl HLD ?_) | (first | (refine tQl ?_) | (refine tQs ?_; clear HM; intro us HM; dsimp only [List.set] at HM) | (refine tQt ?_; clear HM HTW; intro us HM HTW; dsimp only [List.set] at HM HTW) | (refine tQb ?_) | (refine tQn ?_; first | (have q:dV HM = 0:=rfl;clear q HM;intro g1 u1 HG1 HM) | (have q:dV HM = 1:=rfl;clear q HM;intro g2 u2 HG2 HM) | (have q:dV HM = 2:=rfl;clear q HM;intro g3 u3 HG3 HM) | (have q:dV HM = 3:=rfl;clear q HM;intro g4 u4 HG4 HM) | (have q:dV HM = 4:=rfl;clear q HM;intro g5 u5 HG5 HM)) | (first | (refine aQl ?_) | (refine aQs ?_; clear HM; intro us HM; dsimp only [List.set] at HM) | (refine aQt ?_; clear HM HSW; intro us HM HSW; dsimp only [List.set] at HM HSW) | (refine aQv ?_; clear HM; intro us HM; dsimp only [List.set] at HM) | (refine aQb ?_) | (refine aQn ?_; first | (have q:dV HM = 0:=rfl;clear q HM;intro g1 u1 HG1 HM) | (have q:dV HM = 1:=rfl;clear q HM;intro g2 u2 HG2 HM) | (have q:dV HM = 2:=rfl;clear q HM;intro g3 u3 HG3 HM) | (have q:dV HM = 3:=rfl;clear q HM;intro g4 u4 HG4 HM) | (have q:dV HM = 4:=rfl;clear q HM;intro g5 u5 HG5 HM)))))
        refine (HLO.out _ (HE.out.below HM.out.1)).mono ?_
        rintro e w5 ⟨rfl, hb⟩
        replace HM := Lib.hid (HM.out.below hb)
        clear hb HLO HLD
        go_wp2_with (first | (refine tQl ?_) | (refine tQs ?_; clear HM; intro us HM; dsimp only [List.set] at HM) | (refine tQt ?_; clear HM HTW; intro us HM HTW; dsimp only [List.set] at HM HTW) | (refine tQb ?_) | (refine tQn ?_; first | (have q:dV HM = 0:=rfl;clear q HM;intro g1 u1 HG1 HM) | (have q:dV HM = 1:=rfl;clear q HM;intro g2 u2 HG2 HM) | (have q:dV HM = 2:=rfl;clear q HM;intro g3 u3 HG3 HM) | (have q:dV HM = 3:=rfl;clear q HM;intro g4 u4 HG4 HM) | (have q:dV HM = 4:=rfl;clear q HM;intro g5 u5 HG5 HM)) | (first | (refine aQl ?_) | (refine aQs ?_; clear HM; intro us HM; dsimp only [List.set] at HM) | (refine aQt ?_; clear HM HSW; intro us HM HSW; dsimp only [List.set] at HM HSW) | (refine aQv ?_; clear HM; intro us HM; dsimp only [List.set] at HM) | (refine aQb ?_) | (refine aQn ?_; first | (have q:dV HM = 0:=rfl;clear q HM;intro g1 u1 HG1 HM) | (have q:dV HM = 1:=rfl;clear q HM;intro g2 u2 HG2 HM) | (have q:dV HM = 2:=rfl;clear q HM;intro g3 u3 HG3 HM) | (have q:dV HM = 3:=rfl;clear q HM;intro g4 u4 HG4 HM) | (have q:dV HM = 4:=rfl;clear q HM;intro g5 u5 HG5 HM))))
        refine (HST.out _ (HE.out.below HM.out.1)).mono ?_
        rintro e w6 ⟨A2, n2, c2, rfl, hn2, hr2, hb⟩
        have HR := Lib.hid hr2
        have HAL := Lib.hid (rd_lt hr2)
        have HM2 := Lib.hid (HM.out.below hb)
        have HAP := Lib.hid (show Apt A2 n2 [g2, g1] from fun ad e hn g hg => by
         simp only [List.mem_cons, List.not_mem_nil, or_false] at hg
         rcases hg with rfl | rfl
         ·exact rd_noM hr2 (HM2.out.get (by exact q7m)) (icells8 _) e hn
         ·exact rd_noM hr2 (HM2.out.get (by exact q7m)) (tyC8 _) e hn)
        have hpos2 : 0 < n2 := by have := HBL.out; rw [hr2.1] at this; exact this
        have hpos : 0 < (n2 : Int) := by omega
        have HN2 := Lib.hid (show n2 ≤ maxLen by have := HB4.out; rw [hr2.1] at this; unfold maxLen; omega)
        clear hb HM HST hn2 hr2
        have HM := Lib.hid HM2.out.base
        clear HM2
        go_wp2_with (first | (refine q9g ?_; refine q8w (by rfl) ?_) | (first | (refine tQl ?_) | (refine tQs ?_; clear HM; intro us HM; dsimp only [List.set] at HM) | (refine tQt ?_; clear HM HTW; intro us HM HTW; dsimp only [List.set] at HM HTW) | (refine tQb ?_) | (refine tQn ?_; first | (have q:dV HM = 0:=rfl;clear q HM;intro g1 u1 HG1 HM) | (have q:dV HM = 1:=rfl;clear q HM;intro g2 u2 HG2 HM) | (have q:dV HM = 2:=rfl;clear q HM;intro g3 u3 HG3 HM) | (have q:dV HM = 3:=rfl;clear q HM;intro g4 u4 HG4 HM) | (have q:dV HM = 4:=rfl;clear q HM;intro g5 u5 HG5 HM)) | (first | (refine aQl ?_) | (refine aQs ?_; clear HM; intro us HM; dsimp only [List.set] at HM) | (refine aQt ?_; clear HM HSW; intro us HM HSW; dsimp only [List.set] at HM HSW) | (refine aQv ?_; clear HM; intro us HM; dsimp only [List.set] at HM) | (refine aQb ?_) | (refine aQn ?_; first | (have q:dV HM = 0:=rfl;clear q HM;intro g1 u1 HG1 HM) | (have q:dV HM = 1:=rfl;clear q HM;intro g2 u2 HG2 HM) | (have q:dV HM = 2:=rfl;clear q HM;intro g3 u3 HG3 HM) | (have q:dV HM = 3:=rfl;clear q HM;intro g4 u4 HG4 HM) | (have q:dV HM = 4:=rfl;clear q HM;intro g5 u5 HG5 HM)))))
        refine (HKD.out A2 n2 c2 _ (Lib.hid (HM.out.rdA HR.out (HAP.out.cons HAL.out HG3.out))) HN2.out).mono ?_
        rintro e w7 ⟨rfl, hb⟩
        replace HM := Lib.hid (HM.out.below hb)
        clear hb HKD
        go_wp2_with (first | (refine q9g ?_; refine q8w (by rfl) ?_) | (first | (refine tQl ?_) | (refine tQs ?_; clear HM; intro us HM; dsimp only [List.set] at HM) | (refine tQt ?_; clear HM HTW; intro us HM HTW; dsimp only [List.set] at HM HTW) | (refine tQb ?_) | (refine tQn ?_; first | (have q:dV HM = 0:=rfl;clear q HM;intro g1 u1 HG1 HM) | (have q:dV HM = 1:=rfl;clear q HM;intro g2 u2 HG2 HM) | (have q:dV HM = 2:=rfl;clear q HM;intro g3 u3 HG3 HM) | (have q:dV HM = 3:=rfl;clear q HM;intro g4 u4 HG4 HM) | (have q:dV HM = 4:=rfl;clear q HM;intro g5 u5 HG5 HM)) | (first | (refine aQl ?_) | (refine aQs ?_; clear HM; intro us HM; dsimp only [List.set] at HM) | (refine aQt ?_; clear HM HSW; intro us HM HSW; dsimp only [List.set] at HM HSW) | (refine aQv ?_; clear HM; intro us HM; dsimp only [List.set] at HM) | (refine aQb ?_) | (refine aQn ?_; first | (have q:dV HM = 0:=rfl;clear q HM;intro g1 u1 HG1 HM) | (have q:dV HM = 1:=rfl;clear q HM;intro g2 u2 HG2 HM) | (have q:dV HM = 2:=rfl;clear q HM;intro g3 u3 HG3 HM) | (have q:dV HM = 3:=rfl;clear q HM;intro g4 u4 HG4 HM) | (have q:dV HM = 4:=rfl;clear q HM;intro g5 u5 HG5 HM)))))
        go_roundw
        case rel => exact ⟨k + 1, T, 0, by omega, rfl, by rw [HTS.out, decide_eq_true (by have := HNN.out; omega)], by rw [HTH.out], by go_num, HNX, Lib.hid ⟨by omega, by omega, fun _ => by rw [HTS.out]; have := HNN.out; omega⟩, Lib.hid (HM.out.down (by exact q7v))⟩
        case measure => simp [intOf]; omega
       ·have hv : decide (0 < t.sent) = false := decide_eq_false hvo
        go_wp2_with (first | (refine wv_loadE rfl _ _ rfl rfl HLD ?_) | (first | (refine tQl ?_) | (refine tQs ?_; clear HM; intro us HM; dsimp only [List.set] at HM) | (refine tQt ?_; clear HM HTW; intro us HM HTW; dsimp only [List.set] at HM HTW) | (refine tQb ?_) | (refine tQn ?_; first | (have q:dV HM = 0:=rfl;clear q HM;intro g1 u1 HG1 HM) | (have q:dV HM = 1:=rfl;clear q HM;intro g2 u2 HG2 HM) | (have q:dV HM = 2:=rfl;clear q HM;intro g3 u3 HG3 HM) | (have q:dV HM = 3:=rfl;clear q HM;intro g4 u4 HG4 HM) | (have q:dV HM = 4:=rfl;clear q HM;intro g5 u5 HG5 HM)) | (first | (refine aQl ?_) | (refine aQs ?_; clear HM; intro us HM; dsimp only [List.set] at HM) | (refine aQt ?_; clear HM HSW; intro us HM HSW; dsimp only [List.set] at HM HSW) | (refine aQv ?_; clear HM; intro us HM; dsimp only [List.set] at HM) | (refine aQb ?_) | (refine aQn ?_; first | (have q:dV HM = 0:=rfl;clear q HM;intro g1 u1 HG1 HM) | (have q:dV HM = 1:=rfl;clear q HM;intro g2 u2 HG2 HM) | (have q:dV HM = 2:=rfl;clear q HM;intro g3 u3 HG3 HM) | (have q:dV HM = 3:=rfl;clear q HM;intro g4 u4 HG4 HM) | (have q:dV HM = 4:=rfl;clear q HM;intro g5 u5 HG5 HM)))))
        refine (HLO.out _ (HE.out.below HM.out.1)).mono ?_
        rintro e w5 ⟨rfl, hb⟩
        replace HM := Lib.hid (HM.out.below hb)
        clear hb HLO HLD
        go_wp2_with (first | (refine tQl ?_) | (refine tQs ?_; clear HM; intro us HM; dsimp only [List.set] at HM) | (refine tQt ?_; clear HM HTW; intro us HM HTW; dsimp only [List.set] at HM HTW) | (refine tQb ?_) | (refine tQn ?_; first | (have q:dV HM = 0:=rfl;clear q HM;intro g1 u1 HG1 HM) | (have q:dV HM = 1:=rfl;clear q HM;intro g2 u2 HG2 HM) | (have q:dV HM = 2:=rfl;clear q HM;intro g3 u3 HG3 HM) | (have q:dV HM = 3:=rfl;clear q HM;intro g4 u4 HG4 HM) | (have q:dV HM = 4:=rfl;clear q HM;intro g5 u5 HG5 HM)) | (first | (refine aQl ?_) | (refine aQs ?_; clear HM; intro us HM; dsimp only [List.set] at HM) | (refine aQt ?_; clear HM HSW; intro us HM HSW; dsimp only [List.set] at HM HSW) | (refine aQv ?_; clear HM; intro us HM; dsimp only [List.set] at HM) | (refine aQb ?_) | (refine aQn ?_; first | (have q:dV HM = 0:=rfl;clear q HM;intro g1 u1 HG1 HM) | (have q:dV HM = 1:=rfl;clear q HM;intro g2 u2 HG2 HM) | (have q:dV HM = 2:=rfl;clear q HM;intro g3 u3 HG3 HM) | (have q:dV HM = 3:=rfl;clear q HM;intro g4 u4 HG4 HM) | (have q:dV HM = 4:=rfl;clear q HM;intro g5 u5 HG5 HM))))
        refine (HST.out _ (HE.out.below HM.out.1)).mono ?_
        rintro e w6 ⟨A2, n2, c2, rfl, hn2, hr2, hb⟩
        have HR := Lib.hid hr2
        have HAL := Lib.hid (rd_lt hr2)
        have HM2 := Lib.hid (HM.out.below hb)
        have HAP := Lib.hid (show Apt A2 n2 [g2, g1] from fun ad e hn g hg => by
         simp only [List.mem_cons, List.not_mem_nil, or_false] at hg
         rcases hg with rfl | rfl
         ·exact rd_noM hr2 (HM2.out.get (by exact q7m)) (icells8 _) e hn
         ·exact rd_noM hr2 (HM2.out.get (by exact q7m)) (tyC8 _) e hn)
        have hpos2 : 0 < n2 := by have := HBL.out; rw [hr2.1] at this; exact this
        have hpos : 0 < (n2 : Int) := by omega
        have HN2 := Lib.hid (show n2 ≤ maxLen by have := HB4.out; rw [hr2.1] at this; unfold maxLen; omega)
        clear hb HM HST hn2 hr2
        have HM := Lib.hid HM2.out.base
        clear HM2
        go_wp2_with (first | (refine q9g ?_; refine q8w (by rfl) ?_) | (first | (refine tQl ?_) | (refine tQs ?_; clear HM; intro us HM; dsimp only [List.set] at HM) | (refine tQt ?_; clear HM HTW; intro us HM HTW; dsimp only [List.set] at HM HTW) | (refine tQb ?_) | (refine tQn ?_; first | (have q:dV HM = 0:=rfl;clear q HM;intro g1 u1 HG1 HM) | (have q:dV HM = 1:=rfl;clear q HM;intro g2 u2 HG2 HM) | (have q:dV HM = 2:=rfl;clear q HM;intro g3 u3 HG3 HM) | (have q:dV HM = 3:=rfl;clear q HM;intro g4 u4 HG4 HM) | (have q:dV HM = 4:=rfl;clear q HM;intro g5 u5 HG5 HM)) | (first | (refine aQl ?_) | (refine aQs ?_; clear HM; intro us HM; dsimp only [List.set] at HM) | (refine aQt ?_; clear HM HSW; intro us HM HSW; dsimp only [List.set] at HM HSW) | (refine aQv ?_; clear HM; intro us HM; dsimp only [List.set] at HM) | (refine aQb ?_) | (refine aQn ?_; first | (have q:dV HM = 0:=rfl;clear q HM;intro g1 u1 HG1 HM) | (have q:dV HM = 1:=rfl;clear q HM;intro g2 u2 HG2 HM) | (have q:dV HM = 2:=rfl;clear q HM;intro g3 u3 HG3 HM) | (have q:dV HM = 3:=rfl;clear q HM;intro g4 u4 HG4 HM) | (have q:dV HM = 4:=rfl;clear q HM;intro g5 u5 HG5 HM)))))
        refine (HKD.out A2 n2 c2 _ (Lib.hid (HM.out.rdA HR.out (HAP.out.cons HAL.out HG3.out))) HN2.out).mono ?_
        rintro e w7 ⟨rfl, hb⟩
        replace HM := Lib.hid (HM.out.below hb)
        clear hb HKD
        go_wp2_with (first | (refine q9g ?_; refine q8w (by rfl) ?_) | (first | (refine tQl ?_) | (refine tQs ?_; clear HM; intro us HM; dsimp only [List.set] at HM) | (refine tQt ?_; clear HM HTW; intro us HM HTW; dsimp only [List.set] at HM HTW) | (refine tQb ?_) | (refine tQn ?_; first | (have q:dV HM = 0:=rfl;clear q HM;intro g1 u1 HG1 HM) | (have q:dV HM = 1:=rfl;clear q HM;intro g2 u2 HG2 HM) | (have q:dV HM = 2:=rfl;clear q HM;intro g3 u3 HG3 HM) | (have q:dV HM = 3:=rfl;clear q HM;intro g4 u4 HG4 HM) | (have q:dV HM = 4:=rfl;clear q HM;intro g5 u5 HG5 HM)) | (first | (refine aQl ?_) | (refine aQs ?_; clear HM; intro us HM; dsimp only [List.set] at HM) | (refine aQt ?_; clear HM HSW; intro us HM HSW; dsimp only [List.set] at HM HSW) | (refine aQv ?_; clear HM; intro us HM; dsimp only [List.set] at HM) | (refine aQb ?_) | (refine aQn ?_; first | (have q:dV HM = 0:=rfl;clear q HM;intro g1 u1 HG1 HM) | (have q:dV HM = 1:=rfl;clear q HM;intro g2 u2 HG2 HM) | (have q:dV HM = 2:=rfl;clear q HM;intro g3 u3 HG3 HM) | (have q:dV HM = 3:=rfl;clear q HM;intro g4 u4 HG4 HM) | (have q:dV HM = 4:=rfl;clear q HM;intro g5 u5 HG5 HM)))))
        go_roundw
        case rel => exact ⟨k + 1, T, 0, by omega, rfl, by rw [HTS.out, decide_eq_true (by have := HNN.out; omega)], by rw [HTH.out], by go_num, HNX, Lib.hid ⟨by omega, by omega, fun _ => by rw [HTS.out]; have := HNN.out; omega⟩, Lib.hid (HM.out.down (by exact q7v))⟩
        case measure => simp [intOf]; omega
      | false =>
       rw [hld] at HLO hsd
       rw [hld, if_neg Bool.false_ne_true] at HTH
       have hgp : 0 < t.hang := of_decide_eq_true hsd.symm
       have hgd : decide (0 < t.hang) = true := decide_eq_true hgp
       clear hs hsd hsn hbt htk hrs hfr hfs hkd hks hwl hws hk0 h0 hld
       by_cases hvo : 0 < t.sent
       ·have hv : decide (0 < t.sent) = true := decide_eq_true hvo
        go_wp2_with (first | (refine wv_loadE rfl _ _ rfl rfl HLD ?_) | (first | (refine tQl ?_) | (refine tQs ?_; clear HM; intro us HM; dsimp only [List.set] at HM) | (refine tQt ?_; clear HM HTW; intro us HM HTW; dsimp only [List.set] at HM HTW) | (refine tQb ?_) | (refine tQn ?_; first | (have q:dV HM = 0:=rfl;clear q HM;intro g1 u1 HG1 HM) | (have q:dV HM = 1:=rfl;clear q HM;intro g2 u2 HG2 HM) | (have q:dV HM = 2:=rfl;clear q HM;intro g3 u3 HG3 HM) | (have q:dV HM = 3:=rfl;clear q HM;intro g4 u4 HG4 HM) | (have q:dV HM = 4:=rfl;clear q HM;intro g5 u5 HG5 HM)) | (first | (refine aQl ?_) | (refine aQs ?_; clear HM; intro us HM; dsimp only [List.set] at HM) | (refine aQt ?_; clear HM HSW; intro us HM HSW; dsimp only [List.set] at HM HSW) | (refine aQv ?_; clear HM; intro us HM; dsimp only [List.set] at HM) | (refine aQb ?_) | (refine aQn ?_; first | (have q:dV HM = 0:=rfl;clear q HM;intro g1 u1 HG1 HM) | (have q:dV HM = 1:=rfl;clear q HM;intro g2 u2 HG2 HM) | (have q:dV HM = 2:=rfl;clear q HM;intro g3 u3 HG3 HM) | (have q:dV HM = 3:=rfl;clear q HM;intro g4 u4 HG4 HM) | (have q:dV HM = 4:=rfl;clear q HM;intro g5 u5 HG5 HM)))))
        refine (HLO.out _ (HE.out.below HM.out.1)).mono ?_
        rintro e w5 ⟨rfl, hb⟩
        replace HM := Lib.hid (HM.out.below hb)
        clear hb HLO HLD
        go_wp2_with (first | (refine tQl ?_) | (refine tQs ?_; clear HM; intro us HM; dsimp only [List.set] at HM) | (refine tQt ?_; clear HM HTW; intro us HM HTW; dsimp only [List.set] at HM HTW) | (refine tQb ?_) | (refine tQn ?_; first | (have q:dV HM = 0:=rfl;clear q HM;intro g1 u1 HG1 HM) | (have q:dV HM = 1:=rfl;clear q HM;intro g2 u2 HG2 HM) | (have q:dV HM = 2:=rfl;clear q HM;intro g3 u3 HG3 HM) | (have q:dV HM = 3:=rfl;clear q HM;intro g4 u4 HG4 HM) | (have q:dV HM = 4:=rfl;clear q HM;intro g5 u5 HG5 HM)) | (first | (refine aQl ?_) | (refine aQs ?_; clear HM; intro us HM; dsimp only [List.set] at HM) | (refine aQt ?_; clear HM HSW; intro us HM HSW; dsimp only [List.set] at HM HSW) | (refine aQv ?_; clear HM; intro us HM; dsimp only [List.set] at HM) | (refine aQb ?_) | (refine aQn ?_; first | (have q:dV HM = 0:=rfl;clear q HM;intro g1 u1 HG1 HM) | (have q:dV HM = 1:=rfl;clear q HM;intro g2 u2 HG2 HM) | (have q:dV HM = 2:=rfl;clear q HM;intro g3 u3 HG3 HM) | (have q:dV HM = 3:=rfl;clear q HM;intro g4 u4 HG4 HM) | (have q:dV HM = 4:=rfl;clear q HM;intro g5 u5 HG5 HM))))
        refine (HST.out _ (HE.out.below HM.out.1)).mono ?_
        rintro e w6 ⟨A2, n2, c2, rfl, hn2, hr2, hb⟩
        have HR := Lib.hid hr2
        have HAL := Lib.hid (rd_lt hr2)
        have HM2 := Lib.hid (HM.out.below hb)
        have HAP := Lib.hid (show Apt A2 n2 [g2, g1] from fun ad e hn g hg => by
         simp only [List.mem_cons, List.not_mem_nil, or_false] at hg
         rcases hg with rfl | rfl
         ·exact rd_noM hr2 (HM2.out.get (by exact q7m)) (icells8 _) e hn
         ·exact rd_noM hr2 (HM2.out.get (by exact q7m)) (tyC8 _) e hn)
        have hpos2 : 0 < n2 := by have := HBL.out; rw [hr2.1] at this; exact this
        have hpos : 0 < (n2 : Int) := by omega
        have HN2 := Lib.hid (show n2 ≤ maxLen by have := HB4.out; rw [hr2.1] at this; unfold maxLen; omega)
        clear hb HM HST hn2 hr2
        have HM := Lib.hid HM2.out.base
        clear HM2
        go_wp2_with (first | (refine q9g ?_; refine q8w (by rfl) ?_) | (first | (refine tQl ?_) | (refine tQs ?_; clear HM; intro us HM; dsimp only [List.set] at HM) | (refine tQt ?_; clear HM HTW; intro us HM HTW; dsimp only [List.set] at HM HTW) | (refine tQb ?_) | (refine tQn ?_; first | (have q:dV HM = 0:=rfl;clear q HM;intro g1 u1 HG1 HM) | (have q:dV HM = 1:=rfl;clear q HM;intro g2 u2 HG2 HM) | (have q:dV HM = 2:=rfl;clear q HM;intro g3 u3 HG3 HM) | (have q:dV HM = 3:=rfl;clear q HM;intro g4 u4 HG4 HM) | (have q:dV HM = 4:=rfl;clear q HM;intro g5 u5 HG5 HM)) | (first | (refine aQl ?_) | (refine aQs ?_; clear HM; intro us HM; dsimp only [List.set] at HM) | (refine aQt ?_; clear HM HSW; intro us HM HSW; dsimp only [List.set] at HM HSW) | (refine aQv ?_; clear HM; intro us HM; dsimp only [List.set] at HM) | (refine aQb ?_) | (refine aQn ?_; first | (have q:dV HM = 0:=rfl;clear q HM;intro g1 u1 HG1 HM) | (have q:dV HM = 1:=rfl;clear q HM;intro g2 u2 HG2 HM) | (have q:dV HM = 2:=rfl;clear q HM;intro g3 u3 HG3 HM) | (have q:dV HM = 3:=rfl;clear q HM;intro g4 u4 HG4 HM) | (have q:dV HM = 4:=rfl;clear q HM;intro g5 u5 HG5 HM)))))
        refine (HKD.out A2 n2 c2 _ (Lib.hid (HM.out.rdA HR.out (HAP.out.cons HAL.out HG3.out))) HN2.out).mono ?_
        rintro e w7 ⟨rfl, hb⟩
        replace HM := Lib.hid (HM.out.below hb)
        clear hb HKD
        go_wp2_with (first | (refine q9g ?_; refine q8w (by rfl) ?_) | (first | (refine tQl ?_) | (refine tQs ?_; clear HM; intro us HM; dsimp only [List.set] at HM) | (refine tQt ?_; clear HM HTW; intro us HM HTW; dsimp only [List.set] at HM HTW) | (refine tQb ?_) | (refine tQn ?_; first | (have q:dV HM = 0:=rfl;clear q HM;intro g1 u1 HG1 HM) | (have q:dV HM = 1:=rfl;clear q HM;intro g2 u2 HG2 HM) | (have q:dV HM = 2:=rfl;clear q HM;intro g3 u3 HG3 HM) | (have q:dV HM = 3:=rfl;clear q HM;intro g4 u4 HG4 HM) | (have q:dV HM = 4:=rfl;clear q HM;intro g5 u5 HG5 HM)) | (first | (refine aQl ?_) | (refine aQs ?_; clear HM; intro us HM; dsimp only [List.set] at HM) | (refine aQt ?_; clear HM HSW; intro us HM HSW; dsimp only [List.set] at HM HSW) | (refine aQv ?_; clear HM; intro us HM; dsimp only [List.set] at HM) | (refine aQb ?_) | (refine aQn ?_; first | (have q:dV HM = 0:=rfl;clear q HM;intro g1 u1 HG1 HM) | (have q:dV HM = 1:=rfl;clear q HM;intro g2 u2 HG2 HM) | (have q:dV HM = 2:=rfl;clear q HM;intro g3 u3 HG3 HM) | (have q:dV HM = 3:=rfl;clear q HM;intro g4 u4 HG4 HM) | (have q:dV HM = 4:=rfl;clear q HM;intro g5 u5 HG5 HM)))))
        go_roundw
        case rel => exact ⟨k + 1, T, 0, by omega, rfl, by rw [HTS.out, decide_eq_true (by have := HNN.out; omega)], by rw [HTH.out, Int.max_comm], by go_num, HNX, Lib.hid ⟨by omega, by omega, fun _ => by rw [HTS.out]; have := HNN.out; omega⟩, Lib.hid (HM.out.down (by exact q7v))⟩
        case measure => simp [intOf]; omega
       ·have hv : decide (0 < t.sent) = false := decide_eq_false hvo
        go_wp2_with (first | (refine wv_loadE rfl _ _ rfl rfl HLD ?_) | (first | (refine tQl ?_) | (refine tQs ?_; clear HM; intro us HM; dsimp only [List.set] at HM) | (refine tQt ?_; clear HM HTW; intro us HM HTW; dsimp only [List.set] at HM HTW) | (refine tQb ?_) | (refine tQn ?_; first | (have q:dV HM = 0:=rfl;clear q HM;intro g1 u1 HG1 HM) | (have q:dV HM = 1:=rfl;clear q HM;intro g2 u2 HG2 HM) | (have q:dV HM = 2:=rfl;clear q HM;intro g3 u3 HG3 HM) | (have q:dV HM = 3:=rfl;clear q HM;intro g4 u4 HG4 HM) | (have q:dV HM = 4:=rfl;clear q HM;intro g5 u5 HG5 HM)) | (first | (refine aQl ?_) | (refine aQs ?_; clear HM; intro us HM; dsimp only [List.set] at HM) | (refine aQt ?_; clear HM HSW; intro us HM HSW; dsimp only [List.set] at HM HSW) | (refine aQv ?_; clear HM; intro us HM; dsimp only [List.set] at HM) | (refine aQb ?_) | (refine aQn ?_; first | (have q:dV HM = 0:=rfl;clear q HM;intro g1 u1 HG1 HM) | (have q:dV HM = 1:=rfl;clear q HM;intro g2 u2 HG2 HM) | (have q:dV HM = 2:=rfl;clear q HM;intro g3 u3 HG3 HM) | (have q:dV HM = 3:=rfl;clear q HM;intro g4 u4 HG4 HM) | (have q:dV HM = 4:=rfl;clear q HM;intro g5 u5 HG5 HM)))))
        refine (HLO.out _ (HE.out.below HM.out.1)).mono ?_
        rintro e w5 ⟨rfl, hb⟩
        replace HM := Lib.hid (HM.out.below hb)
        clear hb HLO HLD
        go_wp2_with (first | (refine tQl ?_) | (refine tQs ?_; clear HM; intro us HM; dsimp only [List.set] at HM) | (refine tQt ?_; clear HM HTW; intro us HM HTW; dsimp only [List.set] at HM HTW) | (refine tQb ?_) | (refine tQn ?_; first | (have q:dV HM = 0:=rfl;clear q HM;intro g1 u1 HG1 HM) | (have q:dV HM = 1:=rfl;clear q HM;intro g2 u2 HG2 HM) | (have q:dV HM = 2:=rfl;clear q HM;intro g3 u3 HG3 HM) | (have q:dV HM = 3:=rfl;clear q HM;intro g4 u4 HG4 HM) | (have q:dV HM = 4:=rfl;clear q HM;intro g5 u5 HG5 HM)) | (first | (refine aQl ?_) | (refine aQs ?_; clear HM; intro us HM; dsimp only [List.set] at HM) | (refine aQt ?_; clear HM HSW; intro us HM HSW; dsimp only [List.set] at HM HSW) | (refine aQv ?_; clear HM; intro us HM; dsimp only [List.set] at HM) | (refine aQb ?_) | (refine aQn ?_; first | (have q:dV HM = 0:=rfl;clear q HM;intro g1 u1 HG1 HM) | (have q:dV HM = 1:=rfl;clear q HM;intro g2 u2 HG2 HM) | (have q:dV HM = 2:=rfl;clear q HM;intro g3 u3 HG3 HM) | (have q:dV HM = 3:=rfl;clear q HM;intro g4 u4 HG4 HM) | (have q:dV HM = 4:=rfl;clear q HM;intro g5 u5 HG5 HM))))
        refine (HST.out _ (HE.out.below HM.out.1)).mono ?_
        rintro e w6 ⟨A2, n2, c2, rfl, hn2, hr2, hb⟩
        have HR := Lib.hid hr2
        have HAL := Lib.hid (rd_lt hr2)
        have HM2 := Lib.hid (HM.out.below hb)
        have HAP := Lib.hid (show Apt A2 n2 [g2, g1] from fun ad e hn g hg => by
         simp only [List.mem_cons, List.not_mem_nil, or_false] at hg
         rcases hg with rfl | rfl
         ·exact rd_noM hr2 (HM2.out.get (by exact q7m)) (icells8 _) e hn
         ·exact rd_noM hr2 (HM2.out.get (by exact q7m)) (tyC8 _) e hn)
        have hpos2 : 0 < n2 := by have := HBL.out; rw [hr2.1] at this; exact this
        have hpos : 0 < (n2 : Int) := by omega
        have HN2 := Lib.hid (show n2 ≤ maxLen by have := HB4.out; rw [hr2.1] at this; unfold maxLen; omega)
        clear hb HM HST hn2 hr2
        have HM := Lib.hid HM2.out.base
        clear HM2
        go_wp2_with (first | (refine q9g ?_; refine q8w (by rfl) ?_) | (first | (refine tQl ?_) | (refine tQs ?_; clear HM; intro us HM; dsimp only [List.set] at HM) | (refine tQt ?_; clear HM HTW; intro us HM HTW; dsimp only [List.set] at HM HTW) | (refine tQb ?_) | (refine tQn ?_; first | (have q:dV HM = 0:=rfl;clear q HM;intro g1 u1 HG1 HM) | (have q:dV HM = 1:=rfl;clear q HM;intro g2 u2 HG2 HM) | (have q:dV HM = 2:=rfl;clear q HM;intro g3 u3 HG3 HM) | (have q:dV HM = 3:=rfl;clear q HM;intro g4 u4 HG4 HM) | (have q:dV HM = 4:=rfl;clear q HM;intro g5 u5 HG5 HM)) | (first | (refine aQl ?_) | (refine aQs ?_; clear HM; intro us HM; dsimp only [List.set] at HM) | (refine aQt ?_; clear HM HSW; intro us HM HSW; dsimp only [List.set] at HM HSW) | (refine aQv ?_; clear HM; intro us HM; dsimp only [List.set] at HM) | (refine aQb ?_) | (refine aQn ?_; first | (have q:dV HM = 0:=rfl;clear q HM;intro g1 u1 HG1 HM) | (have q:dV HM = 1:=rfl;clear q HM;intro g2 u2 HG2 HM) | (have q:dV HM = 2:=rfl;clear q HM;intro g3 u3 HG3 HM) | (have q:dV HM = 3:=rfl;clear q HM;intro g4 u4 HG4 HM) | (have q:dV HM = 4:=rfl;clear q HM;intro g5 u5 HG5 HM)))))
        refine (HKD.out A2 n2 c2 _ (Lib.hid (HM.out.rdA HR.out (HAP.out.cons HAL.out HG3.out))) HN2.out).mono ?_
        rintro e w7 ⟨rfl, hb⟩
        replace HM := Lib.hid (HM.out.below hb)
        clear hb HKD
        go_wp2_with (first | (refine q9g ?_; refine q8w (by rfl) ?_) | (first | (refine tQl ?_) | (refine tQs ?_; clear HM; intro us HM; dsimp only [List.set] at HM) | (refine tQt ?_; clear HM HTW; intro us HM HTW; dsimp only [List.set] at HM HTW) | (refine tQb ?_) | (refine tQn ?_; first | (have q:dV HM = 0:=rfl;clear q HM;intro g1 u1 HG1 HM) | (have q:dV HM = 1:=rfl;clear q HM;intro g2 u2 HG2 HM) | (have q:dV HM = 2:=rfl;clear q HM;intro g3 u3 HG3 HM) | (have q:dV HM = 3:=rfl;clear q HM;intro g4 u4 HG4 HM) | (have q:dV HM = 4:=rfl;clear q HM;intro g5 u5 HG5 HM)) | (first | (refine aQl ?_) | (refine aQs ?_; clear HM; intro us HM; dsimp only [List.set] at HM) | (refine aQt ?_; clear HM HSW; intro us HM HSW; dsimp only [List.set] at HM HSW) | (refine aQv ?_; clear HM; intro us HM; dsimp only [List.set] at HM) | (refine aQb ?_) | (refine aQn ?_; first | (have q:dV HM = 0:=rfl;clear q HM;intro g1 u1 HG1 HM) | (have q:dV HM = 1:=rfl;clear q HM;intro g2 u2 HG2 HM) | (have q:dV HM = 2:=rfl;clear q HM;intro g3 u3 HG3 HM) | (have q:dV HM = 3:=rfl;clear q HM;intro g4 u4 HG4 HM) | (have q:dV HM = 4:=rfl;clear q HM;intro g5 u5 HG5 HM)))))
        go_roundw
        case rel => exact ⟨k + 1, T, 0, by omega, rfl, by rw [HTS.out, decide_eq_true (by have := HNN.out; omega)], by rw [HTH.out, Int.max_comm], by go_num, HNX, Lib.hid ⟨by omega, by omega, fun _ => by rw [HTS.out]; have := HNN.out; omega⟩, Lib.hid (HM.out.down (by exact q7v))⟩
        case measure => simp [intOf]; omega
     ·rw [h1] at HKD
      have hvo : 0 < t.sent := by
       have h := HT.out.live
       rw [hlv] at h
       exact of_decide_eq_true h.symm
      have hv : decide (0 < t.sent) = true := decide_eq_true hvo
      have hm8 := hk0 h1
      have HS1 := Lib.hid (show S + 1 ≤ (t.sent + 1 - 1) % 8 by have := HSB.out.2.2 hvo; omega)
      have d8 : decide (8 ≤ S + 1) = false := decide_eq_false (by have := HS1.out; omega)
      have d8' : ¬ 8 ≤ S + 1 := by have := HS1.out; omega
      cases hld : loudT t p with
      | true =>
       rw [hld] at HLO
       rw [hld, if_pos rfl] at HTH
       clear hs hsd hsn hbt htk hrs hfr hfs hkd hks hwl hws hk0 h1 hld hlv hm8
       go_wp2_with (first | (refine wv_loadE rfl _ _ rfl rfl HLD ?_) | (first | (refine tQl ?_) | (refine tQs ?_; clear HM; intro us HM; dsimp only [List.set] at HM) | (refine tQt ?_; clear HM HTW; intro us HM HTW; dsimp only [List.set] at HM HTW) | (refine tQb ?_) | (refine tQn ?_; first | (have q:dV HM = 0:=rfl;clear q HM;intro g1 u1 HG1 HM) | (have q:dV HM = 1:=rfl;clear q HM;intro g2 u2 HG2 HM) | (have q:dV HM = 2:=rfl;clear q HM;intro g3 u3 HG3 HM) | (have q:dV HM = 3:=rfl;clear q HM;intro g4 u4 HG4 HM) | (have q:dV HM = 4:=rfl;clear q HM;intro g5 u5 HG5 HM)) | (first | (refine aQl ?_) | (refine aQs ?_; clear HM; intro us HM; dsimp only [List.set] at HM) | (refine aQt ?_; clear HM HSW; intro us HM HSW; dsimp only [List.set] at HM HSW) | (refine aQv ?_; clear HM; intro us HM; dsimp only [List.set] at HM) | (refine aQb ?_) | (refine aQn ?_; first | (have q:dV HM = 0:=rfl;clear q HM;intro g1 u1 HG1 HM) | (have q:dV HM = 1:=rfl;clear q HM;intro g2 u2 HG2 HM) | (have q:dV HM = 2:=rfl;clear q HM;intro g3 u3 HG3 HM) | (have q:dV HM = 3:=rfl;clear q HM;intro g4 u4 HG4 HM) | (have q:dV HM = 4:=rfl;clear q HM;intro g5 u5 HG5 HM)))))
       refine (HLO.out _ (HE.out.below HM.out.1)).mono ?_
       rintro e w5 ⟨rfl, hb⟩
       replace HM := Lib.hid (HM.out.below hb)
       clear hb HLO HLD
       go_wp2_with (first | (refine tQl ?_) | (refine tQs ?_; clear HM; intro us HM; dsimp only [List.set] at HM) | (refine tQt ?_; clear HM HTW; intro us HM HTW; dsimp only [List.set] at HM HTW) | (refine tQb ?_) | (refine tQn ?_; first | (have q:dV HM = 0:=rfl;clear q HM;intro g1 u1 HG1 HM) | (have q:dV HM = 1:=rfl;clear q HM;intro g2 u2 HG2 HM) | (have q:dV HM = 2:=rfl;clear q HM;intro g3 u3 HG3 HM) | (have q:dV HM = 3:=rfl;clear q HM;intro g4 u4 HG4 HM) | (have q:dV HM = 4:=rfl;clear q HM;intro g5 u5 HG5 HM)) | (first | (refine aQl ?_) | (refine aQs ?_; clear HM; intro us HM; dsimp only [List.set] at HM) | (refine aQt ?_; clear HM HSW; intro us HM HSW; dsimp only [List.set] at HM HSW) | (refine aQv ?_; clear HM; intro us HM; dsimp only [List.set] at HM) | (refine aQb ?_) | (refine aQn ?_; first | (have q:dV HM = 0:=rfl;clear q HM;intro g1 u1 HG1 HM) | (have q:dV HM = 1:=rfl;clear q HM;intro g2 u2 HG2 HM) | (have q:dV HM = 2:=rfl;clear q HM;intro g3 u3 HG3 HM) | (have q:dV HM = 3:=rfl;clear q HM;intro g4 u4 HG4 HM) | (have q:dV HM = 4:=rfl;clear q HM;intro g5 u5 HG5 HM))))
       refine (HST.out _ (HE.out.below HM.out.1)).mono ?_
       rintro e w6 ⟨A2, n2, c2, rfl, hn2, hr2, hb⟩
       have HR := Lib.hid hr2
       have HAL := Lib.hid (rd_lt hr2)
       have HM2 := Lib.hid (HM.out.below hb)
       have HAP := Lib.hid (show Apt A2 n2 [g2, g1] from fun ad e hn g hg => by
        simp only [List.mem_cons, List.not_mem_nil, or_false] at hg
        rcases hg with rfl | rfl
        ·exact rd_noM hr2 (HM2.out.get (by exact q7m)) (icells8 _) e hn
        ·exact rd_noM hr2 (HM2.out.get (by exact q7m)) (tyC8 _) e hn)
       have hpos2 : 0 < n2 := by have := HBL.out; rw [hr2.1] at this; exact this
       have hpos : 0 < (n2 : Int) := by omega
       have HN2 := Lib.hid (show n2 ≤ maxLen by have := HB4.out; rw [hr2.1] at this; unfold maxLen; omega)
       clear hb HM HST hn2 hr2
       have HM := Lib.hid HM2.out.base
       clear HM2
       go_wp2_with (first | (refine q9g ?_; refine q8w (by rfl) ?_) | (first | (refine tQl ?_) | (refine tQs ?_; clear HM; intro us HM; dsimp only [List.set] at HM) | (refine tQt ?_; clear HM HTW; intro us HM HTW; dsimp only [List.set] at HM HTW) | (refine tQb ?_) | (refine tQn ?_; first | (have q:dV HM = 0:=rfl;clear q HM;intro g1 u1 HG1 HM) | (have q:dV HM = 1:=rfl;clear q HM;intro g2 u2 HG2 HM) | (have q:dV HM = 2:=rfl;clear q HM;intro g3 u3 HG3 HM) | (have q:dV HM = 3:=rfl;clear q HM;intro g4 u4 HG4 HM) | (have q:dV HM = 4:=rfl;clear q HM;intro g5 u5 HG5 HM)) | (first | (refine aQl ?_) | (refine aQs ?_; clear HM; intro us HM; dsimp only [List.set] at HM) | (refine aQt ?_; clear HM HSW; intro us HM HSW; dsimp only [List.set] at HM HSW) | (refine aQv ?_; clear HM; intro us HM; dsimp only [List.set] at HM) | (refine aQb ?_) | (refine aQn ?_; first | (have q:dV HM = 0:=rfl;clear q HM;intro g1 u1 HG1 HM) | (have q:dV HM = 1:=rfl;clear q HM;intro g2 u2 HG2 HM) | (have q:dV HM = 2:=rfl;clear q HM;intro g3 u3 HG3 HM) | (have q:dV HM = 3:=rfl;clear q HM;intro g4 u4 HG4 HM) | (have q:dV HM = 4:=rfl;clear q HM;intro g5 u5 HG5 HM)))))
       refine (HKD.out A2 n2 c2 _ (Lib.hid (HM.out.rdA HR.out (HAP.out.cons HAL.out HG3.out))) HN2.out).mono ?_
       rintro e w7 ⟨rfl, hb⟩
       replace HM := Lib.hid (HM.out.below hb)
       clear hb HKD
       go_wp2_with (first | (refine q9g ?_; refine q8w (by rfl) ?_) | (first | (refine tQl ?_) | (refine tQs ?_; clear HM; intro us HM; dsimp only [List.set] at HM) | (refine tQt ?_; clear HM HTW; intro us HM HTW; dsimp only [List.set] at HM HTW) | (refine tQb ?_) | (refine tQn ?_; first | (have q:dV HM = 0:=rfl;clear q HM;intro g1 u1 HG1 HM) | (have q:dV HM = 1:=rfl;clear q HM;intro g2 u2 HG2 HM) | (have q:dV HM = 2:=rfl;clear q HM;intro g3 u3 HG3 HM) | (have q:dV HM = 3:=rfl;clear q HM;intro g4 u4 HG4 HM) | (have q:dV HM = 4:=rfl;clear q HM;intro g5 u5 HG5 HM)) | (first | (refine aQl ?_) | (refine aQs ?_; clear HM; intro us HM; dsimp only [List.set] at HM) | (refine aQt ?_; clear HM HSW; intro us HM HSW; dsimp only [List.set] at HM HSW) | (refine aQv ?_; clear HM; intro us HM; dsimp only [List.set] at HM) | (refine aQb ?_) | (refine aQn ?_; first | (have q:dV HM = 0:=rfl;clear q HM;intro g1 u1 HG1 HM) | (have q:dV HM = 1:=rfl;clear q HM;intro g2 u2 HG2 HM) | (have q:dV HM = 2:=rfl;clear q HM;intro g3 u3 HG3 HM) | (have q:dV HM = 3:=rfl;clear q HM;intro g4 u4 HG4 HM) | (have q:dV HM = 4:=rfl;clear q HM;intro g5 u5 HG5 HM)))))
       go_roundw
       case rel => exact ⟨k + 1, T, S + 1, by omega, rfl, by rw [HTS.out, decide_eq_true (by have := HNN.out; omega)], by rw [HTH.out], by go_num, HNX, Lib.hid ⟨by have := HSB.out; omega, by have := HSB.out; omega, fun _ => by rw [HTS.out]; have := HS1.out; omega⟩, Lib.hid (HM.out.down (by exact q7v))⟩
       case measure => simp [intOf]; omega
      | false =>
       rw [hld] at HLO hsd
       rw [hld, if_neg Bool.false_ne_true] at HTH
       have hgp : 0 < t.hang := of_decide_eq_true hsd.symm
       have hgd : decide (0 < t.hang) = true := decide_eq_true hgp
       clear hs hsd hsn hbt htk hrs hfr hfs hkd hks hwl hws hk0 h1 hld hlv hm8
       go_wp2_with (first | (refine wv_loadE rfl _ _ rfl rfl HLD ?_) | (first | (refine tQl ?_) | (refine tQs ?_; clear HM; intro us HM; dsimp only [List.set] at HM) | (refine tQt ?_; clear HM HTW; intro us HM HTW; dsimp only [List.set] at HM HTW) | (refine tQb ?_) | (refine tQn ?_; first | (have q:dV HM = 0:=rfl;clear q HM;intro g1 u1 HG1 HM) | (have q:dV HM = 1:=rfl;clear q HM;intro g2 u2 HG2 HM) | (have q:dV HM = 2:=rfl;clear q HM;intro g3 u3 HG3 HM) | (have q:dV HM = 3:=rfl;clear q HM;intro g4 u4 HG4 HM) | (have q:dV HM = 4:=rfl;clear q HM;intro g5 u5 HG5 HM)) | (first | (refine aQl ?_) | (refine aQs ?_; clear HM; intro us HM; dsimp only [List.set] at HM) | (refine aQt ?_; clear HM HSW; intro us HM HSW; dsimp only [List.set] at HM HSW) | (refine aQv ?_; clear HM; intro us HM; dsimp only [List.set] at HM) | (refine aQb ?_) | (refine aQn ?_; first | (have q:dV HM = 0:=rfl;clear q HM;intro g1 u1 HG1 HM) | (have q:dV HM = 1:=rfl;clear q HM;intro g2 u2 HG2 HM) | (have q:dV HM = 2:=rfl;clear q HM;intro g3 u3 HG3 HM) | (have q:dV HM = 3:=rfl;clear q HM;intro g4 u4 HG4 HM) | (have q:dV HM = 4:=rfl;clear q HM;intro g5 u5 HG5 HM)))))
       refine (HLO.out _ (HE.out.below HM.out.1)).mono ?_
       rintro e w5 ⟨rfl, hb⟩
       replace HM := Lib.hid (HM.out.below hb)
       clear hb HLO HLD
       go_wp2_with (first | (refine tQl ?_) | (refine tQs ?_; clear HM; intro us HM; dsimp only [List.set] at HM) | (refine tQt ?_; clear HM HTW; intro us HM HTW; dsimp only [List.set] at HM HTW) | (refine tQb ?_) | (refine tQn ?_; first | (have q:dV HM = 0:=rfl;clear q HM;intro g1 u1 HG1 HM) | (have q:dV HM = 1:=rfl;clear q HM;intro g2 u2 HG2 HM) | (have q:dV HM = 2:=rfl;clear q HM;intro g3 u3 HG3 HM) | (have q:dV HM = 3:=rfl;clear q HM;intro g4 u4 HG4 HM) | (have q:dV HM = 4:=rfl;clear q HM;intro g5 u5 HG5 HM)) | (first | (refine aQl ?_) | (refine aQs ?_; clear HM; intro us HM; dsimp only [List.set] at HM) | (refine aQt ?_; clear HM HSW; intro us HM HSW; dsimp only [List.set] at HM HSW) | (refine aQv ?_; clear HM; intro us HM; dsimp only [List.set] at HM) | (refine aQb ?_) | (refine aQn ?_; first | (have q:dV HM = 0:=rfl;clear q HM;intro g1 u1 HG1 HM) | (have q:dV HM = 1:=rfl;clear q HM;intro g2 u2 HG2 HM) | (have q:dV HM = 2:=rfl;clear q HM;intro g3 u3 HG3 HM) | (have q:dV HM = 3:=rfl;clear q HM;intro g4 u4 HG4 HM) | (have q:dV HM = 4:=rfl;clear q HM;intro g5 u5 HG5 HM))))
       refine (HST.out _ (HE.out.below HM.out.1)).mono ?_
       rintro e w6 ⟨A2, n2, c2, rfl, hn2, hr2, hb⟩
       have HR := Lib.hid hr2
       have HAL := Lib.hid (rd_lt hr2)
       have HM2 := Lib.hid (HM.out.below hb)
       have HAP := Lib.hid (show Apt A2 n2 [g2, g1] from fun ad e hn g hg => by
        simp only [List.mem_cons, List.not_mem_nil, or_false] at hg
        rcases hg with rfl | rfl
        ·exact rd_noM hr2 (HM2.out.get (by exact q7m)) (icells8 _) e hn
        ·exact rd_noM hr2 (HM2.out.get (by exact q7m)) (tyC8 _) e hn)
       have hpos2 : 0 < n2 := by have := HBL.out; rw [hr2.1] at this; exact this
       have hpos : 0 < (n2 : Int) := by omega
       have HN2 := Lib.hid (show n2 ≤ maxLen by have := HB4.out; rw [hr2.1] at this; unfold maxLen; omega)
       clear hb HM HST hn2 hr2
       have HM := Lib.hid HM2.out.base
       clear HM2
       go_wp2_with (first | (refine q9g ?_; refine q8w (by rfl) ?_) | (first | (refine tQl ?_) | (refine tQs ?_; clear HM; intro us HM; dsimp only [List.set] at HM) | (refine tQt ?_; clear HM HTW; intro us HM HTW; dsimp only [List.set] at HM HTW) | (refine tQb ?_) | (refine tQn ?_; first | (have q:dV HM = 0:=rfl;clear q HM;intro g1 u1 HG1 HM) | (have q:dV HM = 1:=rfl;clear q HM;intro g2 u2 HG2 HM) | (have q:dV HM = 2:=rfl;clear q HM;intro g3 u3 HG3 HM) | (have q:dV HM = 3:=rfl;clear q HM;intro g4 u4 HG4 HM) | (have q:dV HM = 4:=rfl;clear q HM;intro g5 u5 HG5 HM)) | (first | (refine aQl ?_) | (refine aQs ?_; clear HM; intro us HM; dsimp only [List.set] at HM) | (refine aQt ?_; clear HM HSW; intro us HM HSW; dsimp only [List.set] at HM HSW) | (refine aQv ?_; clear HM; intro us HM; dsimp only [List.set] at HM) | (refine aQb ?_) | (refine aQn ?_; first | (have q:dV HM = 0:=rfl;clear q HM;intro g1 u1 HG1 HM) | (have q:dV HM = 1:=rfl;clear q HM;intro g2 u2 HG2 HM) | (have q:dV HM = 2:=rfl;clear q HM;intro g3 u3 HG3 HM) | (have q:dV HM = 3:=rfl;clear q HM;intro g4 u4 HG4 HM) | (have q:dV HM = 4:=rfl;clear q HM;intro g5 u5 HG5 HM)))))
       refine (HKD.out A2 n2 c2 _ (Lib.hid (HM.out.rdA HR.out (HAP.out.cons HAL.out HG3.out))) HN2.out).mono ?_
       rintro e w7 ⟨rfl, hb⟩
       replace HM := Lib.hid (HM.out.below hb)
       clear hb HKD
       go_wp2_with (first | (refine q9g ?_; refine q8w (by rfl) ?_) | (first | (refine tQl ?_) | (refine tQs ?_; clear HM; intro us HM; dsimp only [List.set] at HM) | (refine tQt ?_; clear HM HTW; intro us HM HTW; dsimp only [List.set] at HM HTW) | (refine tQb ?_) | (refine tQn ?_; first | (have q:dV HM = 0:=rfl;clear q HM;intro g1 u1 HG1 HM) | (have q:dV HM = 1:=rfl;clear q HM;intro g2 u2 HG2 HM) | (have q:dV HM = 2:=rfl;clear q HM;intro g3 u3 HG3 HM) | (have q:dV HM = 3:=rfl;clear q HM;intro g4 u4 HG4 HM) | (have q:dV HM = 4:=rfl;clear q HM;intro g5 u5 HG5 HM)) | (first | (refine aQl ?_) | (refine aQs ?_; clear HM; intro us HM; dsimp only [List.set] at HM) | (refine aQt ?_; clear HM HSW; intro us HM HSW; dsimp only [List.set] at HM HSW) | (refine aQv ?_; clear HM; intro us HM; dsimp only [List.set] at HM) | (refine aQb ?_) | (refine aQn ?_; first | (have q:dV HM = 0:=rfl;clear q HM;intro g1 u1 HG1 HM) | (have q:dV HM = 1:=rfl;clear q HM;intro g2 u2 HG2 HM) | (have q:dV HM = 2:=rfl;clear q HM;intro g3 u3 HG3 HM) | (have q:dV HM = 3:=rfl;clear q HM;intro g4 u4 HG4 HM) | (have q:dV HM = 4:=rfl;clear q HM;intro g5 u5 HG5 HM)))))
       go_roundw
       case rel => exact ⟨k + 1, T, S + 1, by omega, rfl, by rw [HTS.out, decide_eq_true (by have := HNN.out; omega)], by rw [HTH.out, Int.max_comm], by go_num, HNX, Lib.hid ⟨by have := HSB.out; omega, by have := HSB.out; omega, fun _ => by rw [HTS.out]; have := HS1.out; omega⟩, Lib.hid (HM.out.down (by exact q7v))⟩
       case measure => simp [intOf]; omega
    | false =>
     rw [hs, if_neg Bool.false_ne_true] at hsn hbt
     have HTS := Lib.hid hsn
     rw [hs] at hsd
     have hsd2 := (Bool.or_eq_false_iff.1 hsd.symm)
     obtain ⟨hld, hgd⟩ := hsd2
     rw [hld] at HLO
     rw [hld, if_neg Bool.false_ne_true] at HTH
     have hgn : ¬ 0 < t.hang := of_decide_eq_false hgd
     by_cases hq : t.quiet % 8 = 0
     ·rw [if_pos hq] at hrs
      rw [hrs] at hbt
      have HKD := Lib.hid (fun (A2 : Option Addr) (n2 c2 : Nat) (u : World) (h : Hid (Rd u A2 n2 (byT t p))) (hn : n2 ≤ maxLen) => fkind_any A2 n2 c2 (byT t p) u h hn)
      rw [show kdV (byT t p) = .tuple #[.int .i64 2, .int .i64 0] by rw [hbt]; exact hks] at HKD
      have HBL := Lib.hid (show 0 < (byT t p).length by rw [hbt]; exact hws.2)
      generalize byT t p = bs at HST HKD HBL HB4
      clear hs hsd hsn hbt htk hrs hfr hfs hkd hks hwl hws hk0 hkc hld hq
      go_wp2_with (first | (refine wv_loadE rfl _ _ rfl rfl HLD ?_) | (first | (refine tQl ?_) | (refine tQs ?_; clear HM; intro us HM; dsimp only [List.set] at HM) | (refine tQt ?_; clear HM HTW; intro us HM HTW; dsimp only [List.set] at HM HTW) | (refine tQb ?_) | (refine tQn ?_; first | (have q:dV HM = 0:=rfl;clear q HM;intro g1 u1 HG1 HM) | (have q:dV HM = 1:=rfl;clear q HM;intro g2 u2 HG2 HM) | (have q:dV HM = 2:=rfl;clear q HM;intro g3 u3 HG3 HM) | (have q:dV HM = 3:=rfl;clear q HM;intro g4 u4 HG4 HM) | (have q:dV HM = 4:=rfl;clear q HM;intro g5 u5 HG5 HM)) | (first | (refine aQl ?_) | (refine aQs ?_; clear HM; intro us HM; dsimp only [List.set] at HM) | (refine aQt ?_; clear HM HSW; intro us HM HSW; dsimp only [List.set] at HM HSW) | (refine aQv ?_; clear HM; intro us HM; dsimp only [List.set] at HM) | (refine aQb ?_) | (refine aQn ?_; first | (have q:dV HM = 0:=rfl;clear q HM;intro g1 u1 HG1 HM) | (have q:dV HM = 1:=rfl;clear q HM;intro g2 u2 HG2 HM) | (have q:dV HM = 2:=rfl;clear q HM;intro g3 u3 HG3 HM) | (have q:dV HM = 3:=rfl;clear q HM;intro g4 u4 HG4 HM) | (have q:dV HM = 4:=rfl;clear q HM;intro g5 u5 HG5 HM)))))
      refine (HLO.out _ (HE.out.below HM.out.1)).mono ?_
      rintro e w5 ⟨rfl, hb⟩
      replace HM := Lib.hid (HM.out.below hb)
      clear hb HLO HLD
      go_wp2_with (first | (refine tQl ?_) | (refine tQs ?_; clear HM; intro us HM; dsimp only [List.set] at HM) | (refine tQt ?_; clear HM HTW; intro us HM HTW; dsimp only [List.set] at HM HTW) | (refine tQb ?_) | (refine tQn ?_; first | (have q:dV HM = 0:=rfl;clear q HM;intro g1 u1 HG1 HM) | (have q:dV HM = 1:=rfl;clear q HM;intro g2 u2 HG2 HM) | (have q:dV HM = 2:=rfl;clear q HM;intro g3 u3 HG3 HM) | (have q:dV HM = 3:=rfl;clear q HM;intro g4 u4 HG4 HM) | (have q:dV HM = 4:=rfl;clear q HM;intro g5 u5 HG5 HM)) | (first | (refine aQl ?_) | (refine aQs ?_; clear HM; intro us HM; dsimp only [List.set] at HM) | (refine aQt ?_; clear HM HSW; intro us HM HSW; dsimp only [List.set] at HM HSW) | (refine aQv ?_; clear HM; intro us HM; dsimp only [List.set] at HM) | (refine aQb ?_) | (refine aQn ?_; first | (have q:dV HM = 0:=rfl;clear q HM;intro g1 u1 HG1 HM) | (have q:dV HM = 1:=rfl;clear q HM;intro g2 u2 HG2 HM) | (have q:dV HM = 2:=rfl;clear q HM;intro g3 u3 HG3 HM) | (have q:dV HM = 3:=rfl;clear q HM;intro g4 u4 HG4 HM) | (have q:dV HM = 4:=rfl;clear q HM;intro g5 u5 HG5 HM))))
      refine (HST.out _ (HE.out.below HM.out.1)).mono ?_
      rintro e w6 ⟨A2, n2, c2, rfl, hn2, hr2, hb⟩
      have HR := Lib.hid hr2
      have HAL := Lib.hid (rd_lt hr2)
      have HM2 := Lib.hid (HM.out.below hb)
      have HAP := Lib.hid (show Apt A2 n2 [g2, g1] from fun ad e hn g hg => by
       simp only [List.mem_cons, List.not_mem_nil, or_false] at hg
       rcases hg with rfl | rfl
       ·exact rd_noM hr2 (HM2.out.get (by exact q7m)) (icells8 _) e hn
       ·exact rd_noM hr2 (HM2.out.get (by exact q7m)) (tyC8 _) e hn)
      have hpos2 : 0 < n2 := by have := HBL.out; rw [hr2.1] at this; exact this
      have hpos : 0 < (n2 : Int) := by omega
      have HN2 := Lib.hid (show n2 ≤ maxLen by have := HB4.out; rw [hr2.1] at this; unfold maxLen; omega)
      clear hb HM HST hn2 hr2
      have HM := Lib.hid HM2.out.base
      clear HM2
      go_wp2_with (first | (refine q9g ?_; refine q8w (by rfl) ?_) | (first | (refine tQl ?_) | (refine tQs ?_; clear HM; intro us HM; dsimp only [List.set] at HM) | (refine tQt ?_; clear HM HTW; intro us HM HTW; dsimp only [List.set] at HM HTW) | (refine tQb ?_) | (refine tQn ?_; first | (have q:dV HM = 0:=rfl;clear q HM;intro g1 u1 HG1 HM) | (have q:dV HM = 1:=rfl;clear q HM;intro g2 u2 HG2 HM) | (have q:dV HM = 2:=rfl;clear q HM;intro g3 u3 HG3 HM) | (have q:dV HM = 3:=rfl;clear q HM;intro g4 u4 HG4 HM) | (have q:dV HM = 4:=rfl;clear q HM;intro g5 u5 HG5 HM)) | (first | (refine aQl ?_) | (refine aQs ?_; clear HM; intro us HM; dsimp only [List.set] at HM) | (refine aQt ?_; clear HM HSW; intro us HM HSW; dsimp only [List.set] at HM HSW) | (refine aQv ?_; clear HM; intro us HM; dsimp only [List.set] at HM) | (refine aQb ?_) | (refine aQn ?_; first | (have q:dV HM = 0:=rfl;clear q HM;intro g1 u1 HG1 HM) | (have q:dV HM = 1:=rfl;clear q HM;intro g2 u2 HG2 HM) | (have q:dV HM = 2:=rfl;clear q HM;intro g3 u3 HG3 HM) | (have q:dV HM = 3:=rfl;clear q HM;intro g4 u4 HG4 HM) | (have q:dV HM = 4:=rfl;clear q HM;intro g5 u5 HG5 HM)))))
      refine (HKD.out A2 n2 c2 _ (Lib.hid (HM.out.rdA HR.out (HAP.out.cons HAL.out HG3.out))) HN2.out).mono ?_
      rintro e w7 ⟨rfl, hb⟩
      replace HM := Lib.hid (HM.out.below hb)
      clear hb HKD
      go_wp2_with (first | (refine q9g ?_; refine q8w (by rfl) ?_) | (first | (refine tQl ?_) | (refine tQs ?_; clear HM; intro us HM; dsimp only [List.set] at HM) | (refine tQt ?_; clear HM HTW; intro us HM HTW; dsimp only [List.set] at HM HTW) | (refine tQb ?_) | (refine tQn ?_; first | (have q:dV HM = 0:=rfl;clear q HM;intro g1 u1 HG1 HM) | (have q:dV HM = 1:=rfl;clear q HM;intro g2 u2 HG2 HM) | (have q:dV HM = 2:=rfl;clear q HM;intro g3 u3 HG3 HM) | (have q:dV HM = 3:=rfl;clear q HM;intro g4 u4 HG4 HM) | (have q:dV HM = 4:=rfl;clear q HM;intro g5 u5 HG5 HM)) | (first | (refine aQl ?_) | (refine aQs ?_; clear HM; intro us HM; dsimp only [List.set] at HM) | (refine aQt ?_; clear HM HSW; intro us HM HSW; dsimp only [List.set] at HM HSW) | (refine aQv ?_; clear HM; intro us HM; dsimp only [List.set] at HM) | (refine aQb ?_) | (refine aQn ?_; first | (have q:dV HM = 0:=rfl;clear q HM;intro g1 u1 HG1 HM) | (have q:dV HM = 1:=rfl;clear q HM;intro g2 u2 HG2 HM) | (have q:dV HM = 2:=rfl;clear q HM;intro g3 u3 HG3 HM) | (have q:dV HM = 3:=rfl;clear q HM;intro g4 u4 HG4 HM) | (have q:dV HM = 4:=rfl;clear q HM;intro g5 u5 HG5 HM)))))
      go_roundw
      case rel => exact ⟨k + 1, T, S + 1, by omega, rfl, by rw [HTS.out]; rfl, by rw [HTH.out, Int.max_comm], by go_num, HNX, Lib.hid ⟨by have := HSB.out; omega, by have := HSB.out; omega, fun h => by rw [HTS.out] at h; omega⟩, Lib.hid (HM.out.down (by exact q7v))⟩
      case measure => simp [intOf]; omega
     ·rw [if_neg hq] at hrs
      rw [hrs] at hbt
      rw [hbt] at HST
      clear hs hsd hsn hbt htk hrs hfr hfs hkd hks hwl hws hk0 hkc hld hq
      go_wp2_with (first | (refine wv_loadE rfl _ _ rfl rfl HLD ?_) | (first | (refine tQl ?_) | (refine tQs ?_; clear HM; intro us HM; dsimp only [List.set] at HM) | (refine tQt ?_; clear HM HTW; intro us HM HTW; dsimp only [List.set] at HM HTW) | (refine tQb ?_) | (refine tQn ?_; first | (have q:dV HM = 0:=rfl;clear q HM;intro g1 u1 HG1 HM) | (have q:dV HM = 1:=rfl;clear q HM;intro g2 u2 HG2 HM) | (have q:dV HM = 2:=rfl;clear q HM;intro g3 u3 HG3 HM) | (have q:dV HM = 3:=rfl;clear q HM;intro g4 u4 HG4 HM) | (have q:dV HM = 4:=rfl;clear q HM;intro g5 u5 HG5 HM)) | (first | (refine aQl ?_) | (refine aQs ?_; clear HM; intro us HM; dsimp only [List.set] at HM) | (refine aQt ?_; clear HM HSW; intro us HM HSW; dsimp only [List.set] at HM HSW) | (refine aQv ?_; clear HM; intro us HM; dsimp only [List.set] at HM) | (refine aQb ?_) | (refine aQn ?_; first | (have q:dV HM = 0:=rfl;clear q HM;intro g1 u1 HG1 HM) | (have q:dV HM = 1:=rfl;clear q HM;intro g2 u2 HG2 HM) | (have q:dV HM = 2:=rfl;clear q HM;intro g3 u3 HG3 HM) | (have q:dV HM = 3:=rfl;clear q HM;intro g4 u4 HG4 HM) | (have q:dV HM = 4:=rfl;clear q HM;intro g5 u5 HG5 HM)))))
      refine (HLO.out _ (HE.out.below HM.out.1)).mono ?_
      rintro e w5 ⟨rfl, hb⟩
      replace HM := Lib.hid (HM.out.below hb)
      clear hb HLO HLD
      go_wp2_with (first | (refine tQl ?_) | (refine tQs ?_; clear HM; intro us HM; dsimp only [List.set] at HM) | (refine tQt ?_; clear HM HTW; intro us HM HTW; dsimp only [List.set] at HM HTW) | (refine tQb ?_) | (refine tQn ?_; first | (have q:dV HM = 0:=rfl;clear q HM;intro g1 u1 HG1 HM) | (have q:dV HM = 1:=rfl;clear q HM;intro g2 u2 HG2 HM) | (have q:dV HM = 2:=rfl;clear q HM;intro g3 u3 HG3 HM) | (have q:dV HM = 3:=rfl;clear q HM;intro g4 u4 HG4 HM) | (have q:dV HM = 4:=rfl;clear q HM;intro g5 u5 HG5 HM)) | (first | (refine aQl ?_) | (refine aQs ?_; clear HM; intro us HM; dsimp only [List.set] at HM) | (refine aQt ?_; clear HM HSW; intro us HM HSW; dsimp only [List.set] at HM HSW) | (refine aQv ?_; clear HM; intro us HM; dsimp only [List.set] at HM) | (refine aQb ?_) | (refine aQn ?_; first | (have q:dV HM = 0:=rfl;clear q HM;intro g1 u1 HG1 HM) | (have q:dV HM = 1:=rfl;clear q HM;intro g2 u2 HG2 HM) | (have q:dV HM = 2:=rfl;clear q HM;intro g3 u3 HG3 HM) | (have q:dV HM = 3:=rfl;clear q HM;intro g4 u4 HG4 HM) | (have q:dV HM = 4:=rfl;clear q HM;intro g5 u5 HG5 HM))))
      refine (HST.out _ (HE.out.below HM.out.1)).mono ?_
      rintro e w6 ⟨A2, n2, c2, rfl, hn2, hr2, hb⟩
      have HR := Lib.hid hr2
      have HAL := Lib.hid (rd_lt hr2)
      have HM2 := Lib.hid (HM.out.below hb)
      obtain rfl : n2 = 0 := hr2.1.symm
      clear hb HM HST hn2 hr2
      have HM := Lib.hid HM2.out.base
      clear HM2
      go_wp2_with (first | (refine q9g ?_; refine q8w (by rfl) ?_) | (first | (refine tQl ?_) | (refine tQs ?_; clear HM; intro us HM; dsimp only [List.set] at HM) | (refine tQt ?_; clear HM HTW; intro us HM HTW; dsimp only [List.set] at HM HTW) | (refine tQb ?_) | (refine tQn ?_; first | (have q:dV HM = 0:=rfl;clear q HM;intro g1 u1 HG1 HM) | (have q:dV HM = 1:=rfl;clear q HM;intro g2 u2 HG2 HM) | (have q:dV HM = 2:=rfl;clear q HM;intro g3 u3 HG3 HM) | (have q:dV HM = 3:=rfl;clear q HM;intro g4 u4 HG4 HM) | (have q:dV HM = 4:=rfl;clear q HM;intro g5 u5 HG5 HM)) | (first | (refine aQl ?_) | (refine aQs ?_; clear HM; intro us HM; dsimp only [List.set] at HM) | (refine aQt ?_; clear HM HSW; intro us HM HSW; dsimp only [List.set] at HM HSW) | (refine aQv ?_; clear HM; intro us HM; dsimp only [List.set] at HM) | (refine aQb ?_) | (refine aQn ?_; first | (have q:dV HM = 0:=rfl;clear q HM;intro g1 u1 HG1 HM) | (have q:dV HM = 1:=rfl;clear q HM;intro g2 u2 HG2 HM) | (have q:dV HM = 2:=rfl;clear q HM;intro g3 u3 HG3 HM) | (have q:dV HM = 3:=rfl;clear q HM;intro g4 u4 HG4 HM) | (have q:dV HM = 4:=rfl;clear q HM;intro g5 u5 HG5 HM)))))
      go_roundw
      case rel => exact ⟨k + 1, T, S + 1, by omega, rfl, by rw [HTS.out]; rfl, by rw [HTH.out, Int.max_comm], by go_num, HNX, Lib.hid ⟨by have := HSB.out; omega, by have := HSB.out; omega, fun h => by rw [HTS.out] at h; omega⟩, Lib.hid (HM.out.down (by exact q7v))⟩
      case measure => simp [intOf]; omega
   ·obtain rfl : k = n := by omega
    have dh : (t.hang == t.hang) = true := beq_self_eq_true _
    go_wp2_with (first | (refine tQl ?_) | (refine tQs ?_; clear HM; intro us HM; dsimp only [List.set] at HM) | (refine tQt ?_; clear HM HTW; intro us HM HTW; dsimp only [List.set] at HM HTW) | (refine tQb ?_) | (refine tQn ?_; first | (have q:dV HM = 0:=rfl;clear q HM;intro g1 u1 HG1 HM) | (have q:dV HM = 1:=rfl;clear q HM;intro g2 u2 HG2 HM) | (have q:dV HM = 2:=rfl;clear q HM;intro g3 u3 HG3 HM) | (have q:dV HM = 3:=rfl;clear q HM;intro g4 u4 HG4 HM) | (have q:dV HM = 4:=rfl;clear q HM;intro g5 u5 HG5 HM)) | (first | (refine aQl ?_) | (refine aQs ?_; clear HM; intro us HM; dsimp only [List.set] at HM) | (refine aQt ?_; clear HM HSW; intro us HM HSW; dsimp only [List.set] at HM HSW) | (refine aQv ?_; clear HM; intro us HM; dsimp only [List.set] at HM) | (refine aQb ?_) | (refine aQn ?_; first | (have q:dV HM = 0:=rfl;clear q HM;intro g1 u1 HG1 HM) | (have q:dV HM = 1:=rfl;clear q HM;intro g2 u2 HG2 HM) | (have q:dV HM = 2:=rfl;clear q HM;intro g3 u3 HG3 HM) | (have q:dV HM = 3:=rfl;clear q HM;intro g4 u4 HG4 HM) | (have q:dV HM = 4:=rfl;clear q HM;intro g5 u5 HG5 HM))))
    go_ret
    exact ⟨rfl, HM.out.1⟩
end Go.Proofs.YtkdbhndegkldcaaGreatDoor.Lp
