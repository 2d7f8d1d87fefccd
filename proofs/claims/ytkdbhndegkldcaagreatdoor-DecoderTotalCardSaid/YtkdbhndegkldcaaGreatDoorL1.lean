/-
  Own texts, laid together: MT, MN, MW, Da, Ep, Yu, Df, Dg, Dj, Dk, Do, Db, Dh, Dl, Du, Dv, Deq, Open, Dz, Dza.
-/
import Derived.Test.YtkdbhndegkldcaaGreatDoorK5
import Derived.ChangeArms
set_option maxHeartbeats 8000000
set_option linter.unusedSimpArgs false
set_option linter.unusedVariables false
set_option maxRecDepth 100000
namespace Go.Proofs.YtkdbhndegkldcaaGreatDoor.Tb
open Go.RowKit Fx
open Go.RowKit Fx Fq
end Go.Proofs.YtkdbhndegkldcaaGreatDoor.Tb
namespace Go.Proofs.YtkdbhndegkldcaaGreatDoor.Lp
open Go.RowKit Fx Fq Tb
theorem rwithin_any (v B : Int) (b : Bool) (w : World) (hb : decide (-B ≤ v ∧ v ≤ B) = b) (h1 : 0 ≤ B := by omega) (h2 : B ≤ 1099511627776 := by omega) :
  Calls Tryz.prog 56 #[.int .i64 v, .int .i64 B] w fun e w' => e = .returned (.bool b) ∧ w = w' := by
 by_cases k1 : -B ≤ v
 ·by_cases k2 : v ≤ B
  ·obtain rfl : b = true := by rw [← hb]; exact decide_eq_true ⟨k1, k2⟩
   clear hb
   go_enter Tryz.func56, Tryz.ntmps56
   go_wp2
   go_ret
   exact ⟨rfl, rfl⟩
  ·obtain rfl : b = false := by rw [← hb]; exact decide_eq_false (fun h => k2 h.2)
   clear hb
   have k3 : B < v := by omega
   go_enter Tryz.func56, Tryz.ntmps56
   go_wp2
   go_ret
   exact ⟨rfl, rfl⟩
 ·obtain rfl : b = false := by rw [← hb]; exact decide_eq_false (fun h => k1 h.1)
  clear hb
  have k3 : v < -B := by omega
  go_enter Tryz.func56, Tryz.ntmps56
  go_wp2
  go_ret
  exact ⟨rfl, rfl⟩
theorem mayT_any (x : List Int) (b : Bool) (w : World) (lx : x.length = 16) (hb : okW x = b) :
  Calls Tryz.prog 33 #[.agg (icells x)] w fun e w' => e = .returned (.bool b) ∧ Below w.heap.size w w' := by
 have LX := Lib.hid lx
 have HI := Lib.hid (inR_iff (lo := -1099511627776) (hi := 1099511627776) lx)
 rw [show inR (-1099511627776) 1099511627776 x = b from hb] at HI
 have HM := Lib.hid (Mem.start w)
 clear lx hb
 go_enter Tryz.func33, Tryz.ntmps33
 go_wp2_with (first | (refine aNw ?_; first | (have q:dL HM = 0:=rfl;clear q HM;intro g1 u1 HM) | (have q:dL HM = 1:=rfl;clear q HM;intro g2 u2 HM) | (have q:dL HM = 2:=rfl;clear q HM;intro g3 u3 HM) | (have q:dL HM = 3:=rfl;clear q HM;intro g4 u4 HM)) | (refine aLo ?_) | (refine aSt ?_; clear HM; intro us HM; dsimp only [List.set] at HM) | (refine aZe ?_))
 go_loop [6] (fun vi => ∃ k : Nat, vi = .int .i64 (k : Int) ∧ k ≤ 16 ∧ Hid (∀ j, j < k → -1099511627776 ≤ x.getD j 0 ∧ x.getD j 0 ≤ 1099511627776)) (fun vi => 16 - (intOf vi).toNat)
 case atStart => exact ⟨0, rfl, by omega, Lib.hid (fun j hj => by omega)⟩
 case round =>
  obtain ⟨k, rfl, hk, HK⟩ := hrel
  by_cases hlt : k < 16
  ·have hix := run_index 27 (n := 16) (by kernel_rfl) x LX.out k hlt
   obtain ⟨v, hv⟩ : ∃ v, x.getD k 0 = v := ⟨_, rfl⟩
   rw [hv] at hix
   have HX := Lib.hid hv
   have kn : (k : Int) < 16 := by omega
   clear hv
   by_cases h : -1099511627776 ≤ v ∧ v ≤ 1099511627776
   ·have HW := Lib.hid (fun u => rwithin_any v 1099511627776 true u (decide_eq_true h))
    go_wp2_with fail
    refine (HW.out _).mono ?_
    rintro e w2 ⟨rfl, rfl⟩
    go_wp2
    go_round
    case rel =>
     refine ⟨k + 1, by go_num, by omega, Lib.hid fun j hj => ?_⟩
     by_cases hjk : j < k
     ·exact HK.out j hjk
     ·obtain rfl : j = k := by omega
      rw [HX.out]; exact h
    case measure => simp [intOf]; omega
   ·have HW := Lib.hid (fun u => rwithin_any v 1099511627776 false u (decide_eq_false h))
    obtain rfl : b = false := by
     cases b with
     | false => rfl
     | true => have := HI.out.1 rfl k hlt; rw [HX.out] at this; exact absurd this h
    go_wp2_with fail
    refine (HW.out _).mono ?_
    rintro e w2 ⟨rfl, rfl⟩
    go_wp2
    go_ret
    exact ⟨rfl, HM.out.1⟩
  ·obtain rfl : k = 16 := by omega
   obtain rfl : b = true := HI.out.2 HK.out
   go_wp2
   go_ret
   exact ⟨rfl, HM.out.1⟩
open Go.ChangeShapes Go.WideShapes Go.ChangeAt Go.RowKit Go.Joins Go.Deep Fq
section
variable {H : Type} {enc : TypeId × Value → H} {W : World} {base : Nat} {spare : Nat → Bool} {held : Bool}
end
theorem rbcheck_any (l : List Int) (c : Bool) (z : Int) (w : World) (ll : l.length = 6) (hc : chkL l = c) (hz : (if c = true then 0 else 1) = z) :
  Calls Tryz.prog 34 #[.agg (icells l)] w (ValQ w (.int .i64 z)) := by
 have LL := Lib.hid ll
 have HI := Lib.hid (inR_iff (lo := 0) (hi := 255) ll)
 rw [show inR 0 255 l = c from hc] at HI
 have HZ := Lib.hid hz
 have HM := Lib.hid (Mem.start w)
 clear ll hc hz
 go_enter Tryz.func34, Tryz.ntmps34
 go_wp2_with (first | (refine aNw ?_; first | (have q:dL HM = 0:=rfl;clear q HM;intro g1 u1 HM) | (have q:dL HM = 1:=rfl;clear q HM;intro g2 u2 HM) | (have q:dL HM = 2:=rfl;clear q HM;intro g3 u3 HM) | (have q:dL HM = 3:=rfl;clear q HM;intro g4 u4 HM)) | (refine aLo ?_) | (refine aSt ?_; clear HM; intro us HM; dsimp only [List.set] at HM) | (refine aZe ?_))
 go_loop [6] (fun vi => ∃ k : Nat, vi = .int .i64 (k : Int) ∧ k ≤ 6 ∧ Hid (∀ j, j < k → 0 ≤ l.getD j 0 ∧ l.getD j 0 ≤ 255)) (fun vi => 6 - (intOf vi).toNat)
 case atStart => exact ⟨0, rfl, by omega, Lib.hid (fun j hj => by omega)⟩
 case round =>
  obtain ⟨k, rfl, hk, HK⟩ := hrel
  by_cases hlt : k < 6
  ·have hix := run_index 29 (n := 6) (by kernel_rfl) l LL.out k hlt
   obtain ⟨v, hv⟩ : ∃ v, l.getD k 0 = v := ⟨_, rfl⟩
   rw [hv] at hix
   have HX := Lib.hid hv
   have kn : (k : Int) < 6 := by omega
   clear hv
   by_cases h1 : 0 ≤ v
   ·by_cases h2 : v ≤ 255
    ·go_wp2
     go_round
     case rel =>
      refine ⟨k + 1, by go_num, by omega, Lib.hid fun j hj => ?_⟩
      by_cases hjk : j < k
      ·exact HK.out j hjk
      ·obtain rfl : j = k := by omega
       rw [HX.out]; exact ⟨h1, h2⟩
     case measure => simp [intOf]; omega
    ·have h3 : 255 < v := by omega
     obtain rfl : c = false := by
      cases c with
      | false => rfl
      | true => have := HI.out.1 rfl k hlt; rw [HX.out] at this; omega
     go_wp2
     go_ret
     exact ⟨ri HZ.out, HM.out.1⟩
   ·have h3 : v < 0 := by omega
    obtain rfl : c = false := by
     cases c with
     | false => rfl
     | true => have := HI.out.1 rfl k hlt; rw [HX.out] at this; omega
    go_wp2
    go_ret
    exact ⟨ri HZ.out, HM.out.1⟩
  ·obtain rfl : k = 6 := by omega
   obtain rfl : c = true := HI.out.2 HK.out
   go_wp2
   go_ret
   exact ⟨ri HZ.out, HM.out.1⟩
open Yr (rdR rd_one Fr chkB chkB_iff gsR_len rdR_gs)
def fadN (b v : Int) : Int := if 0 < v then max (v - min b 255) 0 else v
def fadL (b : Int) (l : List Int) : List Int := l.map (fadN b)
def fadeS (s : Sy) (b : Int) : Ds := if okSy s = true ∧ 1 ≤ b then .ok (hisS { s with l := fadL b s.l, live := false }) else .error 1
theorem fad_len (b : Int) (l : List Int) : (fadL b l).length = l.length := List.length_map _
theorem fad_get {b : Int} {l : List Int} (k : Nat) : (fadL b l).getD k 0 = fadN b (l.getD k 0) := by
 unfold fadL
 simp only [List.getD_eq_getElem?_getD, List.getElem?_map]
 cases l[k]? with
 | none => unfold fadN; rfl
 | some v => rfl
theorem step_err {s : Sy} {bs : List Nat} {e : Int} (hc : okSy s = true) (h : stepS s bs = .error e) : e = 21 ∨ e = 40 := by
 unfold stepS at h
 rw [if_pos hc] at h
 split at h
 ·injection h with h; exact .inl h.symm
 ·split at h
  ·injection h with h; exact .inr h.symm
  ·split at h <;> cases h
theorem fadL_chk {b : Int} (hb : 1 ≤ b) {l : List Int} (hl : l.length = 6) (h : chkL l = true) : chkL (fadL b l) = true := by
 unfold chkL at h ⊢
 refine (inR_iff ((fad_len b l).trans hl)).2 fun k hk => ?_
 have := (inR_iff hl).1 h k hk
 rw [fad_get]
 unfold fadN
 split <;> omega
theorem fade_ok {s s' : Sy} {p : List Int} {b : Int} (hs : SyW s) (h : fadeS s b = .ok (s', p)) : okSy s = true ∧ 1 ≤ b ∧ okSy s' = true ∧ okP p = true ∧ SyW s' ∧ p.length = 16 ∧ s'.live = false ∧ s'.hush = s.hush ∧ s'.l = fadL b s.l := by
 unfold fadeS at h
 by_cases hc : okSy s = true ∧ 1 ≤ b
 ·rw [if_pos hc] at h
  injection h with h
  have g := his_ok { s with l := fadL b s.l, live := false }
  rw [h] at g
  have hsd : s'.seed = seedN s.seed 16 := (congrArg (fun r : Sy × List Int => r.1.seed) h).symm
  exact ⟨hc.1, hc.2, g.may (fadL_chk hc.2 hs.ll (okSy_iff.1 hc.1).2.1) (by simp), g.okp, ⟨g.lt, by rw [g.l, fad_len]; exact hs.ll, by rw [hsd]; exact seedN_bd hs.sd 16⟩, g.lp, g.live, g.hush, g.l⟩
 ·rw [if_neg hc] at h
  cases h
open Cd (Pr Tb RdT tbs prs AllOut allErr e0 stE endBits isB_parts)
open Yr (Fr chkB chkB_iff symsP fr_bits wrB nearB)
theorem fwrite_any (F : List Int) (K : Int) (l q p : List Int) (w : World) (hF : FrS F K l q) (lp : p.length = 6) (he : Edg w) :
  Calls Tryz.prog 28 #[.agg (icells F), .agg (icells p)] w (WrOut w K l q p) := (fwriteC_any F K l q p w hF lp he).mono fun _ _ h => h.wr
open Yr (chkB chkB_iff wrB rdR rd_back rd_one wrB_len Fr)
theorem frL_zeroA : zr 23 = frL 0 (zr 6) (zr 16) := by decide
theorem frS_zero : FrS (zr 23) 0 (zr 6) (zr 16) := by rw [frL_zeroA]; exact frS_mk (zr_length 6) (zr_length 16)
theorem zero_may : chkB 0 (zr 6) (zr 16) (zr 6) = true := by decide +kernel
open Yr (rdR rd_one rd_back Fr chkB chkB_iff gsR_len rdR_gs)
theorem fadL_tab {l : List Int} {b : Int} (ll : l.length = 6) (hc : chkL l = true) (hb : 1 ≤ b) : tab 6 (fun k => max 0 (l.getD k 0 - b)) = fadL b l := by
 rw [← tab_self ((fad_len b l).trans ll)]
 refine tab_congr fun k hk => ?_
 have := (inR_iff ll).1 (show inR 0 255 l = true from hc) k hk
 rw [fad_get]
 unfold fadN
 split <;> omega
theorem lower_any (l : List Int) (b : Int) (w : World) (ll : l.length = 6) (hc : chkL l = true) (hb : 1 ≤ b) (hb2 : b ≤ 1000) :
  Calls Tryz.prog 55 #[.agg (icells l), .int .i64 b] w (ValQ w (.agg (icells (fadL b l)))) := by
 have HF := Lib.hid (fadL_tab ll hc hb)
 have LL := Lib.hid ll
 have HI := Lib.hid ((inR_iff ll).1 (show inR 0 255 l = true from hc))
 have HM := Lib.hid (Mem.start w)
 clear ll hc
 go_enter Tryz.func55, Tryz.ntmps55
 go_wp2_with (first | (refine aNw ?_; first | (have q:dL HM = 0:=rfl;clear q HM;intro g1 u1 HM) | (have q:dL HM = 1:=rfl;clear q HM;intro g2 u2 HM) | (have q:dL HM = 2:=rfl;clear q HM;intro g3 u3 HM) | (have q:dL HM = 3:=rfl;clear q HM;intro g4 u4 HM)) | (refine aLo ?_) | (refine aSt ?_; clear HM; intro us HM; dsimp only [List.set] at HM) | (refine aZe ?_))
 go_loopw [5, 6, 8] (fun _ _ vi wr => ∃ k : Nat, k ≤ 6 ∧ vi = .int .i64 (k : Int) ∧ Hid (Mem w [(g2, 29, zr 6), (g1, 29, tab 6 (part2 k (fun j => max 0 (l.getD j 0 - b)) (fun j => l.getD j 0)))] wr)) (fun _ _ vi _ => 6 - (intOf vi).toNat)
 case atStart => exact ⟨0, by omega, rfl, Lib.hid (by rw [part2_none, tab_self LL.out]; exact HM.out)⟩
 case round =>
  clear HM
  obtain ⟨k, hk, rfl, HM⟩ := hrel
  by_cases hlt : k < 6
  ·have k6 : (k : Int) < 6 := by omega
   have hix := run_index 29 (n := 6) (by kernel_rfl) l LL.out k hlt
   have S1 := Lib.hid (part2_set (n := 6) (k := k) (fun j => max 0 (l.getD j 0 - b)) (fun j => l.getD j 0))
   have c3 := HM.out.cell (.tail _ (.head _)) (k := k) (by rw [tab_length]; omega)
   have f3 := HM.out.free (.tail _ (.head _)) k
   have hv := HI.out k hlt
   generalize List.getD (tab 6 _) k 0 = o at c3
   generalize l.getD k 0 = v at hix S1 hv
   have w1 : IntKind.i64.wrap (v - b) = v - b := i64_w (by omega) (by omega)
   go_wp2
   have HM3 := Lib.hid (HM.out.put 1 rfl k (max 0 (v - b)))
   simp only [List.set_cons_zero, List.set_cons_succ] at HM3
   rw [S1.out] at HM3
   clear HM c3 f3
   go_roundw
   case rel => exact ⟨k + 1, by omega, by go_num, HM3⟩
   case measure => simp [intOf]; omega
  ·obtain rfl : k = 6 := by omega
   rw [part2_all, HF.out] at HM
   have LO := Lib.hid (show (fadL b l).length = 6 from (fad_len b l).trans LL.out)
   go_wp2_with (first | (refine aNw ?_; first | (have q:dL HM = 0:=rfl;clear q HM;intro g1 u1 HM) | (have q:dL HM = 1:=rfl;clear q HM;intro g2 u2 HM) | (have q:dL HM = 2:=rfl;clear q HM;intro g3 u3 HM) | (have q:dL HM = 3:=rfl;clear q HM;intro g4 u4 HM)) | (refine aLo ?_) | (refine aSt ?_; clear HM; intro us HM; dsimp only [List.set] at HM) | (refine aZe ?_))
   refine bodyPost_ret (v := .agg (icells (fadL b l))) (res_one rfl _ rfl arrLev HM (by exact q7e) LO) rfl ⟨rfl, HM.out.1⟩
theorem mfade_any {w0 w1 w : World} {m : Nat} (s : Sy) (b : Int) (hm : Hid (MV w0 w1 [(m, 70, syC s)] w)) (hs : Hid (SyW s)) (hk : okSy s = true) (hb : 1 ≤ b) (hb2 : b ≤ 1000) (he : Hid (Edg w0)) :
  Calls Tryz.prog 31 #[.pointer (some ⟨m, 0, none⟩), .int .i64 b] w (SdQ w0 w1 m (fadeS s b)) := by
 have HM := hm
 have HSW := hs
 have HE := he
 obtain ⟨k1, k2, k3⟩ := okSy_iff.1 hk
 rw [show fadeS s b = .ok (hisS { s with l := fadL b s.l, live := false }) by unfold fadeS; rw [if_pos ⟨hk, hb⟩]]
 have HLO := Lib.hid (fun u => lower_any s.l b u hs.out.ll k2 hb hb2)
 have HNO := Lib.hid (fun (a c : World) (h : Hid (MV w0 a [(m, 70, syC s)] c)) => mnoise_any s (fadL b s.l) h hs ((fad_len b s.l).trans hs.out.ll) (fadL_chk hb hs.out.ll k2) k1 he)
 have d1 : ¬ b < 1 := by omega
 generalize hisS { s with l := fadL b s.l, live := false } = r at HNO ⊢
 generalize fadL b s.l = l at HNO HLO
 obtain ⟨s3, p⟩ := r
 unfold SdQ at HNO ⊢
 dsimp only at HNO ⊢
 clear hm hs hk he k1 k2 k3 hb hb2
 go_enter Tryz.func31, Tryz.ntmps31
 go_wp2_with (first | (refine aQl ?_) | (refine aQs ?_; clear HM; intro us HM; dsimp only [List.set] at HM) | (refine aQt ?_; clear HM HSW; intro us HM HSW; dsimp only [List.set] at HM HSW) | (refine aQv ?_; clear HM; intro us HM; dsimp only [List.set] at HM) | (refine aQb ?_) | (refine aQn ?_; first | (have q:dV HM = 0:=rfl;clear q HM;intro g1 u1 HG1 HM) | (have q:dV HM = 1:=rfl;clear q HM;intro g2 u2 HG2 HM) | (have q:dV HM = 2:=rfl;clear q HM;intro g3 u3 HG3 HM) | (have q:dV HM = 3:=rfl;clear q HM;intro g4 u4 HG4 HM)))
 refine (HLO.out _).mono ?_
 rintro e w3 ⟨rfl, hb⟩
 replace HM := Lib.hid (HM.out.below hb)
 clear hb HLO
 go_wp2_with (first | (refine aQl ?_) | (refine aQs ?_; clear HM; intro us HM; dsimp only [List.set] at HM) | (refine aQt ?_; clear HM HSW; intro us HM HSW; dsimp only [List.set] at HM HSW) | (refine aQv ?_; clear HM; intro us HM; dsimp only [List.set] at HM) | (refine aQb ?_) | (refine aQn ?_; first | (have q:dV HM = 0:=rfl;clear q HM;intro g1 u1 HG1 HM) | (have q:dV HM = 1:=rfl;clear q HM;intro g2 u2 HG2 HM) | (have q:dV HM = 2:=rfl;clear q HM;intro g3 u3 HG3 HM) | (have q:dV HM = 3:=rfl;clear q HM;intro g4 u4 HG4 HM)))
 refine (HNO.out _ _ (Lib.hid (HM.out.sub (by exact q7v)))).mono ?_
 rintro e w4 ⟨rfl, hw, hp, hm⟩
 have HSW3 := Lib.hid hw
 have LP := Lib.hid hp
 have HM2 := Lib.hid (HM.out.after (by exact q7i) hm)
 clear hw hp hm HM HNO HSW
 have HM := HM2
 clear HM2
 dsimp only [List.set] at HM
 go_wp2_with (first | (refine aQl ?_) | (refine aQs ?_; clear HM; intro us HM; dsimp only [List.set] at HM) | (refine aQt ?_; clear HM HSW; intro us HM HSW; dsimp only [List.set] at HM HSW) | (refine aQv ?_; clear HM; intro us HM; dsimp only [List.set] at HM) | (refine aQb ?_) | (refine aQn ?_; first | (have q:dV HM = 0:=rfl;clear q HM;intro g1 u1 HG1 HM) | (have q:dV HM = 1:=rfl;clear q HM;intro g2 u2 HG2 HM) | (have q:dV HM = 2:=rfl;clear q HM;intro g3 u3 HG3 HM) | (have q:dV HM = 3:=rfl;clear q HM;intro g4 u4 HG4 HM)))
 refine bodyPost_ret (v := .tuple #[.agg (icells p), .int .i64 0]) (vres_two rfl _ rfl rfl (by exact q7r) HM (by exact q7m) (by exact q7s)) rfl ⟨rfl, HSW3.out, LP.out, (by have HP := HM.out; (repeat (replace HP := HP.popH (by with_reducible assumption))); exact HP)⟩
theorem okW_zr32 : okW (zr 32) = true := by decide +kernel
theorem lapV_no {t v : List Int} (h : okW t = false) : lapV t v = .tuple #[.agg (icells (zr 16)), .agg (icells (zr 16)), .int .i64 1] := by
 unfold lapV
 rw [if_neg (by rw [h]; exact fun e => Bool.false_ne_true e.1)]
theorem pcheck_any (s : Sy) (z : Int) (w : World) (hs : Hid (SyW s)) (hz : (if okSy s = true then 0 else 1) = z) :
  Calls Tryz.prog 37 #[.agg (syC s)] w (ValQ w (.int .i64 z)) := by
 have HM := Lib.hid (MV.start w)
 have HSW := hs
 have HLP := Lib.hid (fun u => lap_any s.t (zr 32) u hs.out.lt (zr_length 32))
 have HB := Lib.hid (fun c z hc hz u => bcheck_any s.l c z u hs.out.ll hc hz)
 have LZ := Lib.hid (zr_length 16)
 have LZ2 := Lib.hid (zr_length 32)
 unfold okSy at hz
 clear hs
 cases h1 : okW s.t with
 | false =>
  rw [h1] at hz
  obtain rfl : z = 1 := by rw [← hz]; rfl
  rw [lapV_no h1] at HLP
  clear hz h1
  go_enter Tryz.func37, Tryz.ntmps37
  go_wp2_with (first | (refine aQl ?_) | (refine aQs ?_; clear HM; intro us HM; dsimp only [List.set] at HM) | (refine aQt ?_; clear HM HSW; intro us HM HSW; dsimp only [List.set] at HM HSW) | (refine aQv ?_; clear HM; intro us HM; dsimp only [List.set] at HM) | (refine aQb ?_) | (refine aQn ?_; first | (have q:dV HM = 0:=rfl;clear q HM;intro g1 u1 HG1 HM) | (have q:dV HM = 1:=rfl;clear q HM;intro g2 u2 HG2 HM) | (have q:dV HM = 2:=rfl;clear q HM;intro g3 u3 HG3 HM) | (have q:dV HM = 3:=rfl;clear q HM;intro g4 u4 HG4 HM)))
  refine (HLP.out _).mono ?_
  rintro e w3 ⟨rfl, hb⟩
  replace HM := Lib.hid (HM.out.below hb)
  clear hb HLP
  go_wp2_with (first | (refine q8w (by rfl) ?_) | (first | (refine aQl ?_) | (refine aQs ?_; clear HM; intro us HM; dsimp only [List.set] at HM) | (refine aQt ?_; clear HM HSW; intro us HM HSW; dsimp only [List.set] at HM HSW) | (refine aQv ?_; clear HM; intro us HM; dsimp only [List.set] at HM) | (refine aQb ?_) | (refine aQn ?_; first | (have q:dV HM = 0:=rfl;clear q HM;intro g1 u1 HG1 HM) | (have q:dV HM = 1:=rfl;clear q HM;intro g2 u2 HG2 HM) | (have q:dV HM = 2:=rfl;clear q HM;intro g3 u3 HG3 HM) | (have q:dV HM = 3:=rfl;clear q HM;intro g4 u4 HG4 HM))))
  go_ret
  exact ⟨rfl, HM.out.1⟩
 | true =>
  rw [h1] at hz
  rw [lapV_ok h1 okW_zr32] at HLP
  have LP := Lib.hid (show (lapL s.t (zr 32)).length = 16 from tab_length 16 _)
  have LT := Lib.hid (show (leftL (zr 32)).length = 16 from tab_length 16 _)
  generalize lapL s.t (zr 32) = p at HLP LP
  generalize leftL (zr 32) = t at HLP LT
  clear h1
  cases h2 : chkL s.l with
  | false =>
   rw [h2] at hz
   obtain rfl : z = 1 := by rw [← hz]; rfl
   have HC := Lib.hid (HB.out false 1 h2 rfl)
   clear hz h2 HB
   go_enter Tryz.func37, Tryz.ntmps37
   go_wp2_with (first | (refine aQl ?_) | (refine aQs ?_; clear HM; intro us HM; dsimp only [List.set] at HM) | (refine aQt ?_; clear HM HSW; intro us HM HSW; dsimp only [List.set] at HM HSW) | (refine aQv ?_; clear HM; intro us HM; dsimp only [List.set] at HM) | (refine aQb ?_) | (refine aQn ?_; first | (have q:dV HM = 0:=rfl;clear q HM;intro g1 u1 HG1 HM) | (have q:dV HM = 1:=rfl;clear q HM;intro g2 u2 HG2 HM) | (have q:dV HM = 2:=rfl;clear q HM;intro g3 u3 HG3 HM) | (have q:dV HM = 3:=rfl;clear q HM;intro g4 u4 HG4 HM)))
   refine (HLP.out _).mono ?_
   rintro e w3 ⟨rfl, hb⟩
   replace HM := Lib.hid (HM.out.below hb)
   clear hb HLP
   go_wp2_with (first | (refine q8w (by rfl) ?_) | (first | (refine aQl ?_) | (refine aQs ?_; clear HM; intro us HM; dsimp only [List.set] at HM) | (refine aQt ?_; clear HM HSW; intro us HM HSW; dsimp only [List.set] at HM HSW) | (refine aQv ?_; clear HM; intro us HM; dsimp only [List.set] at HM) | (refine aQb ?_) | (refine aQn ?_; first | (have q:dV HM = 0:=rfl;clear q HM;intro g1 u1 HG1 HM) | (have q:dV HM = 1:=rfl;clear q HM;intro g2 u2 HG2 HM) | (have q:dV HM = 2:=rfl;clear q HM;intro g3 u3 HG3 HM) | (have q:dV HM = 3:=rfl;clear q HM;intro g4 u4 HG4 HM))))
   refine (HC.out _).mono ?_
   rintro e w3 ⟨rfl, hb⟩
   replace HM := Lib.hid (HM.out.below hb)
   clear hb HC
   go_wp2_with (first | (refine q8w (by rfl) ?_) | (first | (refine aQl ?_) | (refine aQs ?_; clear HM; intro us HM; dsimp only [List.set] at HM) | (refine aQt ?_; clear HM HSW; intro us HM HSW; dsimp only [List.set] at HM HSW) | (refine aQv ?_; clear HM; intro us HM; dsimp only [List.set] at HM) | (refine aQb ?_) | (refine aQn ?_; first | (have q:dV HM = 0:=rfl;clear q HM;intro g1 u1 HG1 HM) | (have q:dV HM = 1:=rfl;clear q HM;intro g2 u2 HG2 HM) | (have q:dV HM = 2:=rfl;clear q HM;intro g3 u3 HG3 HM) | (have q:dV HM = 3:=rfl;clear q HM;intro g4 u4 HG4 HM))))
   go_ret
   exact ⟨rfl, HM.out.1⟩
  | true =>
   rw [h2] at hz
   have HC := Lib.hid (HB.out true 0 h2 rfl)
   clear h2 HB
   cases h3 : s.live with
   | false =>
    rw [h3] at hz
    obtain rfl : z = 0 := by rw [← hz]; rfl
    have HLV := Lib.hid h3
    clear hz h3
    go_enter Tryz.func37, Tryz.ntmps37
    go_wp2_with (first | (refine aQl ?_) | (refine aQs ?_; clear HM; intro us HM; dsimp only [List.set] at HM) | (refine aQt ?_; clear HM HSW; intro us HM HSW; dsimp only [List.set] at HM HSW) | (refine aQv ?_; clear HM; intro us HM; dsimp only [List.set] at HM) | (refine aQb ?_) | (refine aQn ?_; first | (have q:dV HM = 0:=rfl;clear q HM;intro g1 u1 HG1 HM) | (have q:dV HM = 1:=rfl;clear q HM;intro g2 u2 HG2 HM) | (have q:dV HM = 2:=rfl;clear q HM;intro g3 u3 HG3 HM) | (have q:dV HM = 3:=rfl;clear q HM;intro g4 u4 HG4 HM)))
    refine (HLP.out _).mono ?_
    rintro e w3 ⟨rfl, hb⟩
    replace HM := Lib.hid (HM.out.below hb)
    clear hb HLP
    go_wp2_with (first | (refine q8w (by rfl) ?_) | (first | (refine aQl ?_) | (refine aQs ?_; clear HM; intro us HM; dsimp only [List.set] at HM) | (refine aQt ?_; clear HM HSW; intro us HM HSW; dsimp only [List.set] at HM HSW) | (refine aQv ?_; clear HM; intro us HM; dsimp only [List.set] at HM) | (refine aQb ?_) | (refine aQn ?_; first | (have q:dV HM = 0:=rfl;clear q HM;intro g1 u1 HG1 HM) | (have q:dV HM = 1:=rfl;clear q HM;intro g2 u2 HG2 HM) | (have q:dV HM = 2:=rfl;clear q HM;intro g3 u3 HG3 HM) | (have q:dV HM = 3:=rfl;clear q HM;intro g4 u4 HG4 HM))))
    refine (HC.out _).mono ?_
    rintro e w3 ⟨rfl, hb⟩
    replace HM := Lib.hid (HM.out.below hb)
    clear hb HC
    go_wp2_with (first | (refine q8w (by rfl) ?_) | (first | (refine aQl ?_) | (refine aQs ?_; clear HM; intro us HM; dsimp only [List.set] at HM) | (refine aQt ?_; clear HM HSW; intro us HM HSW; dsimp only [List.set] at HM HSW) | (refine aQv ?_; clear HM; intro us HM; dsimp only [List.set] at HM) | (refine aQb ?_) | (refine aQn ?_; first | (have q:dV HM = 0:=rfl;clear q HM;intro g1 u1 HG1 HM) | (have q:dV HM = 1:=rfl;clear q HM;intro g2 u2 HG2 HM) | (have q:dV HM = 2:=rfl;clear q HM;intro g3 u3 HG3 HM) | (have q:dV HM = 3:=rfl;clear q HM;intro g4 u4 HG4 HM))))
    go_ret
    exact ⟨rfl, HM.out.1⟩
   | true =>
    rw [h3] at hz
    have HLV := Lib.hid h3
    obtain ⟨v, hv⟩ : ∃ v, s.hush = v := ⟨_, rfl⟩
    rw [hv] at hz
    have HHU := Lib.hid hv
    clear h3 hv
    cases v
    all_goals
     first
      | (have ez : z = 0 := hz.symm; subst ez)
      | (have ez : z = 1 := hz.symm; subst ez)
     clear hz
     go_enter Tryz.func37, Tryz.ntmps37
     go_wp2_with (first | (refine aQl ?_) | (refine aQs ?_; clear HM; intro us HM; dsimp only [List.set] at HM) | (refine aQt ?_; clear HM HSW; intro us HM HSW; dsimp only [List.set] at HM HSW) | (refine aQv ?_; clear HM; intro us HM; dsimp only [List.set] at HM) | (refine aQb ?_) | (refine aQn ?_; first | (have q:dV HM = 0:=rfl;clear q HM;intro g1 u1 HG1 HM) | (have q:dV HM = 1:=rfl;clear q HM;intro g2 u2 HG2 HM) | (have q:dV HM = 2:=rfl;clear q HM;intro g3 u3 HG3 HM) | (have q:dV HM = 3:=rfl;clear q HM;intro g4 u4 HG4 HM)))
     refine (HLP.out _).mono ?_
     rintro e w3 ⟨rfl, hb⟩
     replace HM := Lib.hid (HM.out.below hb)
     clear hb HLP
     go_wp2_with (first | (refine q8w (by rfl) ?_) | (first | (refine aQl ?_) | (refine aQs ?_; clear HM; intro us HM; dsimp only [List.set] at HM) | (refine aQt ?_; clear HM HSW; intro us HM HSW; dsimp only [List.set] at HM HSW) | (refine aQv ?_; clear HM; intro us HM; dsimp only [List.set] at HM) | (refine aQb ?_) | (refine aQn ?_; first | (have q:dV HM = 0:=rfl;clear q HM;intro g1 u1 HG1 HM) | (have q:dV HM = 1:=rfl;clear q HM;intro g2 u2 HG2 HM) | (have q:dV HM = 2:=rfl;clear q HM;intro g3 u3 HG3 HM) | (have q:dV HM = 3:=rfl;clear q HM;intro g4 u4 HG4 HM))))
     refine (HC.out _).mono ?_
     rintro e w3 ⟨rfl, hb⟩
     replace HM := Lib.hid (HM.out.below hb)
     clear hb HC
     go_wp2_with (first | (refine q8w (by rfl) ?_) | (first | (refine aQl ?_) | (refine aQs ?_; clear HM; intro us HM; dsimp only [List.set] at HM) | (refine aQt ?_; clear HM HSW; intro us HM HSW; dsimp only [List.set] at HM HSW) | (refine aQv ?_; clear HM; intro us HM; dsimp only [List.set] at HM) | (refine aQb ?_) | (refine aQn ?_; first | (have q:dV HM = 0:=rfl;clear q HM;intro g1 u1 HG1 HM) | (have q:dV HM = 1:=rfl;clear q HM;intro g2 u2 HG2 HM) | (have q:dV HM = 2:=rfl;clear q HM;intro g3 u3 HG3 HM) | (have q:dV HM = 3:=rfl;clear q HM;intro g4 u4 HG4 HM))))
     go_ret
     exact ⟨rfl, HM.out.1⟩
def dsV (d : Ds) : Value := match d with
 | .ok (s, p) => .tuple #[.agg (syC s), .agg (icells p), .int .i64 0]
 | .error z => .tuple #[.agg (syC Sy.z), .agg (icells (zr 16)), .int .i64 z]
theorem pstart_any (w : World) : Calls Tryz.prog 11 #[] w (ValQ w (.agg (syC Sy.one))) := by
 have HM := Lib.hid (MV.start w)
 go_enter Tryz.func11, Tryz.ntmps11
 go_wp2_with (first | (refine aQl ?_) | (refine aQs ?_; clear HM; intro us HM; dsimp only [List.set] at HM) | (refine aQt ?_; clear HM HSW; intro us HM HSW; dsimp only [List.set] at HM HSW) | (refine aQv ?_; clear HM; intro us HM; dsimp only [List.set] at HM) | (refine aQb ?_) | (refine aQn ?_; first | (have q:dV HM = 0:=rfl;clear q HM;intro g1 u1 HG1 HM) | (have q:dV HM = 1:=rfl;clear q HM;intro g2 u2 HG2 HM) | (have q:dV HM = 2:=rfl;clear q HM;intro g3 u3 HG3 HM) | (have q:dV HM = 3:=rfl;clear q HM;intro g4 u4 HG4 HM)))
 refine bodyPost_ret (v := .agg (syC Sy.one)) (vres_cs rfl _ rfl rowSyn HM (by exact q7m) (by exact q7z)) rfl ⟨rfl, HM.out.1⟩
def SayQ (w0 w : World) (m : Nat) (d : Ds) (e : Ending) (u : World) : Prop := e = .returned (dsV d) ∧ (∃ cs, MV w0 w [(m, 70, cs)] u) ∧ match d with
 | .ok (s, p) => SyW s ∧ p.length = 16
 | .error z => (z == 0) = false
theorem say_any {w0 w : World} {m : Nat} (s : Sy) (d : Ds) (g : Nat) (fs lb : Array Value) (eg : ∀ (args : Array Value) (u : World), (callFunc g args).run Tryz.prog u = .ok (.enter g args) u) (hm : Hid (MV w0 w [(m, 70, syC s)] w)) (hs : Hid (SyW s)) (hd : okSy s = false → d = .error 1)
  (hT : Hid (okSy s = true → ∀ u, MV w0 w [(m, 70, syC s)] u → Calls Tryz.prog g (fs ++ lb) u (SdQ w0 u m d))) :
  Calls Tryz.prog 29 #[.pointer (some ⟨m, 0, none⟩), .func (.func g) fs lb] w (SayQ w0 w m d) := by
 have HM := hm
 have HSW := hs
 have LZ := Lib.hid (zr_length 16)
 unfold SayQ
 cases hk : okSy s with
 | false =>
  have HCK := Lib.hid (fun u => pcheck_any s 1 u hs (by rw [hk]; rfl))
  obtain rfl := hd hk
  clear hd hk hT hm hs
  go_enter Tryz.func29, Tryz.ntmps29
  go_wp2_with (first | (refine aQl ?_) | (refine aQs ?_; clear HM; intro us HM; dsimp only [List.set] at HM) | (refine aQt ?_; clear HM HSW; intro us HM HSW; dsimp only [List.set] at HM HSW) | (refine aQv ?_; clear HM; intro us HM; dsimp only [List.set] at HM) | (refine aQb ?_) | (refine aQn ?_; first | (have q:dV HM = 0:=rfl;clear q HM;intro g1 u1 HG1 HM) | (have q:dV HM = 1:=rfl;clear q HM;intro g2 u2 HG2 HM) | (have q:dV HM = 2:=rfl;clear q HM;intro g3 u3 HG3 HM) | (have q:dV HM = 3:=rfl;clear q HM;intro g4 u4 HG4 HM) | (have q:dV HM = 4:=rfl;clear q HM;intro g5 u5 HG5 HM)))
  refine (HCK.out _).mono ?_
  rintro e w3 ⟨rfl, hb⟩
  replace HM := Lib.hid (HM.out.below hb)
  clear hb HCK
  go_wp2_with (first | (refine aQl ?_) | (refine aQs ?_; clear HM; intro us HM; dsimp only [List.set] at HM) | (refine aQt ?_; clear HM HSW; intro us HM HSW; dsimp only [List.set] at HM HSW) | (refine aQv ?_; clear HM; intro us HM; dsimp only [List.set] at HM) | (refine aQb ?_) | (refine aQn ?_; first | (have q:dV HM = 0:=rfl;clear q HM;intro g1 u1 HG1 HM) | (have q:dV HM = 1:=rfl;clear q HM;intro g2 u2 HG2 HM) | (have q:dV HM = 2:=rfl;clear q HM;intro g3 u3 HG3 HM) | (have q:dV HM = 3:=rfl;clear q HM;intro g4 u4 HG4 HM) | (have q:dV HM = 4:=rfl;clear q HM;intro g5 u5 HG5 HM)))
  refine bodyPost_ret (v := .tuple #[.agg (syC Sy.z), .agg (icells (zr 16)), .int .i64 1]) (vres_css rfl _ rfl rfl rfl rowSyn (by exact q7r) HM (by exact q7m) (by exact q7m) (by exact q7z) (by exact q7s)) rfl ⟨rfl, ⟨_, (by have HP := HM.out; (repeat (replace HP := HP.popH (by with_reducible assumption))); exact HP)⟩, rfl⟩
 | true =>
  have HCK := Lib.hid (fun u => pcheck_any s 0 u hs (by rw [hk]; rfl))
  have HCT := Lib.hid (hT.out hk)
  clear hd hk hT hm hs
  cases d with
  | error z =>
   unfold SdQ at HCT
   dsimp only at HCT
   go_enter Tryz.func29, Tryz.ntmps29
   go_wp2_with (first | (refine aQl ?_) | (refine aQs ?_; clear HM; intro us HM; dsimp only [List.set] at HM) | (refine aQt ?_; clear HM HSW; intro us HM HSW; dsimp only [List.set] at HM HSW) | (refine aQv ?_; clear HM; intro us HM; dsimp only [List.set] at HM) | (refine aQb ?_) | (refine aQn ?_; first | (have q:dV HM = 0:=rfl;clear q HM;intro g1 u1 HG1 HM) | (have q:dV HM = 1:=rfl;clear q HM;intro g2 u2 HG2 HM) | (have q:dV HM = 2:=rfl;clear q HM;intro g3 u3 HG3 HM) | (have q:dV HM = 3:=rfl;clear q HM;intro g4 u4 HG4 HM) | (have q:dV HM = 4:=rfl;clear q HM;intro g5 u5 HG5 HM)))
   refine (HCK.out _).mono ?_
   rintro e w3 ⟨rfl, hb⟩
   replace HM := Lib.hid (HM.out.below hb)
   clear hb HCK
   go_wp2_with (first | (refine aQl ?_) | (refine aQs ?_; clear HM; intro us HM; dsimp only [List.set] at HM) | (refine aQt ?_; clear HM HSW; intro us HM HSW; dsimp only [List.set] at HM HSW) | (refine aQv ?_; clear HM; intro us HM; dsimp only [List.set] at HM) | (refine aQb ?_) | (refine aQn ?_; first | (have q:dV HM = 0:=rfl;clear q HM;intro g1 u1 HG1 HM) | (have q:dV HM = 1:=rfl;clear q HM;intro g2 u2 HG2 HM) | (have q:dV HM = 2:=rfl;clear q HM;intro g3 u3 HG3 HM) | (have q:dV HM = 3:=rfl;clear q HM;intro g4 u4 HG4 HM) | (have q:dV HM = 4:=rfl;clear q HM;intro g5 u5 HG5 HM)))
   refine (HCT.out _ (by have HP := HM.out; (repeat (replace HP := HP.popH (by with_reducible assumption))); exact HP)).mono ?_
   rintro e w4 ⟨hz, rfl, cs, hm⟩
   have HZ := Lib.hid hz
   have HM2 := Lib.hid (HM.out.after (by exact q7i) hm)
   clear hm HM HCT
   have HM := HM2
   clear HM2
   dsimp only [List.set] at HM
   have hz2 : (z != 0) = true := by simpa using hz
   clear hz
   go_wp2_with (first | (refine aQl ?_) | (refine aQs ?_; clear HM; intro us HM; dsimp only [List.set] at HM) | (refine aQt ?_; clear HM HSW; intro us HM HSW; dsimp only [List.set] at HM HSW) | (refine aQv ?_; clear HM; intro us HM; dsimp only [List.set] at HM) | (refine aQb ?_) | (refine aQn ?_; first | (have q:dV HM = 0:=rfl;clear q HM;intro g1 u1 HG1 HM) | (have q:dV HM = 1:=rfl;clear q HM;intro g2 u2 HG2 HM) | (have q:dV HM = 2:=rfl;clear q HM;intro g3 u3 HG3 HM) | (have q:dV HM = 3:=rfl;clear q HM;intro g4 u4 HG4 HM) | (have q:dV HM = 4:=rfl;clear q HM;intro g5 u5 HG5 HM)))
   refine bodyPost_ret (v := .tuple #[.agg (syC Sy.z), .agg (icells (zr 16)), .int .i64 z]) (vres_css rfl _ rfl rfl rfl rowSyn (by exact q7r) HM (by exact q7m) (by exact q7m) (by exact q7z) (by exact q7s)) rfl ⟨rfl, ⟨_, (by have HP := HM.out; (repeat (replace HP := HP.popH (by with_reducible assumption))); exact HP)⟩, HZ.out⟩
  | ok r =>
   obtain ⟨s3, p⟩ := r
   unfold SdQ at HCT
   dsimp only at HCT
   go_enter Tryz.func29, Tryz.ntmps29
   go_wp2_with (first | (refine aQl ?_) | (refine aQs ?_; clear HM; intro us HM; dsimp only [List.set] at HM) | (refine aQt ?_; clear HM HSW; intro us HM HSW; dsimp only [List.set] at HM HSW) | (refine aQv ?_; clear HM; intro us HM; dsimp only [List.set] at HM) | (refine aQb ?_) | (refine aQn ?_; first | (have q:dV HM = 0:=rfl;clear q HM;intro g1 u1 HG1 HM) | (have q:dV HM = 1:=rfl;clear q HM;intro g2 u2 HG2 HM) | (have q:dV HM = 2:=rfl;clear q HM;intro g3 u3 HG3 HM) | (have q:dV HM = 3:=rfl;clear q HM;intro g4 u4 HG4 HM) | (have q:dV HM = 4:=rfl;clear q HM;intro g5 u5 HG5 HM)))
   refine (HCK.out _).mono ?_
   rintro e w3 ⟨rfl, hb⟩
   replace HM := Lib.hid (HM.out.below hb)
   clear hb HCK
   go_wp2_with (first | (refine aQl ?_) | (refine aQs ?_; clear HM; intro us HM; dsimp only [List.set] at HM) | (refine aQt ?_; clear HM HSW; intro us HM HSW; dsimp only [List.set] at HM HSW) | (refine aQv ?_; clear HM; intro us HM; dsimp only [List.set] at HM) | (refine aQb ?_) | (refine aQn ?_; first | (have q:dV HM = 0:=rfl;clear q HM;intro g1 u1 HG1 HM) | (have q:dV HM = 1:=rfl;clear q HM;intro g2 u2 HG2 HM) | (have q:dV HM = 2:=rfl;clear q HM;intro g3 u3 HG3 HM) | (have q:dV HM = 3:=rfl;clear q HM;intro g4 u4 HG4 HM) | (have q:dV HM = 4:=rfl;clear q HM;intro g5 u5 HG5 HM)))
   refine (HCT.out _ (by have HP := HM.out; (repeat (replace HP := HP.popH (by with_reducible assumption))); exact HP)).mono ?_
   rintro e w4 ⟨rfl, hw, hp, hm⟩
   have HSW3 := Lib.hid hw
   have LP := Lib.hid hp
   have HM2 := Lib.hid (HM.out.after (by exact q7i) hm)
   clear hw hp hm HM HCT HSW
   have HM := HM2
   clear HM2
   dsimp only [List.set] at HM
   go_wp2_with (first | (refine aQl ?_) | (refine aQs ?_; clear HM; intro us HM; dsimp only [List.set] at HM) | (refine aQt ?_; clear HM HSW; intro us HM HSW; dsimp only [List.set] at HM HSW) | (refine aQv ?_; clear HM; intro us HM; dsimp only [List.set] at HM) | (refine aQb ?_) | (refine aQn ?_; first | (have q:dV HM = 0:=rfl;clear q HM;intro g1 u1 HG1 HM) | (have q:dV HM = 1:=rfl;clear q HM;intro g2 u2 HG2 HM) | (have q:dV HM = 2:=rfl;clear q HM;intro g3 u3 HG3 HM) | (have q:dV HM = 3:=rfl;clear q HM;intro g4 u4 HG4 HM) | (have q:dV HM = 4:=rfl;clear q HM;intro g5 u5 HG5 HM)))
   refine wp_region_held_drew (S := fun y => Blk y m 70 (syC s3) ∧ Blk y g4 35 (icells p)) (by kernel_rfl) ⟨HM.out.drew.get (by exact q7m), HM.out.drew.get (by exact q7m)⟩ (fun hHeld => ?_)
   have HMd := Lib.hid HM.out.drew
   clear HM
   have HM := HMd
   clear HMd
   generalize World.drew _ = wd at HM hHeld ⊢
   (refine tkv 0 (.pointer (some ⟨m, 0, none⟩)) rfl ?_)
   (refine tkv 1 (.pointer (some ⟨m, 0, none⟩)) rfl ?_)
   (refine tkg 2 (.pointer (some ⟨m, 0, none⟩)) rfl ?_)
   (refine tk 3 rfl (yv_load rfl _ _ rfl rfl (fun u hu => run_load_blk rowSyn hu.1 (syC_size HSW3.out))) ?_)
   (refine tk 4 rfl (yv_load rfl _ _ rfl rfl (fun u hu => run_load_blk (Arr.row arrPcm) hu.2 ((icells_size _).trans LP.out))) ?_)
   refine wpAnyH_ready (rs := [5]) (by kernel_rfl) (by simp) ?_; refine AllReadyH.cons rfl (fun K hK => ?_) (AllReadyH.nil)
   rw [if_pos (by rfl)]
   refine ov_store _ _ _ rfl rfl rfl rowSyn HM (by exact q7i) (by exact q7z) (by exact q7z) (syC_one _) rfl ?_
   clear HM hHeld
   intro us HM
   dsimp only [List.set] at HM
   refine hK.out _ _ ⟨HM.out.get (by exact q7m), HM.out.get (by exact q7m)⟩ (fun hHeld => ?_)
   clear hK K
   (try simp only [Act.put, qz1, qz2, qz3])
   refine wpAnyH_ready (rs := [6]) (by kernel_rfl) (by simp) ?_; refine AllReadyH.cons rfl (fun K hK => ?_) (AllReadyH.nil)
   rw [if_pos (by rfl)]; refine ov_store _ _ _ rfl rfl rfl (by exact q7r) HM (by exact q7i) (by exact q7s) (by exact q7s) (by exact q7o) rfl ?_; clear HM; intro us HM; dsimp only [List.set] at HM
   clear hHeld
   refine hK.out _ _ ⟨HM.out.get (by exact q7m), HM.out.get (by exact q7m)⟩ (fun hHeld => ?_)
   clear hK K
   (try simp only [Act.put, qz1, qz2, qz3])
   (refine tkv 7 (.int .i64 0) rfl ?_)
   refine wpAnyH_done (by kernel_rfl) ?_ _
   clear hHeld
   go_wp2_with (first | (refine aQl ?_) | (refine aQs ?_; clear HM; intro us HM; dsimp only [List.set] at HM) | (refine aQt ?_; clear HM HSW; intro us HM HSW; dsimp only [List.set] at HM HSW) | (refine aQv ?_; clear HM; intro us HM; dsimp only [List.set] at HM) | (refine aQb ?_) | (refine aQn ?_; first | (have q:dV HM = 0:=rfl;clear q HM;intro g1 u1 HG1 HM) | (have q:dV HM = 1:=rfl;clear q HM;intro g2 u2 HG2 HM) | (have q:dV HM = 2:=rfl;clear q HM;intro g3 u3 HG3 HM) | (have q:dV HM = 3:=rfl;clear q HM;intro g4 u4 HG4 HM) | (have q:dV HM = 4:=rfl;clear q HM;intro g5 u5 HG5 HM)))
   refine bodyPost_ret (v := .tuple #[.agg (syC s3), .agg (icells p), .int .i64 0]) (vres_css rfl _ rfl rfl rfl rowSyn (by exact q7r) HM (by exact q7m) (by exact q7m) (by exact q7z) (by exact q7s)) rfl ⟨rfl, ⟨_, (by have HP := HM.out; (repeat (replace HP := HP.popH (by with_reducible assumption))); exact HP)⟩, HSW3.out, LP.out⟩
theorem wv_boxV {ops : Array Oper} {rest : List Oper} {o : Oper} {a : Act} {w w0 w1 : World} {Q : Exit → Act → World → Prop} {L : List Ent} (hgd : Region.wanted o (yielded ops a.tmps) = true) (T : TypeId) (x : Operand) (ho : o.op = .box T x) {v : Value} (hx : a.eval x = v) (hv : v.cells = #[v]) (hm : Hid (MV w0 w1 L w))
  (h : ∀ g w', Hid (w1.heap.size ≤ g) → Hid (MV w0 w1 ((g, T, #[v]) :: L) w') → wpList Tryz.prog ops Q rest (a.put o.dst (.pointer (some ⟨g, 0, none⟩))) w') : wpList Tryz.prog ops Q (o :: rest) a w :=
 wl_step hgd fun K hK => by
  have := hK _ _ (h w.heap.size _ (Lib.hid hm.out.2.2.2.2.1) (Lib.hid (hm.out.alloc T #[v])))
  unfold Oper.wp execOp
  simp only [ho, Instr.box, newVar, newRow, Sem.run_bind, hx, hv, Result.andThen, Sem.run_pure]
  exact this
theorem syn8 {s : Sy} (hs : SyW s) : ∀ (k : Nat) (x : Int), (syC s)[k]? ≠ some (Value.int .u8 x) := by
 intro k x h
 have hm : Value.int .u8 x ∈ (syC s).toList := by
  rw [Array.mem_toList_iff]
  exact Array.mem_of_getElem? h
 unfold syC endL icl at hm
 simp at hm
theorem rd_noM {w : World} {A : Option Addr} {n g : Nat} {bs : List Nat} {T : TypeId} {cs : Array Value} (hr : Rd w A n bs) (hb : Blk w g T cs) (h8 : ∀ (k : Nat) (x : Int), cs[k]? ≠ some (Value.int .u8 x)) {ad : Addr} (e : A = some ad) (hn : 0 < n) : g ≠ ad.block := by
 obtain ⟨ad', e', -, -, hc⟩ := hr.at_ (k := 0) hn
 have e2 : ad = ad' := Option.some.inj (e.symm.trans e')
 subst e2
 intro hg
 have h0 : ad.add 0 = ad := rfl
 rw [h0] at hc
 unfold Blk at hb
 unfold World.cell? at hc
 rw [← hg, hb] at hc
 cases hs : ad.spot.isSome with
 | true => simp [hs] at hc
 | false =>
  simp only [hs] at hc
  rw [if_neg Bool.false_ne_true] at hc
  exact h8 _ _ hc
theorem dRd_some {bs : List Nat} {p : List Int} {K : Int} {l q : List Int} (hp : chkL p = true) (h : rdR bs p = some (K, l, q)) : rdV bs p = .tuple #[.agg (icells (frL K l q)), .int .i64 0] := by
 unfold rdV
 rw [if_pos hp, h]
theorem dRd_none {bs : List Nat} {p : List Int} (hp : chkL p = true) (h : rdR bs p = none) : rdV bs p = .tuple #[.agg (icells (zr 23)), .int .i64 21] := by
 unfold rdV
 rw [if_pos hp, h]
theorem stepS_none {s : Sy} {bs : List Nat} (hk : okSy s = true) (h : rdR bs s.l = none) : stepS s bs = .error 21 := by unfold stepS; rw [if_pos hk, h]
theorem stepS_late {s : Sy} {bs : List Nat} {l q : List Int} (hk : okSy s = true) (h : rdR bs s.l = some (1, l, q)) (hv : s.live = false) : stepS s bs = .error 40 := by
 unfold stepS; rw [if_pos hk, h]; dsimp only; rw [if_pos ⟨rfl, hv⟩]
theorem stepS_sid {s : Sy} {bs : List Nat} {l q : List Int} (hk : okSy s = true) (h : rdR bs s.l = some (2, l, q)) : stepS s bs = .ok (hisS { s with l := l, live := false, hush := true }) := by
 unfold stepS; rw [if_pos hk, h]; dsimp only; rw [if_neg (by rintro ⟨e, -⟩; exact absurd e (by decide)), if_pos rfl]
theorem stepS_talk {s : Sy} {bs : List Nat} {K : Int} {l q : List Int} (hk : okSy s = true) (h : rdR bs s.l = some (K, l, q)) (h1 : ¬ (K = 1 ∧ s.live = false)) (h2 : ¬ K = 2) : stepS s bs = .ok (sndS { s with l := l, live := true, hush := false } (greatL q l)) := by
 unfold stepS; rw [if_pos hk, h]; dsimp only; rw [if_neg h1, if_neg h2]
theorem mstep_any {w0 w : World} {m : Nat} (s : Sy) (A : Option Addr) (n c : Nat) (bs : List Nat) (hm : Hid (MV w0 w [(m, 70, syC s)] w)) (hs : Hid (SyW s)) (hk : okSy s = true) (hr : Hid (Rd w A n bs)) (he : Hid (Edg w0)) :
  Calls Tryz.prog 36 #[.pointer (some ⟨m, 0, none⟩), .slice A n c] w (SdQ w0 w m (stepS s bs)) := by
 have HM := hm
 have HSW := hs
 have HE := he
 have LZ := Lib.hid (zr_length 16)
 have LZ3 := Lib.hid (zr_length 23)
 obtain ⟨k1, k2, -⟩ := okSy_iff.1 hk
 have HAP := Lib.hid (show Apt A n [m] from fun ad e hn g hg => by
  rw [List.mem_singleton] at hg
  subst hg
  exact rd_noM hr.out (hm.out.get (.head _)) (syn8 hs.out) e hn)
 have HAL := Lib.hid (rd_lt hr.out)
 cases hq : rdR bs s.l with
 | none =>
  have HRD := Lib.hid (fun u h he => fread_any A n c bs s.l u h hs.out.ll he)
  rw [dRd_none k2 hq] at HRD
  rw [stepS_none hk hq]
  unfold SdQ
  dsimp only
  clear hm hs hk he k1 k2 hq
  go_enter Tryz.func36, Tryz.ntmps36
  go_upto_region 1 with (first | (refine aQl ?_) | (refine aQs ?_; clear HM; intro us HM; dsimp only [List.set] at HM) | (refine aQt ?_; clear HM HSW; intro us HM HSW; dsimp only [List.set] at HM HSW) | (refine aQv ?_; clear HM; intro us HM; dsimp only [List.set] at HM) | (refine aQb ?_) | (refine aQn ?_; first | (have q:dV HM = 0:=rfl;clear q HM;intro g1 u1 HG1 HM) | (have q:dV HM = 1:=rfl;clear q HM;intro g2 u2 HG2 HM) | (have q:dV HM = 2:=rfl;clear q HM;intro g3 u3 HG3 HM) | (have q:dV HM = 3:=rfl;clear q HM;intro g4 u4 HG4 HM)))
  have HR2 := Lib.hid (HM.out.rdA hr.out (by exact HAP.out.cons HAL.out HG2.out))
  go_wp2_with (first | (refine aQl ?_) | (refine aQs ?_; clear HM; intro us HM; dsimp only [List.set] at HM) | (refine aQt ?_; clear HM HSW; intro us HM HSW; dsimp only [List.set] at HM HSW) | (refine aQv ?_; clear HM; intro us HM; dsimp only [List.set] at HM) | (refine aQb ?_) | (refine aQn ?_; first | (have q:dV HM = 0:=rfl;clear q HM;intro g1 u1 HG1 HM) | (have q:dV HM = 1:=rfl;clear q HM;intro g2 u2 HG2 HM) | (have q:dV HM = 2:=rfl;clear q HM;intro g3 u3 HG3 HM) | (have q:dV HM = 3:=rfl;clear q HM;intro g4 u4 HG4 HM)))
  refine (HRD.out _ HR2 (HE.out.below HM.out.1)).mono ?_
  rintro e w3 ⟨rfl, hb⟩
  replace HM := Lib.hid (HM.out.below hb)
  clear hb HRD HR2
  go_wp2_with (first | (first | (refine aQl ?_) | (refine aQs ?_; clear HM; intro us HM; dsimp only [List.set] at HM) | (refine aQt ?_; clear HM HSW; intro us HM HSW; dsimp only [List.set] at HM HSW) | (refine aQv ?_; clear HM; intro us HM; dsimp only [List.set] at HM) | (refine aQb ?_) | (refine aQn ?_; first | (have q:dV HM = 0:=rfl;clear q HM;intro g1 u1 HG1 HM) | (have q:dV HM = 1:=rfl;clear q HM;intro g2 u2 HG2 HM) | (have q:dV HM = 2:=rfl;clear q HM;intro g3 u3 HG3 HM) | (have q:dV HM = 3:=rfl;clear q HM;intro g4 u4 HG4 HM))) | (first | (refine wv_zeroF rfl rfl ?_) | (first | (refine aVn ?_; first | (have q:dV HM = 0:=rfl;clear q HM;intro g1 u1 HG1 HM) | (have q:dV HM = 1:=rfl;clear q HM;intro g2 u2 HG2 HM) | (have q:dV HM = 2:=rfl;clear q HM;intro g3 u3 HG3 HM) | (have q:dV HM = 3:=rfl;clear q HM;intro g4 u4 HG4 HM)) | (refine aVl ?_) | (refine aVs ?_; clear HM; intro us HM; dsimp only [List.set] at HM) | (refine aZe ?_)) | (refine aVe ?_) | (refine aVp ?_; clear HM; intro us HM; dsimp only [List.set] at HM) | (refine aXl ?_)))
  refine bodyPost_ret (v := .tuple #[.agg (icells (zr 16)), .int .i64 21]) (vres_two rfl _ rfl rfl (by exact q7r) HM (by exact q7m) (by exact q7s)) rfl ⟨rfl, rfl, _, (by have HP := HM.out; (repeat (replace HP := HP.popH (by with_reducible assumption))); exact HP)⟩
 | some x =>
  obtain ⟨K, l, q⟩ := x
  obtain ⟨h1, -, -⟩ := rd_one hq
  have hfr := (chkB_iff _ _ _ _).1 h1
  obtain ⟨l6, q16⟩ := gsR_len (rdR_gs hq)
  have HFS := Lib.hid (frS_mk (K := K) l6 q16)
  have HMY := Lib.hid hfr.may
  have HCL := Lib.hid hfr.lev
  have HRD := Lib.hid (fun u h he => fread_any A n c bs s.l u h hs.out.ll he)
  rw [dRd_some k2 hq] at HRD
  obtain ⟨F, hF⟩ : ∃ F, F = frL K l q := ⟨_, rfl⟩
  rw [← hF] at HFS HRD
  have LF := Lib.hid HFS.out.len
  have SL := Lib.hid HFS.out.lev
  have SQ := Lib.hid HFS.out.num
  have LL := Lib.hid l6
  have LQ := Lib.hid q16
  have F0 := Lib.hid (show 0 < F.length ∧ F.getD 0 0 = K from ⟨by rw [HFS.out.len]; decide, HFS.out.k0⟩)
  have HKT := Lib.hid k1
  clear h1 hfr l6 q16 k1 k2 hF
  by_cases h2 : K = 2
  ·subst h2
   rw [stepS_sid hk hq]
   have HNO := Lib.hid (fun (a b : World) (h : Hid (MV w0 a [(m, 70, syC ⟨s.t, s.l, s.live, true, s.seed⟩)] b)) => mnoise_any ⟨s.t, s.l, s.live, true, s.seed⟩ l h (Lib.hid ⟨hs.out.lt, hs.out.ll, hs.out.sd⟩) LL.out HCL.out HKT.out he)
   dsimp only at HNO
   generalize hisS _ = r at HNO ⊢
   obtain ⟨s3, p⟩ := r
   unfold SdQ at HNO ⊢
   dsimp only at HNO ⊢
   clear hm hs hk he hq
   go_enter Tryz.func36, Tryz.ntmps36
   go_upto_region 1 with (first | (refine aQl ?_) | (refine aQs ?_; clear HM; intro us HM; dsimp only [List.set] at HM) | (refine aQt ?_; clear HM HSW; intro us HM HSW; dsimp only [List.set] at HM HSW) | (refine aQv ?_; clear HM; intro us HM; dsimp only [List.set] at HM) | (refine aQb ?_) | (refine aQn ?_; first | (have q:dV HM = 0:=rfl;clear q HM;intro g1 u1 HG1 HM) | (have q:dV HM = 1:=rfl;clear q HM;intro g2 u2 HG2 HM) | (have q:dV HM = 2:=rfl;clear q HM;intro g3 u3 HG3 HM) | (have q:dV HM = 3:=rfl;clear q HM;intro g4 u4 HG4 HM)))
   have HR2 := Lib.hid (HM.out.rdA hr.out (by exact HAP.out.cons HAL.out HG2.out))
   go_wp2_with (first | (refine aQl ?_) | (refine aQs ?_; clear HM; intro us HM; dsimp only [List.set] at HM) | (refine aQt ?_; clear HM HSW; intro us HM HSW; dsimp only [List.set] at HM HSW) | (refine aQv ?_; clear HM; intro us HM; dsimp only [List.set] at HM) | (refine aQb ?_) | (refine aQn ?_; first | (have q:dV HM = 0:=rfl;clear q HM;intro g1 u1 HG1 HM) | (have q:dV HM = 1:=rfl;clear q HM;intro g2 u2 HG2 HM) | (have q:dV HM = 2:=rfl;clear q HM;intro g3 u3 HG3 HM) | (have q:dV HM = 3:=rfl;clear q HM;intro g4 u4 HG4 HM)))
   refine (HRD.out _ HR2 (HE.out.below HM.out.1)).mono ?_
   rintro e w3 ⟨rfl, hb⟩
   replace HM := Lib.hid (HM.out.below hb)
   clear hb HRD HR2
   go_wp2_with (first | (first | (refine aQl ?_) | (refine aQs ?_; clear HM; intro us HM; dsimp only [List.set] at HM) | (refine aQt ?_; clear HM HSW; intro us HM HSW; dsimp only [List.set] at HM HSW) | (refine aQv ?_; clear HM; intro us HM; dsimp only [List.set] at HM) | (refine aQb ?_) | (refine aQn ?_; first | (have q:dV HM = 0:=rfl;clear q HM;intro g1 u1 HG1 HM) | (have q:dV HM = 1:=rfl;clear q HM;intro g2 u2 HG2 HM) | (have q:dV HM = 2:=rfl;clear q HM;intro g3 u3 HG3 HM) | (have q:dV HM = 3:=rfl;clear q HM;intro g4 u4 HG4 HM))) | (first | (refine wv_zeroF rfl rfl ?_) | (first | (refine aVn ?_; first | (have q:dV HM = 0:=rfl;clear q HM;intro g1 u1 HG1 HM) | (have q:dV HM = 1:=rfl;clear q HM;intro g2 u2 HG2 HM) | (have q:dV HM = 2:=rfl;clear q HM;intro g3 u3 HG3 HM) | (have q:dV HM = 3:=rfl;clear q HM;intro g4 u4 HG4 HM)) | (refine aVl ?_) | (refine aVs ?_; clear HM; intro us HM; dsimp only [List.set] at HM) | (refine aZe ?_)) | (refine aVe ?_) | (refine aVp ?_; clear HM; intro us HM; dsimp only [List.set] at HM) | (refine aXl ?_)))
   refine (HNO.out _ _ (Lib.hid (HM.out.sub (by exact q7v)))).mono ?_
   rintro e w4 ⟨rfl, hw, hp, hm⟩
   have HSW3 := Lib.hid hw
   have LP := Lib.hid hp
   have HM2 := Lib.hid (HM.out.after (by exact q7i) hm)
   clear hw hp hm HM HNO HSW
   have HM := HM2
   clear HM2
   dsimp only [List.set] at HM
   go_wp2_with (first | (refine aQl ?_) | (refine aQs ?_; clear HM; intro us HM; dsimp only [List.set] at HM) | (refine aQt ?_; clear HM HSW; intro us HM HSW; dsimp only [List.set] at HM HSW) | (refine aQv ?_; clear HM; intro us HM; dsimp only [List.set] at HM) | (refine aQb ?_) | (refine aQn ?_; first | (have q:dV HM = 0:=rfl;clear q HM;intro g1 u1 HG1 HM) | (have q:dV HM = 1:=rfl;clear q HM;intro g2 u2 HG2 HM) | (have q:dV HM = 2:=rfl;clear q HM;intro g3 u3 HG3 HM) | (have q:dV HM = 3:=rfl;clear q HM;intro g4 u4 HG4 HM)))
   refine bodyPost_ret (v := .tuple #[.agg (icells p), .int .i64 0]) (vres_two rfl _ rfl rfl (by exact q7r) HM (by exact q7m) (by exact q7s)) rfl ⟨rfl, HSW3.out, LP.out, (by have HP := HM.out; (repeat (replace HP := HP.popH (by with_reducible assumption))); exact HP)⟩
  ·have d2 : (K == 2) = false := by simpa using h2
   by_cases h3 : K = 1 ∧ s.live = false
   ·obtain ⟨rfl, h4⟩ := h3
    have HLV := Lib.hid h4
    rw [stepS_late hk hq h4]
    unfold SdQ
    dsimp only
    clear hm hs hk he hq h2 h4
    go_enter Tryz.func36, Tryz.ntmps36
    go_upto_region 1 with (first | (refine aQl ?_) | (refine aQs ?_; clear HM; intro us HM; dsimp only [List.set] at HM) | (refine aQt ?_; clear HM HSW; intro us HM HSW; dsimp only [List.set] at HM HSW) | (refine aQv ?_; clear HM; intro us HM; dsimp only [List.set] at HM) | (refine aQb ?_) | (refine aQn ?_; first | (have q:dV HM = 0:=rfl;clear q HM;intro g1 u1 HG1 HM) | (have q:dV HM = 1:=rfl;clear q HM;intro g2 u2 HG2 HM) | (have q:dV HM = 2:=rfl;clear q HM;intro g3 u3 HG3 HM) | (have q:dV HM = 3:=rfl;clear q HM;intro g4 u4 HG4 HM)))
    have HR2 := Lib.hid (HM.out.rdA hr.out (by exact HAP.out.cons HAL.out HG2.out))
    go_wp2_with (first | (refine aQl ?_) | (refine aQs ?_; clear HM; intro us HM; dsimp only [List.set] at HM) | (refine aQt ?_; clear HM HSW; intro us HM HSW; dsimp only [List.set] at HM HSW) | (refine aQv ?_; clear HM; intro us HM; dsimp only [List.set] at HM) | (refine aQb ?_) | (refine aQn ?_; first | (have q:dV HM = 0:=rfl;clear q HM;intro g1 u1 HG1 HM) | (have q:dV HM = 1:=rfl;clear q HM;intro g2 u2 HG2 HM) | (have q:dV HM = 2:=rfl;clear q HM;intro g3 u3 HG3 HM) | (have q:dV HM = 3:=rfl;clear q HM;intro g4 u4 HG4 HM)))
    refine (HRD.out _ HR2 (HE.out.below HM.out.1)).mono ?_
    rintro e w3 ⟨rfl, hb⟩
    replace HM := Lib.hid (HM.out.below hb)
    clear hb HRD HR2
    go_wp2_with (first | (refine q8w (by rfl) ?_) | (first | (refine aQl ?_) | (refine aQs ?_; clear HM; intro us HM; dsimp only [List.set] at HM) | (refine aQt ?_; clear HM HSW; intro us HM HSW; dsimp only [List.set] at HM HSW) | (refine aQv ?_; clear HM; intro us HM; dsimp only [List.set] at HM) | (refine aQb ?_) | (refine aQn ?_; first | (have q:dV HM = 0:=rfl;clear q HM;intro g1 u1 HG1 HM) | (have q:dV HM = 1:=rfl;clear q HM;intro g2 u2 HG2 HM) | (have q:dV HM = 2:=rfl;clear q HM;intro g3 u3 HG3 HM) | (have q:dV HM = 3:=rfl;clear q HM;intro g4 u4 HG4 HM))) | (first | (refine wv_zeroF rfl rfl ?_) | (first | (refine aVn ?_; first | (have q:dV HM = 0:=rfl;clear q HM;intro g1 u1 HG1 HM) | (have q:dV HM = 1:=rfl;clear q HM;intro g2 u2 HG2 HM) | (have q:dV HM = 2:=rfl;clear q HM;intro g3 u3 HG3 HM) | (have q:dV HM = 3:=rfl;clear q HM;intro g4 u4 HG4 HM)) | (refine aVl ?_) | (refine aVs ?_; clear HM; intro us HM; dsimp only [List.set] at HM) | (refine aZe ?_)) | (refine aVe ?_) | (refine aVp ?_; clear HM; intro us HM; dsimp only [List.set] at HM) | (refine aXl ?_)))
    refine bodyPost_ret (v := .tuple #[.agg (icells (zr 16)), .int .i64 40]) (vres_two rfl _ rfl rfl (by exact q7r) HM (by exact q7m) (by exact q7s)) rfl ⟨rfl, rfl, _, (by have HP := HM.out; (repeat (replace HP := HP.popH (by with_reducible assumption))); exact HP)⟩
   ·rw [stepS_talk hk hq h3 h2]
    have HNO := Lib.hid (fun (a b : World) (h : Hid (MV w0 a [(m, 70, syC s)] b)) => mtalk_any s F K l q h hs HFS.out HMY.out HKT.out he)
    generalize sndS _ _ = r at HNO ⊢
    obtain ⟨s3, p⟩ := r
    unfold SdQ at HNO ⊢
    dsimp only at HNO ⊢
    clear hm hs hk he hq h2
    by_cases h1 : K = 1
    ·subst h1
     have HLV := Lib.hid (show s.live = true by
      cases e : s.live with
      | true => rfl
      | false => exact absurd ⟨rfl, e⟩ h3)
     clear h3
     go_enter Tryz.func36, Tryz.ntmps36
     go_upto_region 1 with (first | (refine aQl ?_) | (refine aQs ?_; clear HM; intro us HM; dsimp only [List.set] at HM) | (refine aQt ?_; clear HM HSW; intro us HM HSW; dsimp only [List.set] at HM HSW) | (refine aQv ?_; clear HM; intro us HM; dsimp only [List.set] at HM) | (refine aQb ?_) | (refine aQn ?_; first | (have q:dV HM = 0:=rfl;clear q HM;intro g1 u1 HG1 HM) | (have q:dV HM = 1:=rfl;clear q HM;intro g2 u2 HG2 HM) | (have q:dV HM = 2:=rfl;clear q HM;intro g3 u3 HG3 HM) | (have q:dV HM = 3:=rfl;clear q HM;intro g4 u4 HG4 HM)))
     have HR2 := Lib.hid (HM.out.rdA hr.out (by exact HAP.out.cons HAL.out HG2.out))
     go_wp2_with (first | (refine aQl ?_) | (refine aQs ?_; clear HM; intro us HM; dsimp only [List.set] at HM) | (refine aQt ?_; clear HM HSW; intro us HM HSW; dsimp only [List.set] at HM HSW) | (refine aQv ?_; clear HM; intro us HM; dsimp only [List.set] at HM) | (refine aQb ?_) | (refine aQn ?_; first | (have q:dV HM = 0:=rfl;clear q HM;intro g1 u1 HG1 HM) | (have q:dV HM = 1:=rfl;clear q HM;intro g2 u2 HG2 HM) | (have q:dV HM = 2:=rfl;clear q HM;intro g3 u3 HG3 HM) | (have q:dV HM = 3:=rfl;clear q HM;intro g4 u4 HG4 HM)))
     refine (HRD.out _ HR2 (HE.out.below HM.out.1)).mono ?_
     rintro e w3 ⟨rfl, hb⟩
     replace HM := Lib.hid (HM.out.below hb)
     clear hb HRD HR2
     go_wp2_with (first | (refine q8w (by rfl) ?_) | (first | (refine aQl ?_) | (refine aQs ?_; clear HM; intro us HM; dsimp only [List.set] at HM) | (refine aQt ?_; clear HM HSW; intro us HM HSW; dsimp only [List.set] at HM HSW) | (refine aQv ?_; clear HM; intro us HM; dsimp only [List.set] at HM) | (refine aQb ?_) | (refine aQn ?_; first | (have q:dV HM = 0:=rfl;clear q HM;intro g1 u1 HG1 HM) | (have q:dV HM = 1:=rfl;clear q HM;intro g2 u2 HG2 HM) | (have q:dV HM = 2:=rfl;clear q HM;intro g3 u3 HG3 HM) | (have q:dV HM = 3:=rfl;clear q HM;intro g4 u4 HG4 HM))) | (first | (refine wv_zeroF rfl rfl ?_) | (first | (refine aVn ?_; first | (have q:dV HM = 0:=rfl;clear q HM;intro g1 u1 HG1 HM) | (have q:dV HM = 1:=rfl;clear q HM;intro g2 u2 HG2 HM) | (have q:dV HM = 2:=rfl;clear q HM;intro g3 u3 HG3 HM) | (have q:dV HM = 3:=rfl;clear q HM;intro g4 u4 HG4 HM)) | (refine aVl ?_) | (refine aVs ?_; clear HM; intro us HM; dsimp only [List.set] at HM) | (refine aZe ?_)) | (refine aVe ?_) | (refine aVp ?_; clear HM; intro us HM; dsimp only [List.set] at HM) | (refine aXl ?_)))
     refine (HNO.out _ _ (Lib.hid (HM.out.sub (by exact q7v)))).mono ?_
     rintro e w4 ⟨rfl, hw, hp, hm⟩
     have HSW3 := Lib.hid hw
     have LP := Lib.hid hp
     have HM2 := Lib.hid (HM.out.after (by exact q7i) hm)
     clear hw hp hm HM HNO HSW
     have HM := HM2
     clear HM2
     dsimp only [List.set] at HM
     go_wp2_with (first | (refine aQl ?_) | (refine aQs ?_; clear HM; intro us HM; dsimp only [List.set] at HM) | (refine aQt ?_; clear HM HSW; intro us HM HSW; dsimp only [List.set] at HM HSW) | (refine aQv ?_; clear HM; intro us HM; dsimp only [List.set] at HM) | (refine aQb ?_) | (refine aQn ?_; first | (have q:dV HM = 0:=rfl;clear q HM;intro g1 u1 HG1 HM) | (have q:dV HM = 1:=rfl;clear q HM;intro g2 u2 HG2 HM) | (have q:dV HM = 2:=rfl;clear q HM;intro g3 u3 HG3 HM) | (have q:dV HM = 3:=rfl;clear q HM;intro g4 u4 HG4 HM)))
     refine bodyPost_ret (v := .tuple #[.agg (icells p), .int .i64 0]) (vres_two rfl _ rfl rfl (by exact q7r) HM (by exact q7m) (by exact q7s)) rfl ⟨rfl, HSW3.out, LP.out, (by have HP := HM.out; (repeat (replace HP := HP.popH (by with_reducible assumption))); exact HP)⟩
    ·have d1 : (K == 1) = false := by simpa using h1
     clear h3 h1
     go_enter Tryz.func36, Tryz.ntmps36
     go_upto_region 1 with (first | (refine aQl ?_) | (refine aQs ?_; clear HM; intro us HM; dsimp only [List.set] at HM) | (refine aQt ?_; clear HM HSW; intro us HM HSW; dsimp only [List.set] at HM HSW) | (refine aQv ?_; clear HM; intro us HM; dsimp only [List.set] at HM) | (refine aQb ?_) | (refine aQn ?_; first | (have q:dV HM = 0:=rfl;clear q HM;intro g1 u1 HG1 HM) | (have q:dV HM = 1:=rfl;clear q HM;intro g2 u2 HG2 HM) | (have q:dV HM = 2:=rfl;clear q HM;intro g3 u3 HG3 HM) | (have q:dV HM = 3:=rfl;clear q HM;intro g4 u4 HG4 HM)))
     have HR2 := Lib.hid (HM.out.rdA hr.out (by exact HAP.out.cons HAL.out HG2.out))
     go_wp2_with (first | (refine aQl ?_) | (refine aQs ?_; clear HM; intro us HM; dsimp only [List.set] at HM) | (refine aQt ?_; clear HM HSW; intro us HM HSW; dsimp only [List.set] at HM HSW) | (refine aQv ?_; clear HM; intro us HM; dsimp only [List.set] at HM) | (refine aQb ?_) | (refine aQn ?_; first | (have q:dV HM = 0:=rfl;clear q HM;intro g1 u1 HG1 HM) | (have q:dV HM = 1:=rfl;clear q HM;intro g2 u2 HG2 HM) | (have q:dV HM = 2:=rfl;clear q HM;intro g3 u3 HG3 HM) | (have q:dV HM = 3:=rfl;clear q HM;intro g4 u4 HG4 HM)))
     refine (HRD.out _ HR2 (HE.out.below HM.out.1)).mono ?_
     rintro e w3 ⟨rfl, hb⟩
     replace HM := Lib.hid (HM.out.below hb)
     clear hb HRD HR2
     go_wp2_with (first | (refine q8w (by rfl) ?_) | (first | (refine aQl ?_) | (refine aQs ?_; clear HM; intro us HM; dsimp only [List.set] at HM) | (refine aQt ?_; clear HM HSW; intro us HM HSW; dsimp only [List.set] at HM HSW) | (refine aQv ?_; clear HM; intro us HM; dsimp only [List.set] at HM) | (refine aQb ?_) | (refine aQn ?_; first | (have q:dV HM = 0:=rfl;clear q HM;intro g1 u1 HG1 HM) | (have q:dV HM = 1:=rfl;clear q HM;intro g2 u2 HG2 HM) | (have q:dV HM = 2:=rfl;clear q HM;intro g3 u3 HG3 HM) | (have q:dV HM = 3:=rfl;clear q HM;intro g4 u4 HG4 HM))) | (first | (refine wv_zeroF rfl rfl ?_) | (first | (refine aVn ?_; first | (have q:dV HM = 0:=rfl;clear q HM;intro g1 u1 HG1 HM) | (have q:dV HM = 1:=rfl;clear q HM;intro g2 u2 HG2 HM) | (have q:dV HM = 2:=rfl;clear q HM;intro g3 u3 HG3 HM) | (have q:dV HM = 3:=rfl;clear q HM;intro g4 u4 HG4 HM)) | (refine aVl ?_) | (refine aVs ?_; clear HM; intro us HM; dsimp only [List.set] at HM) | (refine aZe ?_)) | (refine aVe ?_) | (refine aVp ?_; clear HM; intro us HM; dsimp only [List.set] at HM) | (refine aXl ?_)))
     refine (HNO.out _ _ (Lib.hid (HM.out.sub (by exact q7v)))).mono ?_
     rintro e w4 ⟨rfl, hw, hp, hm⟩
     have HSW3 := Lib.hid hw
     have LP := Lib.hid hp
     have HM2 := Lib.hid (HM.out.after (by exact q7i) hm)
     clear hw hp hm HM HNO HSW
     have HM := HM2
     clear HM2
     dsimp only [List.set] at HM
     go_wp2_with (first | (refine aQl ?_) | (refine aQs ?_; clear HM; intro us HM; dsimp only [List.set] at HM) | (refine aQt ?_; clear HM HSW; intro us HM HSW; dsimp only [List.set] at HM HSW) | (refine aQv ?_; clear HM; intro us HM; dsimp only [List.set] at HM) | (refine aQb ?_) | (refine aQn ?_; first | (have q:dV HM = 0:=rfl;clear q HM;intro g1 u1 HG1 HM) | (have q:dV HM = 1:=rfl;clear q HM;intro g2 u2 HG2 HM) | (have q:dV HM = 2:=rfl;clear q HM;intro g3 u3 HG3 HM) | (have q:dV HM = 3:=rfl;clear q HM;intro g4 u4 HG4 HM)))
     refine bodyPost_ret (v := .tuple #[.agg (icells p), .int .i64 0]) (vres_two rfl _ rfl rfl (by exact q7r) HM (by exact q7m) (by exact q7s)) rfl ⟨rfl, HSW3.out, LP.out, (by have HP := HM.out; (repeat (replace HP := HP.popH (by with_reducible assumption))); exact HP)⟩
def DsQ (w : World) (d : Ds) (e : Ending) (w' : World) : Prop := e = .returned (dsV d) ∧ Below w.heap.size w w' ∧ match d with
 | .ok (s, p) => SyW s ∧ p.length = 16
 | .error z => (z == 0) = false
theorem step_no {s : Sy} {bs : List Nat} (h : okSy s = false) : stepS s bs = .error 1 := by unfold stepS; rw [if_neg (by rw [h]; exact Bool.false_ne_true)]
theorem rest_no {s : Sy} (h : okSy s = false) : restS s = .error 1 := by unfold restS; rw [if_neg (by rw [h]; exact Bool.false_ne_true)]
theorem fade_no {s : Sy} {b : Int} (h : okSy s = false) : fadeS s b = .error 1 := by unfold fadeS; rw [if_neg (by rw [h]; exact fun e => Bool.false_ne_true e.1)]
theorem dsV_form (d : Ds) (h : match d with | .ok (s, p) => SyW s ∧ p.length = 16 | .error z => (z == 0) = false) : ∃ (s : Sy) (p : List Int) (z : Int), SyW s ∧ p.length = 16 ∧ dsV d = .tuple #[.agg (syC s), .agg (icells p), .int .i64 z] := by
 cases d with
 | error z => exact ⟨Sy.z, zr 16, z, syW_z, zr_length 16, rfl⟩
 | ok r => exact ⟨r.1, r.2, 0, h.1, h.2, rfl⟩
theorem step1_any {w0 w : World} {m gb : Nat} (s : Sy) (A : Option Addr) (n c : Nat) (bs : List Nat) (hm : Hid (MV w0 w [(m, 70, syC s)] w)) (hs : Hid (SyW s)) (hk : okSy s = true) (hr : Hid (Rd w A n bs)) (hb : Hid (Blk w gb 34 #[.slice A n c])) (hg : gb ≠ m) (he : Hid (Edg w0)) :
  Calls Tryz.prog 35 #[.pointer (some ⟨m, 0, none⟩), .pointer (some ⟨gb, 0, none⟩)] w (SdQ w0 w m (stepS s bs)) := by
 have HM := hm
 have LZ := Lib.hid (zr_length 16)
 have HAP := Lib.hid (show Apt A n [m] from fun ad e hn g hg => by
  rw [List.mem_singleton] at hg
  subst hg
  exact rd_noM hr.out (hm.out.get (.head _)) (syn8 hs.out) e hn)
 have HAL := Lib.hid (rd_lt hr.out)
 have HST := Lib.hid (fun (u : World) (h : Hid (MV w0 u [(m, 70, syC s)] u)) (h2 : Hid (Rd u A n bs)) => mstep_any s A n c bs h hs hk h2 he)
 have HGB := Lib.hid hg
 have HLT := Lib.hid hb.out.lt
 generalize stepS s bs = d at HST ⊢
 clear hm hk he hg
 go_enter Tryz.func35, Tryz.ntmps35
 go_upto_region 1 with (first | (refine aQl ?_) | (refine aQs ?_; clear HM; intro us HM; dsimp only [List.set] at HM) | (refine aQt ?_; clear HM HSW; intro us HM HSW; dsimp only [List.set] at HM HSW) | (refine aQv ?_; clear HM; intro us HM; dsimp only [List.set] at HM) | (refine aQb ?_) | (refine aQn ?_; first | (have q:dV HM = 0:=rfl;clear q HM;intro g1 u1 HG1 HM) | (have q:dV HM = 1:=rfl;clear q HM;intro g2 u2 HG2 HM) | (have q:dV HM = 2:=rfl;clear q HM;intro g3 u3 HG3 HM) | (have q:dV HM = 3:=rfl;clear q HM;intro g4 u4 HG4 HM)))
 have HR2 := Lib.hid (HM.out.rdA hr.out (by exact HAP.out.cons HAL.out HG2.out))
 have hcl := (HM.out.keep hb.out (fun e he => by
  simp only [List.mem_cons, List.not_mem_nil, or_false] at he
  have h1 := HLT.out
  have h2 := HG2.out
  rcases he with rfl | rfl
  ·show g2 ≠ gb; omega
  ·exact HGB.out.symm)).cell 0
 go_wp2_with (first | (refine aQl ?_) | (refine aQs ?_; clear HM; intro us HM; dsimp only [List.set] at HM) | (refine aQt ?_; clear HM HSW; intro us HM HSW; dsimp only [List.set] at HM HSW) | (refine aQv ?_; clear HM; intro us HM; dsimp only [List.set] at HM) | (refine aQb ?_) | (refine aQn ?_; first | (have q:dV HM = 0:=rfl;clear q HM;intro g1 u1 HG1 HM) | (have q:dV HM = 1:=rfl;clear q HM;intro g2 u2 HG2 HM) | (have q:dV HM = 2:=rfl;clear q HM;intro g3 u3 HG3 HM) | (have q:dV HM = 3:=rfl;clear q HM;intro g4 u4 HG4 HM)))
 refine (HST.out _ (Lib.hid (HM.out.sub (by exact q7v))) HR2).mono ?_
 intro e w4 ho
 cases d with
 | error z =>
  obtain ⟨hz, rfl, cs, hm⟩ := ho
  have HZ := Lib.hid hz
  have HM2 := Lib.hid (HM.out.after (by exact q7i) hm)
  clear hz hm HM HST hcl HR2
  have HM := HM2
  clear HM2
  dsimp only [List.set] at HM
  go_wp2_with (first | (refine aQl ?_) | (refine aQs ?_; clear HM; intro us HM; dsimp only [List.set] at HM) | (refine aQt ?_; clear HM HSW; intro us HM HSW; dsimp only [List.set] at HM HSW) | (refine aQv ?_; clear HM; intro us HM; dsimp only [List.set] at HM) | (refine aQb ?_) | (refine aQn ?_; first | (have q:dV HM = 0:=rfl;clear q HM;intro g1 u1 HG1 HM) | (have q:dV HM = 1:=rfl;clear q HM;intro g2 u2 HG2 HM) | (have q:dV HM = 2:=rfl;clear q HM;intro g3 u3 HG3 HM) | (have q:dV HM = 3:=rfl;clear q HM;intro g4 u4 HG4 HM)))
  refine bodyPost_ret (v := .tuple #[.agg (icells (zr 16)), .int .i64 z]) (vres_two rfl _ rfl rfl (by exact q7r) HM (by exact q7m) (by exact q7s)) rfl ⟨HZ.out, rfl, _, (by have HP := HM.out; (repeat (replace HP := HP.popH (by with_reducible assumption))); exact HP)⟩
 | ok r =>
  obtain ⟨s3, p⟩ := r
  obtain ⟨rfl, hw, hp, hm⟩ := ho
  have HSW3 := Lib.hid hw
  have LP := Lib.hid hp
  have HM2 := Lib.hid (HM.out.after (by exact q7i) hm)
  clear hw hp hm HM HST hcl HR2
  have HM := HM2
  clear HM2
  dsimp only [List.set] at HM
  go_wp2_with (first | (refine aQl ?_) | (refine aQs ?_; clear HM; intro us HM; dsimp only [List.set] at HM) | (refine aQt ?_; clear HM HSW; intro us HM HSW; dsimp only [List.set] at HM HSW) | (refine aQv ?_; clear HM; intro us HM; dsimp only [List.set] at HM) | (refine aQb ?_) | (refine aQn ?_; first | (have q:dV HM = 0:=rfl;clear q HM;intro g1 u1 HG1 HM) | (have q:dV HM = 1:=rfl;clear q HM;intro g2 u2 HG2 HM) | (have q:dV HM = 2:=rfl;clear q HM;intro g3 u3 HG3 HM) | (have q:dV HM = 3:=rfl;clear q HM;intro g4 u4 HG4 HM)))
  refine bodyPost_ret (v := .tuple #[.agg (icells p), .int .i64 0]) (vres_two rfl _ rfl rfl (by exact q7r) HM (by exact q7m) (by exact q7s)) rfl ⟨rfl, HSW3.out, LP.out, (by have HP := HM.out; (repeat (replace HP := HP.popH (by with_reducible assumption))); exact HP)⟩
theorem fade1_any {w0 w : World} {m gb : Nat} (s : Sy) (b : Int) (hm : Hid (MV w0 w [(m, 70, syC s)] w)) (hs : Hid (SyW s)) (hk : okSy s = true) (h1 : 1 ≤ b) (h2 : b ≤ 1000) (hb : Hid (Blk w gb 3 #[.int .i64 b])) (hg : gb ≠ m) (he : Hid (Edg w0)) :
  Calls Tryz.prog 30 #[.pointer (some ⟨m, 0, none⟩), .pointer (some ⟨gb, 0, none⟩)] w (SdQ w0 w m (fadeS s b)) := by
 have HM := hm
 have LZ := Lib.hid (zr_length 16)
 have HST := Lib.hid (fun (u : World) (h : Hid (MV w0 u [(m, 70, syC s)] u)) => mfade_any s b h hs hk h1 h2 he)
 have HGB := Lib.hid hg
 have HLT := Lib.hid hb.out.lt
 generalize fadeS s b = d at HST ⊢
 clear hm hk he hg h1 h2
 go_enter Tryz.func30, Tryz.ntmps30
 go_upto_region 1 with (first | (refine aQl ?_) | (refine aQs ?_; clear HM; intro us HM; dsimp only [List.set] at HM) | (refine aQt ?_; clear HM HSW; intro us HM HSW; dsimp only [List.set] at HM HSW) | (refine aQv ?_; clear HM; intro us HM; dsimp only [List.set] at HM) | (refine aQb ?_) | (refine aQn ?_; first | (have q:dV HM = 0:=rfl;clear q HM;intro g1 u1 HG1 HM) | (have q:dV HM = 1:=rfl;clear q HM;intro g2 u2 HG2 HM) | (have q:dV HM = 2:=rfl;clear q HM;intro g3 u3 HG3 HM) | (have q:dV HM = 3:=rfl;clear q HM;intro g4 u4 HG4 HM)))
 have hcl := (HM.out.keep hb.out (fun e he => by
  simp only [List.mem_cons, List.not_mem_nil, or_false] at he
  have h1 := HLT.out
  have h2 := HG2.out
  rcases he with rfl | rfl
  ·show g2 ≠ gb; omega
  ·exact HGB.out.symm)).cell 0
 go_wp2_with (first | (refine aQl ?_) | (refine aQs ?_; clear HM; intro us HM; dsimp only [List.set] at HM) | (refine aQt ?_; clear HM HSW; intro us HM HSW; dsimp only [List.set] at HM HSW) | (refine aQv ?_; clear HM; intro us HM; dsimp only [List.set] at HM) | (refine aQb ?_) | (refine aQn ?_; first | (have q:dV HM = 0:=rfl;clear q HM;intro g1 u1 HG1 HM) | (have q:dV HM = 1:=rfl;clear q HM;intro g2 u2 HG2 HM) | (have q:dV HM = 2:=rfl;clear q HM;intro g3 u3 HG3 HM) | (have q:dV HM = 3:=rfl;clear q HM;intro g4 u4 HG4 HM)))
 refine (HST.out _ (Lib.hid (HM.out.sub (by exact q7v)))).mono ?_
 intro e w4 ho
 cases d with
 | error z =>
  obtain ⟨hz, rfl, cs, hm⟩ := ho
  have HZ := Lib.hid hz
  have HM2 := Lib.hid (HM.out.after (by exact q7i) hm)
  clear hz hm HM HST hcl
  have HM := HM2
  clear HM2
  dsimp only [List.set] at HM
  go_wp2_with (first | (refine aQl ?_) | (refine aQs ?_; clear HM; intro us HM; dsimp only [List.set] at HM) | (refine aQt ?_; clear HM HSW; intro us HM HSW; dsimp only [List.set] at HM HSW) | (refine aQv ?_; clear HM; intro us HM; dsimp only [List.set] at HM) | (refine aQb ?_) | (refine aQn ?_; first | (have q:dV HM = 0:=rfl;clear q HM;intro g1 u1 HG1 HM) | (have q:dV HM = 1:=rfl;clear q HM;intro g2 u2 HG2 HM) | (have q:dV HM = 2:=rfl;clear q HM;intro g3 u3 HG3 HM) | (have q:dV HM = 3:=rfl;clear q HM;intro g4 u4 HG4 HM)))
  refine bodyPost_ret (v := .tuple #[.agg (icells (zr 16)), .int .i64 z]) (vres_two rfl _ rfl rfl (by exact q7r) HM (by exact q7m) (by exact q7s)) rfl ⟨HZ.out, rfl, _, (by have HP := HM.out; (repeat (replace HP := HP.popH (by with_reducible assumption))); exact HP)⟩
 | ok r =>
  obtain ⟨s3, p⟩ := r
  obtain ⟨rfl, hw, hp, hm⟩ := ho
  have HSW3 := Lib.hid hw
  have LP := Lib.hid hp
  have HM2 := Lib.hid (HM.out.after (by exact q7i) hm)
  clear hw hp hm HM HST hcl
  have HM := HM2
  clear HM2
  dsimp only [List.set] at HM
  go_wp2_with (first | (refine aQl ?_) | (refine aQs ?_; clear HM; intro us HM; dsimp only [List.set] at HM) | (refine aQt ?_; clear HM HSW; intro us HM HSW; dsimp only [List.set] at HM HSW) | (refine aQv ?_; clear HM; intro us HM; dsimp only [List.set] at HM) | (refine aQb ?_) | (refine aQn ?_; first | (have q:dV HM = 0:=rfl;clear q HM;intro g1 u1 HG1 HM) | (have q:dV HM = 1:=rfl;clear q HM;intro g2 u2 HG2 HM) | (have q:dV HM = 2:=rfl;clear q HM;intro g3 u3 HG3 HM) | (have q:dV HM = 3:=rfl;clear q HM;intro g4 u4 HG4 HM)))
  refine bodyPost_ret (v := .tuple #[.agg (icells p), .int .i64 0]) (vres_two rfl _ rfl rfl (by exact q7r) HM (by exact q7m) (by exact q7s)) rfl ⟨rfl, HSW3.out, LP.out, (by have HP := HM.out; (repeat (replace HP := HP.popH (by with_reducible assumption))); exact HP)⟩
theorem pstep_any (s : Sy) (A : Option Addr) (n c : Nat) (bs : List Nat) (w : World) (hs : Hid (SyW s)) (hr : Hid (Rd w A n bs)) (he : Edg w) :
  Calls Tryz.prog 15 #[.agg (syC s), .slice A n c] w (DsQ w (stepS s bs)) := by
 have HM := Lib.hid (MV.start w)
 have HE := Lib.hid he
 have HSW := hs
 have LZ := Lib.hid (zr_length 16)
 have HSAY := Lib.hid (fun (u : World) (m gb : Nat) (h : Hid (MV w u [(m, 70, syC s)] u)) (hb : Hid (Blk u gb 34 #[.slice A n c])) (hg : gb ≠ m) => say_any s (stepS s bs) 35 #[] #[.pointer (some ⟨m, 0, none⟩), .pointer (some ⟨gb, 0, none⟩)] (enters_of Tryz.func35 (by kernel_rfl) rfl) h hs step_no (Lib.hid fun hk v hv => step1_any s A n c bs (Lib.hid hv.base) hs hk (Lib.hid (hr.out.below hv.1)) (Lib.hid (hv.keep hb.out (fun e he => by
  rw [List.mem_singleton] at he
  subst he
  exact hg.symm))) hg (Lib.hid he)))
 unfold SayQ at HSAY
 clear he hs hr
 go_enter Tryz.func15, Tryz.ntmps15
 go_wp2_with (first | (first | (refine aQl ?_) | (refine aQs ?_; clear HM; intro us HM; dsimp only [List.set] at HM) | (refine aQt ?_; clear HM HSW; intro us HM HSW; dsimp only [List.set] at HM HSW) | (refine aQv ?_; clear HM; intro us HM; dsimp only [List.set] at HM) | (refine aQb ?_) | (refine aQn ?_; first | (have q:dV HM = 0:=rfl;clear q HM;intro g1 u1 HG1 HM) | (have q:dV HM = 1:=rfl;clear q HM;intro g2 u2 HG2 HM) | (have q:dV HM = 2:=rfl;clear q HM;intro g3 u3 HG3 HM) | (have q:dV HM = 3:=rfl;clear q HM;intro g4 u4 HG4 HM) | (have q:dV HM = 4:=rfl;clear q HM;intro g5 u5 HG5 HM) | (have q:dV HM = 5:=rfl;clear q HM;intro g6 u6 HG6 HM))) | (refine aBn ?_; first | (have q:dV HM = 0:=rfl;clear q HM;intro g1 u1 HG1 HM) | (have q:dV HM = 1:=rfl;clear q HM;intro g2 u2 HG2 HM) | (have q:dV HM = 2:=rfl;clear q HM;intro g3 u3 HG3 HM) | (have q:dV HM = 3:=rfl;clear q HM;intro g4 u4 HG4 HM) | (have q:dV HM = 4:=rfl;clear q HM;intro g5 u5 HG5 HM) | (have q:dV HM = 5:=rfl;clear q HM;intro g6 u6 HG6 HM)))
 refine (HSAY.out _ g5 g2 (Lib.hid (HM.out.sub (by exact q7v))) (Lib.hid (HM.out.get (by exact q7m))) (by have h := HM.out.2.2.2.1; intro e; subst e; simp at h)).mono ?_
 rintro e w4 ⟨rfl, ⟨cs, hm⟩, hf⟩
 have HF := Lib.hid hf
 obtain ⟨s3, p, z, hw, hp, hv⟩ := dsV_form _ hf
 rw [hv]
 have HV := Lib.hid hv
 have HSW3 := Lib.hid hw
 have LP := Lib.hid hp
 have HM2 := Lib.hid (HM.out.after (by exact q7i) hm)
 clear hw hp hm HM HSAY hv hf
 have HM := HM2
 clear HM2
 dsimp only [List.set] at HM
 go_wp2_with (first | (refine aQl ?_) | (refine aQs ?_; clear HM; intro us HM; dsimp only [List.set] at HM) | (refine aQt ?_; clear HM HSW; intro us HM HSW; dsimp only [List.set] at HM HSW) | (refine aQv ?_; clear HM; intro us HM; dsimp only [List.set] at HM) | (refine aQb ?_) | (refine aQn ?_; first | (have q:dV HM = 0:=rfl;clear q HM;intro g1 u1 HG1 HM) | (have q:dV HM = 1:=rfl;clear q HM;intro g2 u2 HG2 HM) | (have q:dV HM = 2:=rfl;clear q HM;intro g3 u3 HG3 HM) | (have q:dV HM = 3:=rfl;clear q HM;intro g4 u4 HG4 HM) | (have q:dV HM = 4:=rfl;clear q HM;intro g5 u5 HG5 HM) | (have q:dV HM = 5:=rfl;clear q HM;intro g6 u6 HG6 HM)))
 refine bodyPost_ret (v := .tuple #[.agg (syC s3), .agg (icells p), .int .i64 z]) (vres_css rfl _ rfl rfl rfl rowSyn (by exact q7r) HM (by exact q7m) (by exact q7m) (by exact q7z) (by exact q7s)) rfl ⟨by rw [HV.out], HM.out.1, HF.out⟩
theorem pfade_any (s : Sy) (b : Int) (w : World) (hs : Hid (SyW s)) (h1 : 1 ≤ b) (h2 : b ≤ 1000) (he : Edg w) :
  Calls Tryz.prog 12 #[.agg (syC s), .int .i64 b] w (DsQ w (fadeS s b)) := by
 have HM := Lib.hid (MV.start w)
 have HE := Lib.hid he
 have HSW := hs
 have LZ := Lib.hid (zr_length 16)
 have HSAY := Lib.hid (fun (u : World) (m gb : Nat) (h : Hid (MV w u [(m, 70, syC s)] u)) (hb : Hid (Blk u gb 3 #[.int .i64 b])) (hg : gb ≠ m) => say_any s (fadeS s b) 30 #[] #[.pointer (some ⟨m, 0, none⟩), .pointer (some ⟨gb, 0, none⟩)] (enters_of Tryz.func30 (by kernel_rfl) rfl) h hs fade_no (Lib.hid fun hk v hv => fade1_any s b (Lib.hid hv.base) hs hk h1 h2 (Lib.hid (hv.keep hb.out (fun e he => by
  rw [List.mem_singleton] at he
  subst he
  exact hg.symm))) hg (Lib.hid he)))
 unfold SayQ at HSAY
 clear he hs h1 h2
 go_enter Tryz.func12, Tryz.ntmps12
 go_wp2_with (first | (first | (refine aQl ?_) | (refine aQs ?_; clear HM; intro us HM; dsimp only [List.set] at HM) | (refine aQt ?_; clear HM HSW; intro us HM HSW; dsimp only [List.set] at HM HSW) | (refine aQv ?_; clear HM; intro us HM; dsimp only [List.set] at HM) | (refine aQb ?_) | (refine aQn ?_; first | (have q:dV HM = 0:=rfl;clear q HM;intro g1 u1 HG1 HM) | (have q:dV HM = 1:=rfl;clear q HM;intro g2 u2 HG2 HM) | (have q:dV HM = 2:=rfl;clear q HM;intro g3 u3 HG3 HM) | (have q:dV HM = 3:=rfl;clear q HM;intro g4 u4 HG4 HM) | (have q:dV HM = 4:=rfl;clear q HM;intro g5 u5 HG5 HM) | (have q:dV HM = 5:=rfl;clear q HM;intro g6 u6 HG6 HM))) | (refine aBn ?_; first | (have q:dV HM = 0:=rfl;clear q HM;intro g1 u1 HG1 HM) | (have q:dV HM = 1:=rfl;clear q HM;intro g2 u2 HG2 HM) | (have q:dV HM = 2:=rfl;clear q HM;intro g3 u3 HG3 HM) | (have q:dV HM = 3:=rfl;clear q HM;intro g4 u4 HG4 HM) | (have q:dV HM = 4:=rfl;clear q HM;intro g5 u5 HG5 HM) | (have q:dV HM = 5:=rfl;clear q HM;intro g6 u6 HG6 HM)))
 refine (HSAY.out _ g5 g2 (Lib.hid (HM.out.sub (by exact q7v))) (Lib.hid (HM.out.get (by exact q7m))) (by have h := HM.out.2.2.2.1; intro e; subst e; simp at h)).mono ?_
 rintro e w4 ⟨rfl, ⟨cs, hm⟩, hf⟩
 have HF := Lib.hid hf
 obtain ⟨s3, p, z, hw, hp, hv⟩ := dsV_form _ hf
 rw [hv]
 have HV := Lib.hid hv
 have HSW3 := Lib.hid hw
 have LP := Lib.hid hp
 have HM2 := Lib.hid (HM.out.after (by exact q7i) hm)
 clear hw hp hm HM HSAY hv hf
 have HM := HM2
 clear HM2
 dsimp only [List.set] at HM
 go_wp2_with (first | (refine aQl ?_) | (refine aQs ?_; clear HM; intro us HM; dsimp only [List.set] at HM) | (refine aQt ?_; clear HM HSW; intro us HM HSW; dsimp only [List.set] at HM HSW) | (refine aQv ?_; clear HM; intro us HM; dsimp only [List.set] at HM) | (refine aQb ?_) | (refine aQn ?_; first | (have q:dV HM = 0:=rfl;clear q HM;intro g1 u1 HG1 HM) | (have q:dV HM = 1:=rfl;clear q HM;intro g2 u2 HG2 HM) | (have q:dV HM = 2:=rfl;clear q HM;intro g3 u3 HG3 HM) | (have q:dV HM = 3:=rfl;clear q HM;intro g4 u4 HG4 HM) | (have q:dV HM = 4:=rfl;clear q HM;intro g5 u5 HG5 HM) | (have q:dV HM = 5:=rfl;clear q HM;intro g6 u6 HG6 HM)))
 refine bodyPost_ret (v := .tuple #[.agg (syC s3), .agg (icells p), .int .i64 z]) (vres_css rfl _ rfl rfl rfl rowSyn (by exact q7r) HM (by exact q7m) (by exact q7m) (by exact q7z) (by exact q7s)) rfl ⟨by rw [HV.out], HM.out.1, HF.out⟩
theorem prest_any (s : Sy) (w : World) (hs : Hid (SyW s)) (he : Edg w) :
  Calls Tryz.prog 18 #[.agg (syC s)] w (DsQ w (restS s)) := by
 have HM := Lib.hid (MV.start w)
 have HE := Lib.hid he
 have HSW := hs
 have LZ := Lib.hid (zr_length 16)
 have HSAY := Lib.hid (fun (u : World) (m : Nat) (h : Hid (MV w u [(m, 70, syC s)] u)) => say_any s (restS s) 39 #[.pointer (some ⟨m, 0, none⟩)] #[] (enters_of Tryz.func39 (by kernel_rfl) rfl) h hs rest_no (Lib.hid fun hk v hv => mrest_any s (Lib.hid hv.base) hs hk (Lib.hid he)))
 unfold SayQ at HSAY
 clear he hs
 go_enter Tryz.func18, Tryz.ntmps18
 go_wp2_with (first | (refine aQl ?_) | (refine aQs ?_; clear HM; intro us HM; dsimp only [List.set] at HM) | (refine aQt ?_; clear HM HSW; intro us HM HSW; dsimp only [List.set] at HM HSW) | (refine aQv ?_; clear HM; intro us HM; dsimp only [List.set] at HM) | (refine aQb ?_) | (refine aQn ?_; first | (have q:dV HM = 0:=rfl;clear q HM;intro g1 u1 HG1 HM) | (have q:dV HM = 1:=rfl;clear q HM;intro g2 u2 HG2 HM) | (have q:dV HM = 2:=rfl;clear q HM;intro g3 u3 HG3 HM) | (have q:dV HM = 3:=rfl;clear q HM;intro g4 u4 HG4 HM) | (have q:dV HM = 4:=rfl;clear q HM;intro g5 u5 HG5 HM)))
 refine (HSAY.out _ g4 (Lib.hid (HM.out.sub (by exact q7v)))).mono ?_
 rintro e w4 ⟨rfl, ⟨cs, hm⟩, hf⟩
 have HF := Lib.hid hf
 obtain ⟨s3, p, z, hw, hp, hv⟩ := dsV_form _ hf
 rw [hv]
 have HV := Lib.hid hv
 have HSW3 := Lib.hid hw
 have LP := Lib.hid hp
 have HM2 := Lib.hid (HM.out.after (by exact q7i) hm)
 clear hw hp hm HM HSAY hv hf
 have HM := HM2
 clear HM2
 dsimp only [List.set] at HM
 go_wp2_with (first | (refine aQl ?_) | (refine aQs ?_; clear HM; intro us HM; dsimp only [List.set] at HM) | (refine aQt ?_; clear HM HSW; intro us HM HSW; dsimp only [List.set] at HM HSW) | (refine aQv ?_; clear HM; intro us HM; dsimp only [List.set] at HM) | (refine aQb ?_) | (refine aQn ?_; first | (have q:dV HM = 0:=rfl;clear q HM;intro g1 u1 HG1 HM) | (have q:dV HM = 1:=rfl;clear q HM;intro g2 u2 HG2 HM) | (have q:dV HM = 2:=rfl;clear q HM;intro g3 u3 HG3 HM) | (have q:dV HM = 3:=rfl;clear q HM;intro g4 u4 HG4 HM) | (have q:dV HM = 4:=rfl;clear q HM;intro g5 u5 HG5 HM)))
 refine bodyPost_ret (v := .tuple #[.agg (syC s3), .agg (icells p), .int .i64 z]) (vres_css rfl _ rfl rfl rfl rowSyn (by exact q7r) HM (by exact q7m) (by exact q7m) (by exact q7z) (by exact q7s)) rfl ⟨by rw [HV.out], HM.out.1, HF.out⟩
theorem aggBl (w : World) : (isAgg 4).run Tryz.prog w = .ok false w := by kernel_rfl
theorem aggUl (w : World) : (isAgg 30).run Tryz.prog w = .ok false w := by kernel_rfl
theorem part_cell {T : TypeId} (hg : ∀ w, (isAgg T).run Tryz.prog w = .ok false w) {xs : Array Value} {o : Nat} {v : Value} {w : World} (h : xs[o]? = some v) : (part T xs o).run Tryz.prog w = .ok v w := by
 simp only [part, Sem.run_bind, hg, Result.andThen_ok, Bool.false_eq_true, if_false, h, Sem.run_pure]
theorem extract_at {xs : Array Value} {o n : Nat} {ds : List Value} (hl : ds.length = n) (h : ∀ j v, ds[j]? = some v → xs[o + j]? = some v) : xs.extract o (o + n) = ds.toArray := by
 have hfit : o + n ≤ xs.size ∨ n = 0 := by
  rcases Nat.eq_zero_or_pos n with hn | hn
  ·exact .inr hn
  ·have h1 : ds[n - 1]? = some ds[n - 1] := List.getElem?_eq_getElem (by omega)
   have := (Array.getElem?_eq_some_iff.1 (h _ _ h1)).1
   exact .inl (by omega)
 refine Array.ext_getElem? fun j => ?_
 have hd : ds.toArray[j]? = ds[j]? := by simp
 rw [Array.getElem?_extract, hd]
 have hm := Nat.min_le_left (o + n) xs.size
 by_cases hj : j < n
 ·have h1 : ds[j]? = some ds[j] := List.getElem?_eq_getElem (by omega)
  rcases hfit with hf | hf
  ·have hq : j < min (o + n) xs.size - o := by rw [Nat.min_eq_left hf]; omega
   rw [if_pos hq, h _ _ h1, h1]
  ·omega
 ·rw [List.getElem?_eq_none (by omega)]
  split
  ·rename_i h2; omega
  ·rfl
theorem part_mid {T : TypeId} {n : Nat} (hT : Arr T n) {xs : Array Value} {ys : List Int} {o : Nat} {w : World} (hl : ys.length = n) (h : ∀ j v, (icl ys)[j]? = some v → xs[o + j]? = some v) : (part T xs o).run Tryz.prog w = .ok (.agg (icells ys)) w := by
 obtain ⟨d, h1, h2⟩ := hT.1
 have ha : (isAgg T).run Tryz.prog w = .ok true w := by
  simp only [isAgg, Sem.run_bind, run_underlying h1, Result.andThen_ok]
  cases d <;> first | rfl | cases h2
 have hs : (sizeOf T).run Tryz.prog w = .ok n w := by
  have hz := hT.size
  cases hq : Tryz.prog.info? T with
  | none => rw [hq] at hz; cases hz
  | some i =>
   rw [hq] at hz
   injection hz with hz
   rw [run_sizeOf w hq]
   unfold Program.cellsOf
   rw [hq]
   simp [hz]
 have he : xs.extract o (o + n) = icells ys := extract_at (ds := icl ys) ((icl_length ys).trans hl) h
 simp only [part, Sem.run_bind, ha, Result.andThen_ok, if_true, hs, Sem.run_pure, he]
theorem flds_syn : (Tryz.prog.fieldsOf 32).toList.map (fun f => (f.name, f.type, f.offset)) = [("T", 27, 0), ("L", 29, 16), ("Live", 4, 22), ("Hush", 4, 23), ("Seed", 30, 24)] := by kernel_rfl
theorem und_syn : Tryz.prog.underlying 32 = some (.struct (Tryz.prog.fieldsOf 32)) := by kernel_rfl
theorem held_syn : Tryz.prog.stoodInHeld 32 = false := by kernel_rfl
theorem grdSyn : Tryz.prog.eqGuardType Tryz.prog.depth 32 = false := by kernel_rfl
theorem run_eq_sy {s t : Sy} (hs : SyW s) (ht : SyW t) (w : World) :
  (Op.equalIn 10000 32 (.agg (syC s)) (.agg (syC t))).run Tryz.prog w = .ok (decide (s.t = t.t) && (decide (s.l = t.l) && (decide (s.live = t.live) && (decide (s.hush = t.hush) && decide (s.seed = t.seed))))) w := by
 have hU : Tryz.prog.underlying 30 = some (.int .u32) := by kernel_rfl
 have hB : Tryz.prog.underlying 4 = some .bool := by kernel_rfl
 have h5 := run_equalIn_int (P := Tryz.prog) w 9998 30 .u32 .u32 s.seed t.seed hU
 rw [show (s.seed == t.seed) = decide (s.seed = t.seed) from rfl] at h5
 have hbb : ∀ a b : Bool, (Op.equalIn 9999 4 (.bool a) (.bool b)).run Tryz.prog w = .ok (decide (a = b)) w := fun a b => by cases a <;> cases b <;> kernel_rfl
 rw [run_equalIn_struct w 9999 32 (syC s) (syC t) und_syn held_syn]
 exact eq_five flds_syn (part_mid arrTail hs.lt (syC_t s)) (part_mid arrTail ht.lt (syC_t t)) (run_eqL 9997 27 (n := 16) (by kernel_rfl) s.t t.t hs.lt ht.lt w)
  (part_mid arrLev hs.ll (syC_l hs)) (part_mid arrLev ht.ll (syC_l ht)) (run_eqL 9997 29 (n := 6) (by kernel_rfl) s.l t.l hs.ll ht.ll w)
  (part_cell aggBl (syC_e hs (k := 0) rfl)) (part_cell aggBl (syC_e ht (k := 0) rfl)) (hbb _ _)
  (part_cell aggBl (syC_e hs (k := 1) rfl)) (part_cell aggBl (syC_e ht (k := 1) rfl)) (hbb _ _)
  (part_cell aggUl (syC_e hs (k := 2) rfl)) (part_cell aggUl (syC_e ht (k := 2) rfl)) h5
theorem run_same_sy {s : Sy} (hs : SyW s) (w : World) : (Op.equalIn 10000 32 (.agg (syC s)) (.agg (syC s))).run Tryz.prog w = .ok true w := by
 have h := run_eq_sy hs hs w
 simp only [decide_true, Bool.and_self] at h
 exact h
open Yr (rdR rd_one rd_back Fr chkB chkB_iff gsR_len rdR_gs gsR_parts wrB symsP headP lvP inB kindR)
theorem sumZ (f : Nat → Int) : ∀ n : Nat, (∀ k, k < n → f k = 0) → sumN f n = 0
 | 0, _ => rfl
 | n + 1, h => by rw [sumN_succ, sumZ f n fun k hk => h k (by omega), h n (by omega)]; rfl
theorem inv_zr : invL (zr 16) = zr 32 := by
 refine Eq.trans (tab_congr fun n _ => ?_) (tab_zero 32)
 unfold inv
 rw [show mixN (zr 16) n = 0 from sumZ _ 16 fun k _ => by rw [zr_getD, Int.zero_mul], round20]
 rw [show (0 : Int) / 1048576 + 0 / 524288 % 2 = 0 by decide, Int.zero_mul, round27]
 rfl
theorem left_zr : leftL (zr 32) = zr 16 := Eq.trans (tab_congr fun _ _ => zr_getD _ _) (tab_zero 16)
theorem lap_zr : lapL (zr 16) (zr 32) = zr 16 := by decide +kernel
theorem snd_zr (s : Sy) : sndS s (zr 16) = ({ s with t := zr 16 }, lapL s.t (zr 32)) := by
 unfold sndS
 rw [inv_zr, left_zr]
theorem rest_plain {s : Sy} (hc : okSy s = true) (hh : s.hush = false) : restS s = .ok ({ s with t := zr 16, live := false }, lapL s.t (zr 32)) := by
 unfold restS
 rw [if_pos hc, if_neg (by rw [hh]; exact Bool.false_ne_true), snd_zr]
open Yr (rdR rd_one rd_back Fr chkB chkB_iff wrB)
theorem one_ok : okSy Sy.one = true := by decide +kernel
theorem great_zr : greatL (zr 16) (zr 6) = zr 16 := by decide +kernel
theorem live_rest : restS Sy.one = .ok (Sy.one, zr 16) := by
 rw [rest_plain one_ok rfl, show Sy.one.t = zr 16 from rfl, lap_zr]
 rfl
theorem live_step : stepS Sy.one (wrB 0 (zr 6) (zr 16) (zr 6)) = .ok (⟨zr 16, zr 6, true, false, 1⟩, zr 16) := by
 unfold stepS
 rw [if_pos one_ok, show Sy.one.l = zr 6 from rfl, rd_back ((chkB_iff _ _ _ _).1 zero_may) (zr_length 6) (zr_length 16)]
 dsimp only
 rw [if_neg (by decide), if_neg (by decide), great_zr, snd_zr, show Sy.one.t = zr 16 from rfl, lap_zr]
 rfl
theorem dlive_any (w : World) (he : Edg w) : Calls Tryz.prog 9 #[] w (ValQ w (.bool true)) := by
 have HM := Lib.hid (MV.start w)
 have HE := Lib.hid he
 have LZ := Lib.hid (zr_length 16)
 have LZ3 := Lib.hid (zr_length 23)
 have LZ6 := Lib.hid (zr_length 6)
 have hgd := grdPcm
 have heq := fun u => run_equalIn_same 35 (n := 16) (by kernel_rfl) (zr 16) (zr_length 16) u
 clear he
 go_enter Tryz.func9, Tryz.ntmps9
 go_wp2_with (first | (refine aQl ?_) | (refine aQs ?_; clear HM; intro us HM; dsimp only [List.set] at HM) | (refine aQt ?_; clear HM HSW; intro us HM HSW; dsimp only [List.set] at HM HSW) | (refine aQv ?_; clear HM; intro us HM; dsimp only [List.set] at HM) | (refine aQb ?_) | (refine aQn ?_; first | (have q:dV HM = 0:=rfl;clear q HM;intro g1 u1 HG1 HM) | (have q:dV HM = 1:=rfl;clear q HM;intro g2 u2 HG2 HM) | (have q:dV HM = 2:=rfl;clear q HM;intro g3 u3 HG3 HM) | (have q:dV HM = 3:=rfl;clear q HM;intro g4 u4 HG4 HM)))
 refine (pstart_any _).mono ?_
 rintro e w2 ⟨rfl, hb⟩
 replace HM := Lib.hid (HM.out.below hb)
 clear hb
 go_wp2_with (first | (refine aQl ?_) | (refine aQs ?_; clear HM; intro us HM; dsimp only [List.set] at HM) | (refine aQt ?_; clear HM HSW; intro us HM HSW; dsimp only [List.set] at HM HSW) | (refine aQv ?_; clear HM; intro us HM; dsimp only [List.set] at HM) | (refine aQb ?_) | (refine aQn ?_; first | (have q:dV HM = 0:=rfl;clear q HM;intro g1 u1 HG1 HM) | (have q:dV HM = 1:=rfl;clear q HM;intro g2 u2 HG2 HM) | (have q:dV HM = 2:=rfl;clear q HM;intro g3 u3 HG3 HM) | (have q:dV HM = 3:=rfl;clear q HM;intro g4 u4 HG4 HM)))
 refine (prest_any Sy.one _ (Lib.hid syW_one) (HE.out.below HM.out.1)).mono ?_
 rw [live_rest]
 rintro e w3 ⟨rfl, hb, -⟩
 dsimp only [dsV]
 replace HM := Lib.hid (HM.out.below hb)
 clear hb
 obtain ⟨S, hS⟩ : ∃ S, S = Sy.one := ⟨_, rfl⟩
 rw [← hS]
 have HSW := Lib.hid (show SyW S by rw [hS]; exact syW_one)
 have HS1 := Lib.hid hS
 have d1 : (S.seed == 1) = true := by rw [hS]; rfl
 clear hS
 go_wp2_with (first | (refine wv_zeroF rfl rfl ?_) | (first | (refine aQl ?_) | (refine aQs ?_; clear HM; intro us HM; dsimp only [List.set] at HM) | (refine aQt ?_; clear HM HSW; intro us HM HSW; dsimp only [List.set] at HM HSW) | (refine aQv ?_; clear HM; intro us HM; dsimp only [List.set] at HM) | (refine aQb ?_) | (refine aQn ?_; first | (have q:dV HM = 0:=rfl;clear q HM;intro g1 u1 HG1 HM) | (have q:dV HM = 1:=rfl;clear q HM;intro g2 u2 HG2 HM) | (have q:dV HM = 2:=rfl;clear q HM;intro g3 u3 HG3 HM) | (have q:dV HM = 3:=rfl;clear q HM;intro g4 u4 HG4 HM))) | (first | (refine wv_zeroF rfl rfl ?_) | (first | (refine aVn ?_; first | (have q:dV HM = 0:=rfl;clear q HM;intro g1 u1 HG1 HM) | (have q:dV HM = 1:=rfl;clear q HM;intro g2 u2 HG2 HM) | (have q:dV HM = 2:=rfl;clear q HM;intro g3 u3 HG3 HM) | (have q:dV HM = 3:=rfl;clear q HM;intro g4 u4 HG4 HM)) | (refine aVl ?_) | (refine aVs ?_; clear HM; intro us HM; dsimp only [List.set] at HM) | (refine aZe ?_)) | (refine aVe ?_) | (refine aVp ?_; clear HM; intro us HM; dsimp only [List.set] at HM) | (refine aXl ?_)))
 refine (fwrite_any (zr 23) 0 (zr 6) (zr 16) (zr 6) _ frS_zero (zr_length 6) (HE.out.below HM.out.1)).mono ?_
 intro e w2 ho
 unfold WrOut at ho
 rw [if_pos zero_may] at ho
 obtain ⟨A, n, c, rfl, hr, hb⟩ := ho
 have HR := Lib.hid hr
 replace HM := Lib.hid (HM.out.below hb)
 clear hr hb
 go_wp2_with (first | (refine wv_zeroF rfl rfl ?_) | (first | (refine aQl ?_) | (refine aQs ?_; clear HM; intro us HM; dsimp only [List.set] at HM) | (refine aQt ?_; clear HM HSW; intro us HM HSW; dsimp only [List.set] at HM HSW) | (refine aQv ?_; clear HM; intro us HM; dsimp only [List.set] at HM) | (refine aQb ?_) | (refine aQn ?_; first | (have q:dV HM = 0:=rfl;clear q HM;intro g1 u1 HG1 HM) | (have q:dV HM = 1:=rfl;clear q HM;intro g2 u2 HG2 HM) | (have q:dV HM = 2:=rfl;clear q HM;intro g3 u3 HG3 HM) | (have q:dV HM = 3:=rfl;clear q HM;intro g4 u4 HG4 HM))) | (first | (refine wv_zeroF rfl rfl ?_) | (first | (refine aVn ?_; first | (have q:dV HM = 0:=rfl;clear q HM;intro g1 u1 HG1 HM) | (have q:dV HM = 1:=rfl;clear q HM;intro g2 u2 HG2 HM) | (have q:dV HM = 2:=rfl;clear q HM;intro g3 u3 HG3 HM) | (have q:dV HM = 3:=rfl;clear q HM;intro g4 u4 HG4 HM)) | (refine aVl ?_) | (refine aVs ?_; clear HM; intro us HM; dsimp only [List.set] at HM) | (refine aZe ?_)) | (refine aVe ?_) | (refine aVp ?_; clear HM; intro us HM; dsimp only [List.set] at HM) | (refine aXl ?_)))
 refine (pstep_any S A n c _ _ HSW HR (HE.out.below HM.out.1)).mono ?_
 rw [HS1.out, live_step]
 rintro e w3 ⟨rfl, hb, hw, -⟩
 dsimp only [dsV]
 rw [← HS1.out]
 have HM2 := Lib.hid (HM.out.below hb)
 obtain ⟨S2, hS2⟩ : ∃ S2, S2 = Sy.mk (zr 16) (zr 6) true false 1 := ⟨_, rfl⟩
 rw [← hS2] at hw ⊢
 have HSW2 := Lib.hid hw
 have HLV := Lib.hid (show S2.live = true by rw [hS2])
 have HHU := Lib.hid (show S2.hush = false by rw [hS2])
 clear hb HM hw hS2 HR HS1
 have HM := HM2
 clear HM2
 go_wp2_with (first | (refine q8w (by rfl) ?_) | (first | (refine aQl ?_) | (refine aQs ?_; clear HM; intro us HM; dsimp only [List.set] at HM) | (refine aQt ?_; clear HM HSW; intro us HM HSW; dsimp only [List.set] at HM HSW) | (refine aQv ?_; clear HM; intro us HM; dsimp only [List.set] at HM) | (refine aQb ?_) | (refine aQn ?_; first | (have q:dV HM = 0:=rfl;clear q HM;intro g1 u1 HG1 HM) | (have q:dV HM = 1:=rfl;clear q HM;intro g2 u2 HG2 HM) | (have q:dV HM = 2:=rfl;clear q HM;intro g3 u3 HG3 HM) | (have q:dV HM = 3:=rfl;clear q HM;intro g4 u4 HG4 HM))) | (first | (refine wv_zeroF rfl rfl ?_) | (first | (refine aVn ?_; first | (have q:dV HM = 0:=rfl;clear q HM;intro g1 u1 HG1 HM) | (have q:dV HM = 1:=rfl;clear q HM;intro g2 u2 HG2 HM) | (have q:dV HM = 2:=rfl;clear q HM;intro g3 u3 HG3 HM) | (have q:dV HM = 3:=rfl;clear q HM;intro g4 u4 HG4 HM)) | (refine aVl ?_) | (refine aVs ?_; clear HM; intro us HM; dsimp only [List.set] at HM) | (refine aZe ?_)) | (refine aVe ?_) | (refine aVp ?_; clear HM; intro us HM; dsimp only [List.set] at HM) | (refine aXl ?_)))
 go_ret
 exact ⟨rfl, HM.out.1⟩
structure Bts where
 A : Option Addr
 n : Nat
 c : Nat
 bs : List Nat
def RdBB (w : World) (AL : Option Addr) (n : Nat) (ls : List Bts) : Prop :=
 ls.length = n ∧ (0 < n → ∃ L, AL = some L ∧ ∀ j x, ls[j]? = some x → w.cell? (L.add j) = some (.slice x.A x.n x.c) ∧ Rd w x.A x.n x.bs)
theorem RdBB.keep {w w' : World} {AL : Option Addr} {n : Nat} {ls : List Bts} (h : RdBB w AL n ls) (hb : Below w.heap.size w w') : RdBB w' AL n ls := by
 refine ⟨h.1, fun hn => ?_⟩
 obtain ⟨L, e, hc⟩ := h.2 hn
 refine ⟨L, e, fun j x hx => ?_⟩
 obtain ⟨h1, h3⟩ := hc j x hx
 exact ⟨(hb.cell (World.block_lt_of_cell? _ _ h1)).trans h1, h3.below hb⟩
theorem RdBB.at_ {w : World} {AL : Option Addr} {n k : Nat} {ls : List Bts} (h : RdBB w AL n ls) (hk : k < n) : ∃ L x, AL = some L ∧ ls[k]? = some x ∧ w.cell? (L.add k) = some (.slice x.A x.n x.c) ∧ Rd w x.A x.n x.bs := by
 obtain ⟨L, e, hc⟩ := h.2 (by omega)
 have hl : k < ls.length := by have := h.1; omega
 have hx : ls[k]? = some ls[k] := List.getElem?_eq_getElem hl
 obtain ⟨h1, h2⟩ := hc k _ hx
 exact ⟨L, ls[k], e, hx, h1, h2⟩
def fewB (ls : List Bts) : Bool := ls.all (fun x => decide (x.n ≤ 300)) && decide (ls.length ≤ 30)
theorem fewB_no {ls : List Bts} {k : Nat} {x : Bts} (hx : ls[k]? = some x) (h : ¬ x.n ≤ 300) : fewB ls = false := by
 unfold fewB
 rw [Bool.and_eq_false_iff]
 refine .inl ?_
 rw [Bool.eq_false_iff]
 intro ha
 rw [List.all_eq_true] at ha
 exact h (of_decide_eq_true (ha x (List.mem_of_getElem? hx)))
theorem fewB_all {ls : List Bts} (h : ∀ j x, j < ls.length → ls[j]? = some x → x.n ≤ 300) : fewB ls = decide (ls.length ≤ 30) := by
 unfold fewB
 rw [show ls.all (fun x => decide (x.n ≤ 300)) = true by
  rw [List.all_eq_true]
  intro x hx
  obtain ⟨j, hj⟩ := List.mem_iff_getElem?.1 hx
  exact decide_eq_true (h j x (List.getElem?_eq_some_iff.1 hj).1 hj), Bool.true_and]
theorem fewB_iff {ls : List Bts} (h : fewB ls = true) : ls.length ≤ 30 ∧ ∀ x ∈ ls, x.n ≤ 300 := by
 unfold fewB at h
 rw [Bool.and_eq_true, List.all_eq_true] at h
 exact ⟨of_decide_eq_true h.2, fun x hx => of_decide_eq_true (h.1 x hx)⟩
theorem dfew_any (AL : Option Addr) (n cap : Nat) (ls : List Bts) (b : Bool) (w : World) (h : Hid (RdBB w AL n ls)) (hn : n ≤ maxLen) (hb : fewB ls = b) :
  Calls Tryz.prog 10 #[.slice AL n cap] w (ValQ w (.bool b)) := by
 have HB := Lib.hid hb
 have h1 : n ≤ 9223372036854775807 := by unfold maxLen at hn; omega
 clear hb hn
 go_enter Tryz.func10, Tryz.ntmps10
 go_wp2_with fail
 go_loop [4, 7] (fun _ vi => ∃ k : Nat, vi = .int .i64 (k : Int) ∧ k ≤ n ∧ Hid (∀ j x, j < k → ls[j]? = some x → x.n ≤ 300)) (fun _ vi => n - (intOf vi).toNat)
 case atStart => exact ⟨0, rfl, by omega, Lib.hid (fun j x hj => by omega)⟩
 case round =>
  obtain ⟨k, rfl, hk, HK⟩ := hrel
  by_cases hlt : k < n
  ·have kn : (k : Int) < (n : Int) := by omega
   obtain ⟨L, x, rfl, hx, x0, -⟩ := h.out.at_ hlt
   have HX := Lib.hid hx
   clear hx
   by_cases h3 : x.n ≤ 300
   ·have d1 : ¬ (300 : Int) < (x.n : Int) := by omega
    go_wp2_with fail
    go_round
    case rel =>
     refine ⟨k + 1, by go_num, by omega, Lib.hid fun j y hj hy => ?_⟩
     by_cases hjk : j < k
     ·exact HK.out j y hjk hy
     ·obtain rfl : j = k := by omega
      rw [HX.out] at hy
      injection hy with hy
      rw [← hy]; exact h3
    case measure => simp [intOf]; omega
   ·have d1 : (300 : Int) < (x.n : Int) := by omega
    obtain rfl : b = false := by rw [← HB.out]; exact fewB_no HX.out h3
    go_wp2_with fail
    go_ret
    exact ⟨rfl, Below.refl _ _⟩
  ·obtain rfl : k = n := by omega
   have hlen := h.out.1
   have e : b = decide (k ≤ 30) := by rw [← HB.out, fewB_all (fun j x hj hx => HK.out j x (by omega) hx), hlen]
   by_cases h3 : k ≤ 30
   ·have d1 : decide ((k : Int) ≤ 30) = true := decide_eq_true (by omega)
    obtain rfl : b = true := by rw [e]; exact decide_eq_true h3
    clear e hlen h3 HB HK
    go_wp2_with fail
    go_ret
    exact ⟨rfl, Below.refl _ _⟩
   ·have d1 : decide ((k : Int) ≤ 30) = false := decide_eq_false (by omega)
    obtain rfl : b = false := by rw [e]; exact decide_eq_false h3
    clear e hlen h3 HB HK
    go_wp2_with fail
    go_ret
    exact ⟨rfl, Below.refl _ _⟩
theorem rdcheck_any (s : Sy) (z : Int) (w : World) (hs : Hid (SyW s)) (hz : (if okSy s = true then 0 else 1) = z) :
  Calls Tryz.prog 14 #[.agg (syC s)] w (ValQ w (.int .i64 z)) := by
 have HM := Lib.hid (MV.start w)
 have HSW := hs
 have HT := Lib.hid (fun b hb u => mayT_any s.t b u hs.out.lt hb)
 have HB := Lib.hid (fun c z hc hz u => rbcheck_any s.l c z u hs.out.ll hc hz)
 unfold okSy at hz
 clear hs
 cases h1 : okW s.t with
 | false =>
  rw [h1] at hz
  obtain rfl : z = 1 := by rw [← hz]; rfl
  have HC := Lib.hid (HT.out false h1)
  clear hz h1 HT HB
  go_enter Tryz.func14, Tryz.ntmps14
  go_wp2_with (first | (refine aQl ?_) | (refine aQs ?_; clear HM; intro us HM; dsimp only [List.set] at HM) | (refine aQt ?_; clear HM HSW; intro us HM HSW; dsimp only [List.set] at HM HSW) | (refine aQv ?_; clear HM; intro us HM; dsimp only [List.set] at HM) | (refine aQb ?_) | (refine aQn ?_; first | (have q:dV HM = 0:=rfl;clear q HM;intro g1 u1 HG1 HM) | (have q:dV HM = 1:=rfl;clear q HM;intro g2 u2 HG2 HM) | (have q:dV HM = 2:=rfl;clear q HM;intro g3 u3 HG3 HM) | (have q:dV HM = 3:=rfl;clear q HM;intro g4 u4 HG4 HM)))
  refine (HC.out _).mono ?_
  rintro e w3 ⟨rfl, hb⟩
  replace HM := Lib.hid (HM.out.below hb)
  clear hb HC
  go_wp2_with (first | (refine q8w (by rfl) ?_) | (first | (refine aQl ?_) | (refine aQs ?_; clear HM; intro us HM; dsimp only [List.set] at HM) | (refine aQt ?_; clear HM HSW; intro us HM HSW; dsimp only [List.set] at HM HSW) | (refine aQv ?_; clear HM; intro us HM; dsimp only [List.set] at HM) | (refine aQb ?_) | (refine aQn ?_; first | (have q:dV HM = 0:=rfl;clear q HM;intro g1 u1 HG1 HM) | (have q:dV HM = 1:=rfl;clear q HM;intro g2 u2 HG2 HM) | (have q:dV HM = 2:=rfl;clear q HM;intro g3 u3 HG3 HM) | (have q:dV HM = 3:=rfl;clear q HM;intro g4 u4 HG4 HM))))
  go_ret
  exact ⟨rfl, HM.out.1⟩
 | true =>
  rw [h1] at hz
  have HC := Lib.hid (HT.out true h1)
  clear h1 HT
  cases h2 : chkL s.l with
  | false =>
   rw [h2] at hz
   obtain rfl : z = 1 := by rw [← hz]; rfl
   have HD := Lib.hid (HB.out false 1 h2 rfl)
   clear hz h2 HB
   go_enter Tryz.func14, Tryz.ntmps14
   go_wp2_with (first | (refine aQl ?_) | (refine aQs ?_; clear HM; intro us HM; dsimp only [List.set] at HM) | (refine aQt ?_; clear HM HSW; intro us HM HSW; dsimp only [List.set] at HM HSW) | (refine aQv ?_; clear HM; intro us HM; dsimp only [List.set] at HM) | (refine aQb ?_) | (refine aQn ?_; first | (have q:dV HM = 0:=rfl;clear q HM;intro g1 u1 HG1 HM) | (have q:dV HM = 1:=rfl;clear q HM;intro g2 u2 HG2 HM) | (have q:dV HM = 2:=rfl;clear q HM;intro g3 u3 HG3 HM) | (have q:dV HM = 3:=rfl;clear q HM;intro g4 u4 HG4 HM)))
   refine (HC.out _).mono ?_
   rintro e w3 ⟨rfl, hb⟩
   replace HM := Lib.hid (HM.out.below hb)
   clear hb HC
   go_wp2_with (first | (refine q8w (by rfl) ?_) | (first | (refine aQl ?_) | (refine aQs ?_; clear HM; intro us HM; dsimp only [List.set] at HM) | (refine aQt ?_; clear HM HSW; intro us HM HSW; dsimp only [List.set] at HM HSW) | (refine aQv ?_; clear HM; intro us HM; dsimp only [List.set] at HM) | (refine aQb ?_) | (refine aQn ?_; first | (have q:dV HM = 0:=rfl;clear q HM;intro g1 u1 HG1 HM) | (have q:dV HM = 1:=rfl;clear q HM;intro g2 u2 HG2 HM) | (have q:dV HM = 2:=rfl;clear q HM;intro g3 u3 HG3 HM) | (have q:dV HM = 3:=rfl;clear q HM;intro g4 u4 HG4 HM))))
   refine (HD.out _).mono ?_
   rintro e w3 ⟨rfl, hb⟩
   replace HM := Lib.hid (HM.out.below hb)
   clear hb HD
   go_wp2_with (first | (refine q8w (by rfl) ?_) | (first | (refine aQl ?_) | (refine aQs ?_; clear HM; intro us HM; dsimp only [List.set] at HM) | (refine aQt ?_; clear HM HSW; intro us HM HSW; dsimp only [List.set] at HM HSW) | (refine aQv ?_; clear HM; intro us HM; dsimp only [List.set] at HM) | (refine aQb ?_) | (refine aQn ?_; first | (have q:dV HM = 0:=rfl;clear q HM;intro g1 u1 HG1 HM) | (have q:dV HM = 1:=rfl;clear q HM;intro g2 u2 HG2 HM) | (have q:dV HM = 2:=rfl;clear q HM;intro g3 u3 HG3 HM) | (have q:dV HM = 3:=rfl;clear q HM;intro g4 u4 HG4 HM))))
   go_ret
   exact ⟨rfl, HM.out.1⟩
  | true =>
   rw [h2] at hz
   have HD := Lib.hid (HB.out true 0 h2 rfl)
   clear h2 HB
   obtain ⟨v, hv⟩ : ∃ v, s.live = v := ⟨_, rfl⟩
   obtain ⟨h, hh⟩ : ∃ h, s.hush = h := ⟨_, rfl⟩
   rw [hv, hh] at hz
   have HLV := Lib.hid hv
   have HHU := Lib.hid hh
   clear hv hh
   cases v <;> cases h
   all_goals
    first
     | (have ez : z = 0 := hz.symm; subst ez)
     | (have ez : z = 1 := hz.symm; subst ez)
    clear hz
    go_enter Tryz.func14, Tryz.ntmps14
    go_wp2_with (first | (refine aQl ?_) | (refine aQs ?_; clear HM; intro us HM; dsimp only [List.set] at HM) | (refine aQt ?_; clear HM HSW; intro us HM HSW; dsimp only [List.set] at HM HSW) | (refine aQv ?_; clear HM; intro us HM; dsimp only [List.set] at HM) | (refine aQb ?_) | (refine aQn ?_; first | (have q:dV HM = 0:=rfl;clear q HM;intro g1 u1 HG1 HM) | (have q:dV HM = 1:=rfl;clear q HM;intro g2 u2 HG2 HM) | (have q:dV HM = 2:=rfl;clear q HM;intro g3 u3 HG3 HM) | (have q:dV HM = 3:=rfl;clear q HM;intro g4 u4 HG4 HM)))
    refine (HC.out _).mono ?_
    rintro e w3 ⟨rfl, hb⟩
    replace HM := Lib.hid (HM.out.below hb)
    clear hb HC
    go_wp2_with (first | (refine q8w (by rfl) ?_) | (first | (refine aQl ?_) | (refine aQs ?_; clear HM; intro us HM; dsimp only [List.set] at HM) | (refine aQt ?_; clear HM HSW; intro us HM HSW; dsimp only [List.set] at HM HSW) | (refine aQv ?_; clear HM; intro us HM; dsimp only [List.set] at HM) | (refine aQb ?_) | (refine aQn ?_; first | (have q:dV HM = 0:=rfl;clear q HM;intro g1 u1 HG1 HM) | (have q:dV HM = 1:=rfl;clear q HM;intro g2 u2 HG2 HM) | (have q:dV HM = 2:=rfl;clear q HM;intro g3 u3 HG3 HM) | (have q:dV HM = 3:=rfl;clear q HM;intro g4 u4 HG4 HM))))
    refine (HD.out _).mono ?_
    rintro e w3 ⟨rfl, hb⟩
    replace HM := Lib.hid (HM.out.below hb)
    clear hb HD
    go_wp2_with (first | (refine q8w (by rfl) ?_) | (first | (refine aQl ?_) | (refine aQs ?_; clear HM; intro us HM; dsimp only [List.set] at HM) | (refine aQt ?_; clear HM HSW; intro us HM HSW; dsimp only [List.set] at HM HSW) | (refine aQv ?_; clear HM; intro us HM; dsimp only [List.set] at HM) | (refine aQb ?_) | (refine aQn ?_; first | (have q:dV HM = 0:=rfl;clear q HM;intro g1 u1 HG1 HM) | (have q:dV HM = 1:=rfl;clear q HM;intro g2 u2 HG2 HM) | (have q:dV HM = 2:=rfl;clear q HM;intro g3 u3 HG3 HM) | (have q:dV HM = 3:=rfl;clear q HM;intro g4 u4 HG4 HM))))
    go_ret
    exact ⟨rfl, HM.out.1⟩
theorem ex_ne {o : Oper} {a : Act} {u : World} (T t2 : TypeId) (x y : Operand) (ho : o.op = .binOp .neq T x y t2) {c1 c2 : Array Value} (hx : a.eval x = .agg c1) (hy : a.eval y = .agg c2) (hg : Tryz.prog.eqGuardType Tryz.prog.depth T = false) {b : Bool} (he : (Op.equalIn 10000 T (.agg c1) (.agg c2)).run Tryz.prog u = .ok b u) :
  (execOp a.eval o).run Tryz.prog u = .ok (.value (.bool (!b))) u := by
 unfold execOp
 simp only [ho, hx, hy]
 simp [go_sem, eqGuard, binOp, Op.equal, Op.maxDepth, hg, he]
theorem ex_eq {o : Oper} {a : Act} {u : World} (T t2 : TypeId) (x y : Operand) (ho : o.op = .binOp .eql T x y t2) {c1 c2 : Array Value} (hx : a.eval x = .agg c1) (hy : a.eval y = .agg c2) (hg : Tryz.prog.eqGuardType Tryz.prog.depth T = false) {b : Bool} (he : (Op.equalIn 10000 T (.agg c1) (.agg c2)).run Tryz.prog u = .ok b u) :
  (execOp a.eval o).run Tryz.prog u = .ok (.value (.bool b)) u := by
 unfold execOp
 simp only [ho, hx, hy]
 simp [go_sem, eqGuard, binOp, Op.equal, Op.maxDepth, hg, he]
theorem wl_val {ops : Array Oper} {rest : List Oper} {o : Oper} {a : Act} {w : World} {Q : Exit → Act → World → Prop} (hgd : Region.wanted o (yielded ops a.tmps) = true) {v : Value} (hv : (execOp a.eval o).run Tryz.prog w = .ok (.value v) w) (h : wpList Tryz.prog ops Q rest (a.put o.dst v) w) : wpList Tryz.prog ops Q (o :: rest) a w :=
 wl_step hgd fun K hK => by
  have := hK _ _ h
  unfold Oper.wp
  simp only [hv]
  exact this
end Go.Proofs.YtkdbhndegkldcaaGreatDoor.Lp
namespace Go.Proofs.YtkdbhndegkldcaaGreatDoor
open Go.ChangeShapes Go.WideShapes Go.ChangeAt Go.RowKit Go.Joins Go.Deep
theorem cells_u8 : Tryz.prog.cellsOf 5 = 1 := by kernel_rfl
section
variable {H : Type} {enc : TypeId × Value → H} {W : World} {base : Nat} {spare : Nat → Bool} {held : Bool}
theorem open_bytes {fuel : Nat} {v : Value} {y : DataW H × List MemPlace} (h : DataW.trod enc Tryz.prog W base spare held fuel 34 [v] = some y) :
  ∃ A n c bs, v = .slice A n c ∧ Rd W A n bs ∧ n ≤ maxLen := by
 rcases open_ints Tryz.underlying34 Tryz.underlying5 cells_u8 h with ⟨hcs, _⟩ | ⟨x, l, c, zs, hcs, _, hl, hm, hz, _, hcell, hwz⟩
 ·simp only [List.cons.injEq, and_true] at hcs
  exact ⟨none, 0, 0, [], hcs, Rd.none_, by unfold maxLen; omega⟩
 ·simp only [List.cons.injEq, and_true] at hcs
  have hlen : l ≤ zs.length := by rw [hz]; split <;> omega
  have hb : ∀ z ∈ zs, 0 ≤ z ∧ z ≤ 255 := fun z hz => bounds_u8 (hwz z hz)
  refine ⟨some x, l, c, (zs.take l).map Int.toNat, hcs, ⟨by rw [List.length_map, List.length_take]; omega, ?_, fun _ => ⟨x, rfl, ?_⟩⟩, by omega⟩
  ·intro y hy
   obtain ⟨z, hz', rfl⟩ := List.mem_map.1 hy
   have := hb z (List.mem_of_mem_take hz')
   omega
  ·intro j y hy
   rw [List.getElem?_map] at hy
   obtain ⟨z, hz', rfl⟩ := Option.map_eq_some_iff.1 hy
   obtain ⟨hj, e⟩ := List.getElem?_eq_some_iff.1 hz'
   rw [List.length_take] at hj
   rw [List.getElem_take] at e
   have hm' : z ∈ zs := by rw [← e]; exact List.getElem_mem _
   have := hb z hm'
   rw [hcell j (by omega)]
   have e2 : zs.getD j 0 = z := by rw [← e]; simp [List.getD_eq_getElem?_getD, show j < zs.length by omega]
   rw [e2, byteV, Int.toNat_of_nonneg this.1]
end
end Go.Proofs.YtkdbhndegkldcaaGreatDoor
namespace Go.Proofs.YtkdbhndegkldcaaGreatDoor.Lp
open Go.ChangeShapes Go.WideShapes Go.ChangeAt Go.RowKit Go.Joins Go.Deep Fq Tb
section
variable {H : Type} {enc : TypeId × Value → H} {W : World} {base : Nat} {spare : Nat → Bool} {held : Bool}
theorem list_bts {n : Nat} {P : Nat → Bts → Prop} (h : ∀ i, i < n → ∃ x, P i x) : ∃ xs : List Bts, xs.length = n ∧ ∀ i x, xs[i]? = some x → P i x := by
 induction n with
 | zero => exact ⟨[], rfl, fun i x hx => by simp at hx⟩
 | succ n ih =>
  obtain ⟨xs, hl, hp⟩ := ih fun i hi => h i (by omega)
  obtain ⟨y, hy⟩ := h n (by omega)
  refine ⟨xs ++ [y], by simp [hl], fun i x hx => ?_⟩
  rcases Nat.lt_or_ge i xs.length with hi | hi
  ·rw [List.getElem?_append_left hi] at hx
   exact hp i x hx
  ·have hi2 := (List.getElem?_eq_some_iff.1 hx).1
   rw [List.length_append, List.length_singleton] at hi2
   obtain rfl : i = n := by omega
   rw [List.getElem?_append_right hi, show i - xs.length = 0 by omega] at hx
   simp only [List.getElem?_cons_zero, Option.some.injEq] at hx
   subst hx
   exact hy
theorem cells_sl8 : Tryz.prog.cellsOf 34 = 1 := by kernel_rfl
theorem open_bb {b0 : Nat} {r : Reach} {v : Value} {d : DataW H} {p : List MemPlace} (hv : Value.okWide Tryz.prog W r b0 22 v) (h : DataW.Trod enc Tryz.prog W base spare held 22 v d p) :
  ∃ AL n c ls, v = .slice AL n c ∧ RdBB W AL n ls ∧ n ≤ maxLen := by
 obtain ⟨a0, len0, cap0, rfl⟩ := okWide_slice Tryz.underlying22 hv
 obtain ⟨fuel, hf⟩ := h
 rcases open_slice Tryz.underlying22 hf with ⟨e, _⟩ | ⟨a, len, cap, m, k, D, Pl, e, _, hl, hm, hmm, _, hi⟩
 ·simp only [Value.cells, List.cons.injEq, and_true] at e
  exact ⟨none, 0, 0, [], by simpa using e, ⟨rfl, fun h => by omega⟩, by unfold maxLen; omega⟩
 ·simp only [Value.cells, List.cons.injEq, and_true] at e
  have hlm : len ≤ m := by rw [hmm]; split <;> omega
  rw [cells_sl8] at hi
  obtain ⟨xs, hxl, hxs⟩ := list_bts (n := len) (P := fun i x => W.cell? (a.add i) = some (.slice x.A x.n x.c) ∧ Rd W x.A x.n x.bs) (fun i hi' => by
   obtain ⟨cs', hc, ht⟩ := hi i (by omega)
   rw [Nat.mul_one] at hc
   obtain ⟨hlen, _, hat⟩ := World.cells?_some hc
   match cs', hlen with
   | [c0], _ =>
    obtain ⟨A, n, c, bs, rfl, hr, _⟩ := open_bytes ht
    have c0 := hat 0 (by omega)
    refine ⟨⟨A, n, c, bs⟩, ?_, hr⟩
    exact c0)
  exact ⟨some a, len, cap, xs, by simpa using e, ⟨hxl, fun _ => ⟨a, rfl, hxs⟩⟩, by omega⟩
end
open Go.ChangeShapes Go.WideShapes Go.ChangeAt Go.RowKit Go.Joins Go.Deep Fq
section
variable {H : Type} {enc : TypeId × Value → H} {W : World} {base : Nat} {spare : Nat → Bool} {held : Bool}
theorem open_il7 {fuel : Nat} {v : Value} {y : DataW H × List MemPlace} (h : DataW.trod enc Tryz.prog W base spare held fuel 23 [v] = some y) :
  ∃ A n c zs, v = .slice A n c ∧ Fq.RdI W A n zs ∧ n ≤ maxLen := by
 rcases open_ints Tryz.underlying23 Tryz.underlying3 cells_int h with ⟨hcs, _⟩ | ⟨x, l, c, zs, hcs, _, hl, hm, hz, _, hcell, hwz⟩
 ·simp only [List.cons.injEq, and_true] at hcs
  exact ⟨none, 0, 0, [], hcs, Fq.RdI.none_, by unfold maxLen; omega⟩
 ·simp only [List.cons.injEq, and_true] at hcs
  have hlen : l ≤ zs.length := by rw [hz]; split <;> omega
  refine ⟨some x, l, c, zs.take l, hcs, ⟨by rw [List.length_take]; omega, fun _ => ⟨x, rfl, ?_⟩⟩, by omega⟩
  intro j y hy
  obtain ⟨hj, e⟩ := List.getElem?_eq_some_iff.1 hy
  rw [List.length_take] at hj
  rw [List.getElem_take] at e
  rw [hcell j (by omega)]
  have e2 : zs.getD j 0 = y := by rw [← e]; simp [List.getD_eq_getElem?_getD, show j < zs.length by omega]
  rw [e2]
theorem open_iv {b0 : Nat} {r : Reach} {v : Value} {d : DataW H} {p : List MemPlace} (hv : Value.okWide Tryz.prog W r b0 23 v) (h : DataW.Trod enc Tryz.prog W base spare held 23 v d p) :
  ∃ A n c zs, v = .slice A n c ∧ Fq.RdI W A n zs ∧ n ≤ maxLen := by
 obtain ⟨a0, len0, cap0, rfl⟩ := okWide_slice Tryz.underlying23 hv
 obtain ⟨fuel, hf⟩ := h
 exact open_il7 hf
end
end Go.Proofs.YtkdbhndegkldcaaGreatDoor.Lp
