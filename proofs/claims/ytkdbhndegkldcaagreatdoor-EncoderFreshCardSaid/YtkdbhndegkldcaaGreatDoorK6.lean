/-
  Own texts, laid together: Dg, Dj, Dk, Ne, Nf, Ev, Ng, Nh, Open, Do, Deq, Ls, Ni, No.
-/
import Derived.Test.YtkdbhndegkldcaaGreatDoorK5
set_option maxHeartbeats 8000000
set_option linter.unusedSimpArgs false
set_option linter.unusedVariables false
set_option maxRecDepth 100000
namespace Go.Proofs.YtkdbhndegkldcaaGreatDoor.Lp
open Go.RowKit Fx Fq Tb
open Yr (rdR rd_one rd_back Fr chkB chkB_iff gsR_len rdR_gs)
theorem okW_zr32 : okW (zr 32) = true := by decide +kernel
theorem lapV_no {t v : List Int} (h : okW t = false) : lapV t v = .tuple #[.agg (icells (zr 16)), .agg (icells (zr 16)), .int .i64 1] := by
 unfold lapV
 rw [if_neg (by rw [h]; exact fun e => Bool.false_ne_true e.1)]
theorem pcheck_any (s : Sy) (z : Int) (w : World) (hs : Hid (SyW s)) (hz : (if okSy s = true then 0 else 1) = z) :
  Calls Tryz.prog 37 #[.agg (syC s)] w (ValQ w (.int .i64 z)) := by
 have HM := Lib.hid (MV.start w)
 have HSW := hs
 have HLP := Lib.hid (fun u => lap_any s.t (zr 32) u hs.out.lt (zr_length 32))
 have HB := Lib.hid (fun c z hc hz u => bcheck_any s.l c z u hs.out.ll hc hz)
 have LZ := Lib.hid (zr_length 16)
 have LZ2 := Lib.hid (zr_length 32)
 unfold okSy at hz
 clear hs
 cases h1 : okW s.t with
 | false =>
  rw [h1] at hz
  obtain rfl : z = 1 := by rw [← hz]; rfl
  rw [lapV_no h1] at HLP
  clear hz h1
  go_enter Tryz.func37, Tryz.ntmps37
  go_wp2_with (first | (refine aQl ?_) | (refine aQs ?_; clear HM; intro us HM; dsimp only [List.set] at HM) | (refine aQt ?_; clear HM HSW; intro us HM HSW; dsimp only [List.set] at HM HSW) | (refine aQv ?_; clear HM; intro us HM; dsimp only [List.set] at HM) | (refine aQb ?_) | (refine aQn ?_; first | (have q:dV HM = 0:=rfl;clear q HM;intro g1 u1 HG1 HM) | (have q:dV HM = 1:=rfl;clear q HM;intro g2 u2 HG2 HM) | (have q:dV HM = 2:=rfl;clear q HM;intro g3 u3 HG3 HM) | (have q:dV HM = 3:=rfl;clear q HM;intro g4 u4 HG4 HM)))
  refine (HLP.out _).mono ?_
  rintro e w3 ⟨rfl, hb⟩
  replace HM := Lib.hid (HM.out.below hb)
  clear hb HLP
  go_wp2_with (first | (refine q8w (by rfl) ?_) | (first | (refine aQl ?_) | (refine aQs ?_; clear HM; intro us HM; dsimp only [List.set] at HM) | (refine aQt ?_; clear HM HSW; intro us HM HSW; dsimp only [List.set] at HM HSW) | (refine aQv ?_; clear HM; intro us HM; dsimp only [List.set] at HM) | (refine aQb ?_) | (refine aQn ?_; first | (have q:dV HM = 0:=rfl;clear q HM;intro g1 u1 HG1 HM) | (have q:dV HM = 1:=rfl;clear q HM;intro g2 u2 HG2 HM) | (have q:dV HM = 2:=rfl;clear q HM;intro g3 u3 HG3 HM) | (have q:dV HM = 3:=rfl;clear q HM;intro g4 u4 HG4 HM))))
  go_ret
  exact ⟨rfl, HM.out.1⟩
 | true =>
  rw [h1] at hz
  rw [lapV_ok h1 okW_zr32] at HLP
  have LP := Lib.hid (show (lapL s.t (zr 32)).length = 16 from tab_length 16 _)
  have LT := Lib.hid (show (leftL (zr 32)).length = 16 from tab_length 16 _)
  generalize lapL s.t (zr 32) = p at HLP LP
  generalize leftL (zr 32) = t at HLP LT
  clear h1
  cases h2 : chkL s.l with
  | false =>
   rw [h2] at hz
   obtain rfl : z = 1 := by rw [← hz]; rfl
   have HC := Lib.hid (HB.out false 1 h2 rfl)
   clear hz h2 HB
   go_enter Tryz.func37, Tryz.ntmps37
   go_wp2_with (first | (refine aQl ?_) | (refine aQs ?_; clear HM; intro us HM; dsimp only [List.set] at HM) | (refine aQt ?_; clear HM HSW; intro us HM HSW; dsimp only [List.set] at HM HSW) | (refine aQv ?_; clear HM; intro us HM; dsimp only [List.set] at HM) | (refine aQb ?_) | (refine aQn ?_; first | (have q:dV HM = 0:=rfl;clear q HM;intro g1 u1 HG1 HM) | (have q:dV HM = 1:=rfl;clear q HM;intro g2 u2 HG2 HM) | (have q:dV HM = 2:=rfl;clear q HM;intro g3 u3 HG3 HM) | (have q:dV HM = 3:=rfl;clear q HM;intro g4 u4 HG4 HM)))
   refine (HLP.out _).mono ?_
   rintro e w3 ⟨rfl, hb⟩
   replace HM := Lib.hid (HM.out.below hb)
   clear hb HLP
   go_wp2_with (first | (refine q8w (by rfl) ?_) | (first | (refine aQl ?_) | (refine aQs ?_; clear HM; intro us HM; dsimp only [List.set] at HM) | (refine aQt ?_; clear HM HSW; intro us HM HSW; dsimp only [List.set] at HM HSW) | (refine aQv ?_; clear HM; intro us HM; dsimp only [List.set] at HM) | (refine aQb ?_) | (refine aQn ?_; first | (have q:dV HM = 0:=rfl;clear q HM;intro g1 u1 HG1 HM) | (have q:dV HM = 1:=rfl;clear q HM;intro g2 u2 HG2 HM) | (have q:dV HM = 2:=rfl;clear q HM;intro g3 u3 HG3 HM) | (have q:dV HM = 3:=rfl;clear q HM;intro g4 u4 HG4 HM))))
   refine (HC.out _).mono ?_
   rintro e w3 ⟨rfl, hb⟩
   replace HM := Lib.hid (HM.out.below hb)
   clear hb HC
   go_wp2_with (first | (refine q8w (by rfl) ?_) | (first | (refine aQl ?_) | (refine aQs ?_; clear HM; intro us HM; dsimp only [List.set] at HM) | (refine aQt ?_; clear HM HSW; intro us HM HSW; dsimp only [List.set] at HM HSW) | (refine aQv ?_; clear HM; intro us HM; dsimp only [List.set] at HM) | (refine aQb ?_) | (refine aQn ?_; first | (have q:dV HM = 0:=rfl;clear q HM;intro g1 u1 HG1 HM) | (have q:dV HM = 1:=rfl;clear q HM;intro g2 u2 HG2 HM) | (have q:dV HM = 2:=rfl;clear q HM;intro g3 u3 HG3 HM) | (have q:dV HM = 3:=rfl;clear q HM;intro g4 u4 HG4 HM))))
   go_ret
   exact ⟨rfl, HM.out.1⟩
  | true =>
   rw [h2] at hz
   have HC := Lib.hid (HB.out true 0 h2 rfl)
   clear h2 HB
   cases h3 : s.live with
   | false =>
    rw [h3] at hz
    obtain rfl : z = 0 := by rw [← hz]; rfl
    have HLV := Lib.hid h3
    clear hz h3
    go_enter Tryz.func37, Tryz.ntmps37
    go_wp2_with (first | (refine aQl ?_) | (refine aQs ?_; clear HM; intro us HM; dsimp only [List.set] at HM) | (refine aQt ?_; clear HM HSW; intro us HM HSW; dsimp only [List.set] at HM HSW) | (refine aQv ?_; clear HM; intro us HM; dsimp only [List.set] at HM) | (refine aQb ?_) | (refine aQn ?_; first | (have q:dV HM = 0:=rfl;clear q HM;intro g1 u1 HG1 HM) | (have q:dV HM = 1:=rfl;clear q HM;intro g2 u2 HG2 HM) | (have q:dV HM = 2:=rfl;clear q HM;intro g3 u3 HG3 HM) | (have q:dV HM = 3:=rfl;clear q HM;intro g4 u4 HG4 HM)))
    refine (HLP.out _).mono ?_
    rintro e w3 ⟨rfl, hb⟩
    replace HM := Lib.hid (HM.out.below hb)
    clear hb HLP
    go_wp2_with (first | (refine q8w (by rfl) ?_) | (first | (refine aQl ?_) | (refine aQs ?_; clear HM; intro us HM; dsimp only [List.set] at HM) | (refine aQt ?_; clear HM HSW; intro us HM HSW; dsimp only [List.set] at HM HSW) | (refine aQv ?_; clear HM; intro us HM; dsimp only [List.set] at HM) | (refine aQb ?_) | (refine aQn ?_; first | (have q:dV HM = 0:=rfl;clear q HM;intro g1 u1 HG1 HM) | (have q:dV HM = 1:=rfl;clear q HM;intro g2 u2 HG2 HM) | (have q:dV HM = 2:=rfl;clear q HM;intro g3 u3 HG3 HM) | (have q:dV HM = 3:=rfl;clear q HM;intro g4 u4 HG4 HM))))
    refine (HC.out _).mono ?_
    rintro e w3 ⟨rfl, hb⟩
    replace HM := Lib.hid (HM.out.below hb)
    clear hb HC
    go_wp2_with (first | (refine q8w (by rfl) ?_) | (first | (refine aQl ?_) | (refine aQs ?_; clear HM; intro us HM; dsimp only [List.set] at HM) | (refine aQt ?_; clear HM HSW; intro us HM HSW; dsimp only [List.set] at HM HSW) | (refine aQv ?_; clear HM; intro us HM; dsimp only [List.set] at HM) | (refine aQb ?_) | (refine aQn ?_; first | (have q:dV HM = 0:=rfl;clear q HM;intro g1 u1 HG1 HM) | (have q:dV HM = 1:=rfl;clear q HM;intro g2 u2 HG2 HM) | (have q:dV HM = 2:=rfl;clear q HM;intro g3 u3 HG3 HM) | (have q:dV HM = 3:=rfl;clear q HM;intro g4 u4 HG4 HM))))
    go_ret
    exact ⟨rfl, HM.out.1⟩
   | true =>
    rw [h3] at hz
    have HLV := Lib.hid h3
    obtain ⟨v, hv⟩ : ∃ v, s.hush = v := ⟨_, rfl⟩
    rw [hv] at hz
    have HHU := Lib.hid hv
    clear h3 hv
    cases v
    all_goals
     first
      | (have ez : z = 0 := hz.symm; subst ez)
      | (have ez : z = 1 := hz.symm; subst ez)
     clear hz
     go_enter Tryz.func37, Tryz.ntmps37
     go_wp2_with (first | (refine aQl ?_) | (refine aQs ?_; clear HM; intro us HM; dsimp only [List.set] at HM) | (refine aQt ?_; clear HM HSW; intro us HM HSW; dsimp only [List.set] at HM HSW) | (refine aQv ?_; clear HM; intro us HM; dsimp only [List.set] at HM) | (refine aQb ?_) | (refine aQn ?_; first | (have q:dV HM = 0:=rfl;clear q HM;intro g1 u1 HG1 HM) | (have q:dV HM = 1:=rfl;clear q HM;intro g2 u2 HG2 HM) | (have q:dV HM = 2:=rfl;clear q HM;intro g3 u3 HG3 HM) | (have q:dV HM = 3:=rfl;clear q HM;intro g4 u4 HG4 HM)))
     refine (HLP.out _).mono ?_
     rintro e w3 ⟨rfl, hb⟩
     replace HM := Lib.hid (HM.out.below hb)
     clear hb HLP
     go_wp2_with (first | (refine q8w (by rfl) ?_) | (first | (refine aQl ?_) | (refine aQs ?_; clear HM; intro us HM; dsimp only [List.set] at HM) | (refine aQt ?_; clear HM HSW; intro us HM HSW; dsimp only [List.set] at HM HSW) | (refine aQv ?_; clear HM; intro us HM; dsimp only [List.set] at HM) | (refine aQb ?_) | (refine aQn ?_; first | (have q:dV HM = 0:=rfl;clear q HM;intro g1 u1 HG1 HM) | (have q:dV HM = 1:=rfl;clear q HM;intro g2 u2 HG2 HM) | (have q:dV HM = 2:=rfl;clear q HM;intro g3 u3 HG3 HM) | (have q:dV HM = 3:=rfl;clear q HM;intro g4 u4 HG4 HM))))
     refine (HC.out _).mono ?_
     rintro e w3 ⟨rfl, hb⟩
     replace HM := Lib.hid (HM.out.below hb)
     clear hb HC
     go_wp2_with (first | (refine q8w (by rfl) ?_) | (first | (refine aQl ?_) | (refine aQs ?_; clear HM; intro us HM; dsimp only [List.set] at HM) | (refine aQt ?_; clear HM HSW; intro us HM HSW; dsimp only [List.set] at HM HSW) | (refine aQv ?_; clear HM; intro us HM; dsimp only [List.set] at HM) | (refine aQb ?_) | (refine aQn ?_; first | (have q:dV HM = 0:=rfl;clear q HM;intro g1 u1 HG1 HM) | (have q:dV HM = 1:=rfl;clear q HM;intro g2 u2 HG2 HM) | (have q:dV HM = 2:=rfl;clear q HM;intro g3 u3 HG3 HM) | (have q:dV HM = 3:=rfl;clear q HM;intro g4 u4 HG4 HM))))
     go_ret
     exact ⟨rfl, HM.out.1⟩
def dsV (d : Ds) : Value := match d with
 | .ok (s, p) => .tuple #[.agg (syC s), .agg (icells p), .int .i64 0]
 | .error z => .tuple #[.agg (syC Sy.z), .agg (icells (zr 16)), .int .i64 z]
theorem pstart_any (w : World) : Calls Tryz.prog 11 #[] w (ValQ w (.agg (syC Sy.one))) := by
 have HM := Lib.hid (MV.start w)
 go_enter Tryz.func11, Tryz.ntmps11
 go_wp2_with (first | (refine aQl ?_) | (refine aQs ?_; clear HM; intro us HM; dsimp only [List.set] at HM) | (refine aQt ?_; clear HM HSW; intro us HM HSW; dsimp only [List.set] at HM HSW) | (refine aQv ?_; clear HM; intro us HM; dsimp only [List.set] at HM) | (refine aQb ?_) | (refine aQn ?_; first | (have q:dV HM = 0:=rfl;clear q HM;intro g1 u1 HG1 HM) | (have q:dV HM = 1:=rfl;clear q HM;intro g2 u2 HG2 HM) | (have q:dV HM = 2:=rfl;clear q HM;intro g3 u3 HG3 HM) | (have q:dV HM = 3:=rfl;clear q HM;intro g4 u4 HG4 HM)))
 refine bodyPost_ret (v := .agg (syC Sy.one)) (vres_cs rfl _ rfl rowSyn HM (by exact q7m) (by exact q7z)) rfl ⟨rfl, HM.out.1⟩
def SayQ (w0 w : World) (m : Nat) (d : Ds) (e : Ending) (u : World) : Prop := e = .returned (dsV d) ∧ (∃ cs, MV w0 w [(m, 70, cs)] u) ∧ match d with
 | .ok (s, p) => SyW s ∧ p.length = 16
 | .error z => (z == 0) = false
theorem say_any {w0 w : World} {m : Nat} (s : Sy) (d : Ds) (g : Nat) (fs lb : Array Value) (eg : ∀ (args : Array Value) (u : World), (callFunc g args).run Tryz.prog u = .ok (.enter g args) u) (hm : Hid (MV w0 w [(m, 70, syC s)] w)) (hs : Hid (SyW s)) (hd : okSy s = false → d = .error 1)
  (hT : Hid (okSy s = true → ∀ u, MV w0 w [(m, 70, syC s)] u → Calls Tryz.prog g (fs ++ lb) u (SdQ w0 u m d))) :
  Calls Tryz.prog 29 #[.pointer (some ⟨m, 0, none⟩), .func (.func g) fs lb] w (SayQ w0 w m d) := by
 have HM := hm
 have HSW := hs
 have LZ := Lib.hid (zr_length 16)
 unfold SayQ
 cases hk : okSy s with
 | false =>
  have HCK := Lib.hid (fun u => pcheck_any s 1 u hs (by rw [hk]; rfl))
  obtain rfl := hd hk
  clear hd hk hT hm hs
  go_enter Tryz.func29, Tryz.ntmps29
  go_wp2_with (first | (refine aQl ?_) | (refine aQs ?_; clear HM; intro us HM; dsimp only [List.set] at HM) | (refine aQt ?_; clear HM HSW; intro us HM HSW; dsimp only [List.set] at HM HSW) | (refine aQv ?_; clear HM; intro us HM; dsimp only [List.set] at HM) | (refine aQb ?_) | (refine aQn ?_; first | (have q:dV HM = 0:=rfl;clear q HM;intro g1 u1 HG1 HM) | (have q:dV HM = 1:=rfl;clear q HM;intro g2 u2 HG2 HM) | (have q:dV HM = 2:=rfl;clear q HM;intro g3 u3 HG3 HM) | (have q:dV HM = 3:=rfl;clear q HM;intro g4 u4 HG4 HM) | (have q:dV HM = 4:=rfl;clear q HM;intro g5 u5 HG5 HM)))
  refine (HCK.out _).mono ?_
  rintro e w3 ⟨rfl, hb⟩
  replace HM := Lib.hid (HM.out.below hb)
  clear hb HCK
  go_wp2_with (first | (refine aQl ?_) | (refine aQs ?_; clear HM; intro us HM; dsimp only [List.set] at HM) | (refine aQt ?_; clear HM HSW; intro us HM HSW; dsimp only [List.set] at HM HSW) | (refine aQv ?_; clear HM; intro us HM; dsimp only [List.set] at HM) | (refine aQb ?_) | (refine aQn ?_; first | (have q:dV HM = 0:=rfl;clear q HM;intro g1 u1 HG1 HM) | (have q:dV HM = 1:=rfl;clear q HM;intro g2 u2 HG2 HM) | (have q:dV HM = 2:=rfl;clear q HM;intro g3 u3 HG3 HM) | (have q:dV HM = 3:=rfl;clear q HM;intro g4 u4 HG4 HM) | (have q:dV HM = 4:=rfl;clear q HM;intro g5 u5 HG5 HM)))
  refine bodyPost_ret (v := .tuple #[.agg (syC Sy.z), .agg (icells (zr 16)), .int .i64 1]) (vres_css rfl _ rfl rfl rfl rowSyn (by exact q7r) HM (by exact q7m) (by exact q7m) (by exact q7z) (by exact q7s)) rfl ⟨rfl, ⟨_, (by have HP := HM.out; (repeat (replace HP := HP.popH (by with_reducible assumption))); exact HP)⟩, rfl⟩
 | true =>
  have HCK := Lib.hid (fun u => pcheck_any s 0 u hs (by rw [hk]; rfl))
  have HCT := Lib.hid (hT.out hk)
  clear hd hk hT hm hs
  cases d with
  | error z =>
   unfold SdQ at HCT
   dsimp only at HCT
   go_enter Tryz.func29, Tryz.ntmps29
   go_wp2_with (first | (refine aQl ?_) | (refine aQs ?_; clear HM; intro us HM; dsimp only [List.set] at HM) | (refine aQt ?_; clear HM HSW; intro us HM HSW; dsimp only [List.set] at HM HSW) | (refine aQv ?_; clear HM; intro us HM; dsimp only [List.set] at HM) | (refine aQb ?_) | (refine aQn ?_; first | (have q:dV HM = 0:=rfl;clear q HM;intro g1 u1 HG1 HM) | (have q:dV HM = 1:=rfl;clear q HM;intro g2 u2 HG2 HM) | (have q:dV HM = 2:=rfl;clear q HM;intro g3 u3 HG3 HM) | (have q:dV HM = 3:=rfl;clear q HM;intro g4 u4 HG4 HM) | (have q:dV HM = 4:=rfl;clear q HM;intro g5 u5 HG5 HM)))
   refine (HCK.out _).mono ?_
   rintro e w3 ⟨rfl, hb⟩
   replace HM := Lib.hid (HM.out.below hb)
   clear hb HCK
   go_wp2_with (first | (refine aQl ?_) | (refine aQs ?_; clear HM; intro us HM; dsimp only [List.set] at HM) | (refine aQt ?_; clear HM HSW; intro us HM HSW; dsimp only [List.set] at HM HSW) | (refine aQv ?_; clear HM; intro us HM; dsimp only [List.set] at HM) | (refine aQb ?_) | (refine aQn ?_; first | (have q:dV HM = 0:=rfl;clear q HM;intro g1 u1 HG1 HM) | (have q:dV HM = 1:=rfl;clear q HM;intro g2 u2 HG2 HM) | (have q:dV HM = 2:=rfl;clear q HM;intro g3 u3 HG3 HM) | (have q:dV HM = 3:=rfl;clear q HM;intro g4 u4 HG4 HM) | (have q:dV HM = 4:=rfl;clear q HM;intro g5 u5 HG5 HM)))
   refine (HCT.out _ (by have HP := HM.out; (repeat (replace HP := HP.popH (by with_reducible assumption))); exact HP)).mono ?_
   rintro e w4 ⟨hz, rfl, cs, hm⟩
   have HZ := Lib.hid hz
   have HM2 := Lib.hid (HM.out.after (by exact q7i) hm)
   clear hm HM HCT
   have HM := HM2
   clear HM2
   dsimp only [List.set] at HM
   have hz2 : (z != 0) = true := by simpa using hz
   clear hz
   go_wp2_with (first | (refine aQl ?_) | (refine aQs ?_; clear HM; intro us HM; dsimp only [List.set] at HM) | (refine aQt ?_; clear HM HSW; intro us HM HSW; dsimp only [List.set] at HM HSW) | (refine aQv ?_; clear HM; intro us HM; dsimp only [List.set] at HM) | (refine aQb ?_) | (refine aQn ?_; first | (have q:dV HM = 0:=rfl;clear q HM;intro g1 u1 HG1 HM) | (have q:dV HM = 1:=rfl;clear q HM;intro g2 u2 HG2 HM) | (have q:dV HM = 2:=rfl;clear q HM;intro g3 u3 HG3 HM) | (have q:dV HM = 3:=rfl;clear q HM;intro g4 u4 HG4 HM) | (have q:dV HM = 4:=rfl;clear q HM;intro g5 u5 HG5 HM)))
   refine bodyPost_ret (v := .tuple #[.agg (syC Sy.z), .agg (icells (zr 16)), .int .i64 z]) (vres_css rfl _ rfl rfl rfl rowSyn (by exact q7r) HM (by exact q7m) (by exact q7m) (by exact q7z) (by exact q7s)) rfl ⟨rfl, ⟨_, (by have HP := HM.out; (repeat (replace HP := HP.popH (by with_reducible assumption))); exact HP)⟩, HZ.out⟩
  | ok r =>
   obtain ⟨s3, p⟩ := r
   unfold SdQ at HCT
   dsimp only at HCT
   go_enter Tryz.func29, Tryz.ntmps29
   go_wp2_with (first | (refine aQl ?_) | (refine aQs ?_; clear HM; intro us HM; dsimp only [List.set] at HM) | (refine aQt ?_; clear HM HSW; intro us HM HSW; dsimp only [List.set] at HM HSW) | (refine aQv ?_; clear HM; intro us HM; dsimp only [List.set] at HM) | (refine aQb ?_) | (refine aQn ?_; first | (have q:dV HM = 0:=rfl;clear q HM;intro g1 u1 HG1 HM) | (have q:dV HM = 1:=rfl;clear q HM;intro g2 u2 HG2 HM) | (have q:dV HM = 2:=rfl;clear q HM;intro g3 u3 HG3 HM) | (have q:dV HM = 3:=rfl;clear q HM;intro g4 u4 HG4 HM) | (have q:dV HM = 4:=rfl;clear q HM;intro g5 u5 HG5 HM)))
   refine (HCK.out _).mono ?_
   rintro e w3 ⟨rfl, hb⟩
   replace HM := Lib.hid (HM.out.below hb)
   clear hb HCK
   go_wp2_with (first | (refine aQl ?_) | (refine aQs ?_; clear HM; intro us HM; dsimp only [List.set] at HM) | (refine aQt ?_; clear HM HSW; intro us HM HSW; dsimp only [List.set] at HM HSW) | (refine aQv ?_; clear HM; intro us HM; dsimp only [List.set] at HM) | (refine aQb ?_) | (refine aQn ?_; first | (have q:dV HM = 0:=rfl;clear q HM;intro g1 u1 HG1 HM) | (have q:dV HM = 1:=rfl;clear q HM;intro g2 u2 HG2 HM) | (have q:dV HM = 2:=rfl;clear q HM;intro g3 u3 HG3 HM) | (have q:dV HM = 3:=rfl;clear q HM;intro g4 u4 HG4 HM) | (have q:dV HM = 4:=rfl;clear q HM;intro g5 u5 HG5 HM)))
   refine (HCT.out _ (by have HP := HM.out; (repeat (replace HP := HP.popH (by with_reducible assumption))); exact HP)).mono ?_
   rintro e w4 ⟨rfl, hw, hp, hm⟩
   have HSW3 := Lib.hid hw
   have LP := Lib.hid hp
   have HM2 := Lib.hid (HM.out.after (by exact q7i) hm)
   clear hw hp hm HM HCT HSW
   have HM := HM2
   clear HM2
   dsimp only [List.set] at HM
   go_wp2_with (first | (refine aQl ?_) | (refine aQs ?_; clear HM; intro us HM; dsimp only [List.set] at HM) | (refine aQt ?_; clear HM HSW; intro us HM HSW; dsimp only [List.set] at HM HSW) | (refine aQv ?_; clear HM; intro us HM; dsimp only [List.set] at HM) | (refine aQb ?_) | (refine aQn ?_; first | (have q:dV HM = 0:=rfl;clear q HM;intro g1 u1 HG1 HM) | (have q:dV HM = 1:=rfl;clear q HM;intro g2 u2 HG2 HM) | (have q:dV HM = 2:=rfl;clear q HM;intro g3 u3 HG3 HM) | (have q:dV HM = 3:=rfl;clear q HM;intro g4 u4 HG4 HM) | (have q:dV HM = 4:=rfl;clear q HM;intro g5 u5 HG5 HM)))
   refine wp_region_held_drew (S := fun y => Blk y m 70 (syC s3) ∧ Blk y g4 35 (icells p)) (by kernel_rfl) ⟨HM.out.drew.get (by exact q7m), HM.out.drew.get (by exact q7m)⟩ (fun hHeld => ?_)
   have HMd := Lib.hid HM.out.drew
   clear HM
   have HM := HMd
   clear HMd
   generalize World.drew _ = wd at HM hHeld ⊢
   (refine tkv 0 (.pointer (some ⟨m, 0, none⟩)) rfl ?_)
   (refine tkv 1 (.pointer (some ⟨m, 0, none⟩)) rfl ?_)
   (refine tkg 2 (.pointer (some ⟨m, 0, none⟩)) rfl ?_)
   (refine tk 3 rfl (yv_load rfl _ _ rfl rfl (fun u hu => run_load_blk rowSyn hu.1 (syC_size HSW3.out))) ?_)
   (refine tk 4 rfl (yv_load rfl _ _ rfl rfl (fun u hu => run_load_blk (Arr.row arrPcm) hu.2 ((icells_size _).trans LP.out))) ?_)
   refine wpAnyH_ready (rs := [5]) (by kernel_rfl) (by simp) ?_; refine AllReadyH.cons rfl (fun K hK => ?_) (AllReadyH.nil)
   rw [if_pos (by rfl)]
   refine ov_store _ _ _ rfl rfl rfl rowSyn HM (by exact q7i) (by exact q7z) (by exact q7z) (syC_one _) rfl ?_
   clear HM hHeld
   intro us HM
   dsimp only [List.set] at HM
   refine hK.out _ _ ⟨HM.out.get (by exact q7m), HM.out.get (by exact q7m)⟩ (fun hHeld => ?_)
   clear hK K
   (try simp only [Act.put, qz1, qz2, qz3])
   refine wpAnyH_ready (rs := [6]) (by kernel_rfl) (by simp) ?_; refine AllReadyH.cons rfl (fun K hK => ?_) (AllReadyH.nil)
   rw [if_pos (by rfl)]; refine ov_store _ _ _ rfl rfl rfl (by exact q7r) HM (by exact q7i) (by exact q7s) (by exact q7s) (by exact q7o) rfl ?_; clear HM; intro us HM; dsimp only [List.set] at HM
   clear hHeld
   refine hK.out _ _ ⟨HM.out.get (by exact q7m), HM.out.get (by exact q7m)⟩ (fun hHeld => ?_)
   clear hK K
   (try simp only [Act.put, qz1, qz2, qz3])
   (refine tkv 7 (.int .i64 0) rfl ?_)
   refine wpAnyH_done (by kernel_rfl) ?_ _
   clear hHeld
   go_wp2_with (first | (refine aQl ?_) | (refine aQs ?_; clear HM; intro us HM; dsimp only [List.set] at HM) | (refine aQt ?_; clear HM HSW; intro us HM HSW; dsimp only [List.set] at HM HSW) | (refine aQv ?_; clear HM; intro us HM; dsimp only [List.set] at HM) | (refine aQb ?_) | (refine aQn ?_; first | (have q:dV HM = 0:=rfl;clear q HM;intro g1 u1 HG1 HM) | (have q:dV HM = 1:=rfl;clear q HM;intro g2 u2 HG2 HM) | (have q:dV HM = 2:=rfl;clear q HM;intro g3 u3 HG3 HM) | (have q:dV HM = 3:=rfl;clear q HM;intro g4 u4 HG4 HM) | (have q:dV HM = 4:=rfl;clear q HM;intro g5 u5 HG5 HM)))
   refine bodyPost_ret (v := .tuple #[.agg (syC s3), .agg (icells p), .int .i64 0]) (vres_css rfl _ rfl rfl rfl rowSyn (by exact q7r) HM (by exact q7m) (by exact q7m) (by exact q7z) (by exact q7s)) rfl ⟨rfl, ⟨_, (by have HP := HM.out; (repeat (replace HP := HP.popH (by with_reducible assumption))); exact HP)⟩, HSW3.out, LP.out⟩
theorem wv_boxV {ops : Array Oper} {rest : List Oper} {o : Oper} {a : Act} {w w0 w1 : World} {Q : Exit → Act → World → Prop} {L : List Ent} (hgd : Region.wanted o (yielded ops a.tmps) = true) (T : TypeId) (x : Operand) (ho : o.op = .box T x) {v : Value} (hx : a.eval x = v) (hv : v.cells = #[v]) (hm : Hid (MV w0 w1 L w))
  (h : ∀ g w', Hid (w1.heap.size ≤ g) → Hid (MV w0 w1 ((g, T, #[v]) :: L) w') → wpList Tryz.prog ops Q rest (a.put o.dst (.pointer (some ⟨g, 0, none⟩))) w') : wpList Tryz.prog ops Q (o :: rest) a w :=
 wl_step hgd fun K hK => by
  have := hK _ _ (h w.heap.size _ (Lib.hid hm.out.2.2.2.2.1) (Lib.hid (hm.out.alloc T #[v])))
  unfold Oper.wp execOp
  simp only [ho, Instr.box, newVar, newRow, Sem.run_bind, hx, hv, Result.andThen, Sem.run_pure]
  exact this
theorem syn8 {s : Sy} (hs : SyW s) : ∀ (k : Nat) (x : Int), (syC s)[k]? ≠ some (Value.int .u8 x) := by
 intro k x h
 have hm : Value.int .u8 x ∈ (syC s).toList := by
  rw [Array.mem_toList_iff]
  exact Array.mem_of_getElem? h
 unfold syC endL icl at hm
 simp at hm
theorem rd_noM {w : World} {A : Option Addr} {n g : Nat} {bs : List Nat} {T : TypeId} {cs : Array Value} (hr : Rd w A n bs) (hb : Blk w g T cs) (h8 : ∀ (k : Nat) (x : Int), cs[k]? ≠ some (Value.int .u8 x)) {ad : Addr} (e : A = some ad) (hn : 0 < n) : g ≠ ad.block := by
 obtain ⟨ad', e', -, -, hc⟩ := hr.at_ (k := 0) hn
 have e2 : ad = ad' := Option.some.inj (e.symm.trans e')
 subst e2
 intro hg
 have h0 : ad.add 0 = ad := rfl
 rw [h0] at hc
 unfold Blk at hb
 unfold World.cell? at hc
 rw [← hg, hb] at hc
 cases hs : ad.spot.isSome with
 | true => simp [hs] at hc
 | false =>
  simp only [hs] at hc
  rw [if_neg Bool.false_ne_true] at hc
  exact h8 _ _ hc
theorem dRd_some {bs : List Nat} {p : List Int} {K : Int} {l q : List Int} (hp : chkL p = true) (h : rdR bs p = some (K, l, q)) : rdV bs p = .tuple #[.agg (icells (frL K l q)), .int .i64 0] := by
 unfold rdV
 rw [if_pos hp, h]
theorem dRd_none {bs : List Nat} {p : List Int} (hp : chkL p = true) (h : rdR bs p = none) : rdV bs p = .tuple #[.agg (icells (zr 23)), .int .i64 21] := by
 unfold rdV
 rw [if_pos hp, h]
theorem stepS_none {s : Sy} {bs : List Nat} (hk : okSy s = true) (h : rdR bs s.l = none) : stepS s bs = .error 21 := by unfold stepS; rw [if_pos hk, h]
theorem stepS_late {s : Sy} {bs : List Nat} {l q : List Int} (hk : okSy s = true) (h : rdR bs s.l = some (1, l, q)) (hv : s.live = false) : stepS s bs = .error 40 := by
 unfold stepS; rw [if_pos hk, h]; dsimp only; rw [if_pos ⟨rfl, hv⟩]
theorem stepS_sid {s : Sy} {bs : List Nat} {l q : List Int} (hk : okSy s = true) (h : rdR bs s.l = some (2, l, q)) : stepS s bs = .ok (hisS { s with l := l, live := false, hush := true }) := by
 unfold stepS; rw [if_pos hk, h]; dsimp only; rw [if_neg (by rintro ⟨e, -⟩; exact absurd e (by decide)), if_pos rfl]
theorem stepS_talk {s : Sy} {bs : List Nat} {K : Int} {l q : List Int} (hk : okSy s = true) (h : rdR bs s.l = some (K, l, q)) (h1 : ¬ (K = 1 ∧ s.live = false)) (h2 : ¬ K = 2) : stepS s bs = .ok (sndS { s with l := l, live := true, hush := false } (greatL q l)) := by
 unfold stepS; rw [if_pos hk, h]; dsimp only; rw [if_neg h1, if_neg h2]
theorem mstep_any {w0 w : World} {m : Nat} (s : Sy) (A : Option Addr) (n c : Nat) (bs : List Nat) (hm : Hid (MV w0 w [(m, 70, syC s)] w)) (hs : Hid (SyW s)) (hk : okSy s = true) (hr : Hid (Rd w A n bs)) (he : Hid (Edg w0)) :
  Calls Tryz.prog 36 #[.pointer (some ⟨m, 0, none⟩), .slice A n c] w (SdQ w0 w m (stepS s bs)) := by
 have HM := hm
 have HSW := hs
 have HE := he
 have LZ := Lib.hid (zr_length 16)
 have LZ3 := Lib.hid (zr_length 23)
 obtain ⟨k1, k2, -⟩ := okSy_iff.1 hk
 have HAP := Lib.hid (show Apt A n [m] from fun ad e hn g hg => by
  rw [List.mem_singleton] at hg
  subst hg
  exact rd_noM hr.out (hm.out.get (.head _)) (syn8 hs.out) e hn)
 have HAL := Lib.hid (rd_lt hr.out)
 cases hq : rdR bs s.l with
 | none =>
  have HRD := Lib.hid (fun u h he => fread_any A n c bs s.l u h hs.out.ll he)
  rw [dRd_none k2 hq] at HRD
  rw [stepS_none hk hq]
  unfold SdQ
  dsimp only
  clear hm hs hk he k1 k2 hq
  go_enter Tryz.func36, Tryz.ntmps36
  go_upto_region 1 with (first | (refine aQl ?_) | (refine aQs ?_; clear HM; intro us HM; dsimp only [List.set] at HM) | (refine aQt ?_; clear HM HSW; intro us HM HSW; dsimp only [List.set] at HM HSW) | (refine aQv ?_; clear HM; intro us HM; dsimp only [List.set] at HM) | (refine aQb ?_) | (refine aQn ?_; first | (have q:dV HM = 0:=rfl;clear q HM;intro g1 u1 HG1 HM) | (have q:dV HM = 1:=rfl;clear q HM;intro g2 u2 HG2 HM) | (have q:dV HM = 2:=rfl;clear q HM;intro g3 u3 HG3 HM) | (have q:dV HM = 3:=rfl;clear q HM;intro g4 u4 HG4 HM)))
  have HR2 := Lib.hid (HM.out.rdA hr.out (by exact HAP.out.cons HAL.out HG2.out))
  go_wp2_with (first | (refine aQl ?_) | (refine aQs ?_; clear HM; intro us HM; dsimp only [List.set] at HM) | (refine aQt ?_; clear HM HSW; intro us HM HSW; dsimp only [List.set] at HM HSW) | (refine aQv ?_; clear HM; intro us HM; dsimp only [List.set] at HM) | (refine aQb ?_) | (refine aQn ?_; first | (have q:dV HM = 0:=rfl;clear q HM;intro g1 u1 HG1 HM) | (have q:dV HM = 1:=rfl;clear q HM;intro g2 u2 HG2 HM) | (have q:dV HM = 2:=rfl;clear q HM;intro g3 u3 HG3 HM) | (have q:dV HM = 3:=rfl;clear q HM;intro g4 u4 HG4 HM)))
  refine (HRD.out _ HR2 (HE.out.below HM.out.1)).mono ?_
  rintro e w3 ⟨rfl, hb⟩
  replace HM := Lib.hid (HM.out.below hb)
  clear hb HRD HR2
  go_wp2_with (first | (first | (refine aQl ?_) | (refine aQs ?_; clear HM; intro us HM; dsimp only [List.set] at HM) | (refine aQt ?_; clear HM HSW; intro us HM HSW; dsimp only [List.set] at HM HSW) | (refine aQv ?_; clear HM; intro us HM; dsimp only [List.set] at HM) | (refine aQb ?_) | (refine aQn ?_; first | (have q:dV HM = 0:=rfl;clear q HM;intro g1 u1 HG1 HM) | (have q:dV HM = 1:=rfl;clear q HM;intro g2 u2 HG2 HM) | (have q:dV HM = 2:=rfl;clear q HM;intro g3 u3 HG3 HM) | (have q:dV HM = 3:=rfl;clear q HM;intro g4 u4 HG4 HM))) | (first | (refine wv_zeroF rfl rfl ?_) | (first | (refine aVn ?_; first | (have q:dV HM = 0:=rfl;clear q HM;intro g1 u1 HG1 HM) | (have q:dV HM = 1:=rfl;clear q HM;intro g2 u2 HG2 HM) | (have q:dV HM = 2:=rfl;clear q HM;intro g3 u3 HG3 HM) | (have q:dV HM = 3:=rfl;clear q HM;intro g4 u4 HG4 HM)) | (refine aVl ?_) | (refine aVs ?_; clear HM; intro us HM; dsimp only [List.set] at HM) | (refine aZe ?_)) | (refine aVe ?_) | (refine aVp ?_; clear HM; intro us HM; dsimp only [List.set] at HM) | (refine aXl ?_)))
  refine bodyPost_ret (v := .tuple #[.agg (icells (zr 16)), .int .i64 21]) (vres_two rfl _ rfl rfl (by exact q7r) HM (by exact q7m) (by exact q7s)) rfl ⟨rfl, rfl, _, (by have HP := HM.out; (repeat (replace HP := HP.popH (by with_reducible assumption))); exact HP)⟩
 | some x =>
  obtain ⟨K, l, q⟩ := x
  obtain ⟨h1, -, -⟩ := rd_one hq
  have hfr := (chkB_iff _ _ _ _).1 h1
  obtain ⟨l6, q16⟩ := gsR_len (rdR_gs hq)
  have HFS := Lib.hid (frS_mk (K := K) l6 q16)
  have HMY := Lib.hid hfr.may
  have HCL := Lib.hid hfr.lev
  have HRD := Lib.hid (fun u h he => fread_any A n c bs s.l u h hs.out.ll he)
  rw [dRd_some k2 hq] at HRD
  obtain ⟨F, hF⟩ : ∃ F, F = frL K l q := ⟨_, rfl⟩
  rw [← hF] at HFS HRD
  have LF := Lib.hid HFS.out.len
  have SL := Lib.hid HFS.out.lev
  have SQ := Lib.hid HFS.out.num
  have LL := Lib.hid l6
  have LQ := Lib.hid q16
  have F0 := Lib.hid (show 0 < F.length ∧ F.getD 0 0 = K from ⟨by rw [HFS.out.len]; decide, HFS.out.k0⟩)
  have HKT := Lib.hid k1
  clear h1 hfr l6 q16 k1 k2 hF
  by_cases h2 : K = 2
  ·subst h2
   rw [stepS_sid hk hq]
   have HNO := Lib.hid (fun (a b : World) (h : Hid (MV w0 a [(m, 70, syC ⟨s.t, s.l, s.live, true, s.seed⟩)] b)) => mnoise_any ⟨s.t, s.l, s.live, true, s.seed⟩ l h (Lib.hid ⟨hs.out.lt, hs.out.ll, hs.out.sd⟩) LL.out HCL.out HKT.out he)
   dsimp only at HNO
   generalize hisS _ = r at HNO ⊢
   obtain ⟨s3, p⟩ := r
   unfold SdQ at HNO ⊢
   dsimp only at HNO ⊢
   clear hm hs hk he hq
   go_enter Tryz.func36, Tryz.ntmps36
   go_upto_region 1 with (first | (refine aQl ?_) | (refine aQs ?_; clear HM; intro us HM; dsimp only [List.set] at HM) | (refine aQt ?_; clear HM HSW; intro us HM HSW; dsimp only [List.set] at HM HSW) | (refine aQv ?_; clear HM; intro us HM; dsimp only [List.set] at HM) | (refine aQb ?_) | (refine aQn ?_; first | (have q:dV HM = 0:=rfl;clear q HM;intro g1 u1 HG1 HM) | (have q:dV HM = 1:=rfl;clear q HM;intro g2 u2 HG2 HM) | (have q:dV HM = 2:=rfl;clear q HM;intro g3 u3 HG3 HM) | (have q:dV HM = 3:=rfl;clear q HM;intro g4 u4 HG4 HM)))
   have HR2 := Lib.hid (HM.out.rdA hr.out (by exact HAP.out.cons HAL.out HG2.out))
   go_wp2_with (first | (refine aQl ?_) | (refine aQs ?_; clear HM; intro us HM; dsimp only [List.set] at HM) | (refine aQt ?_; clear HM HSW; intro us HM HSW; dsimp only [List.set] at HM HSW) | (refine aQv ?_; clear HM; intro us HM; dsimp only [List.set] at HM) | (refine aQb ?_) | (refine aQn ?_; first | (have q:dV HM = 0:=rfl;clear q HM;intro g1 u1 HG1 HM) | (have q:dV HM = 1:=rfl;clear q HM;intro g2 u2 HG2 HM) | (have q:dV HM = 2:=rfl;clear q HM;intro g3 u3 HG3 HM) | (have q:dV HM = 3:=rfl;clear q HM;intro g4 u4 HG4 HM)))
   refine (HRD.out _ HR2 (HE.out.below HM.out.1)).mono ?_
   rintro e w3 ⟨rfl, hb⟩
   replace HM := Lib.hid (HM.out.below hb)
   clear hb HRD HR2
   go_wp2_with (first | (first | (refine aQl ?_) | (refine aQs ?_; clear HM; intro us HM; dsimp only [List.set] at HM) | (refine aQt ?_; clear HM HSW; intro us HM HSW; dsimp only [List.set] at HM HSW) | (refine aQv ?_; clear HM; intro us HM; dsimp only [List.set] at HM) | (refine aQb ?_) | (refine aQn ?_; first | (have q:dV HM = 0:=rfl;clear q HM;intro g1 u1 HG1 HM) | (have q:dV HM = 1:=rfl;clear q HM;intro g2 u2 HG2 HM) | (have q:dV HM = 2:=rfl;clear q HM;intro g3 u3 HG3 HM) | (have q:dV HM = 3:=rfl;clear q HM;intro g4 u4 HG4 HM))) | (first | (refine wv_zeroF rfl rfl ?_) | (first | (refine aVn ?_; first | (have q:dV HM = 0:=rfl;clear q HM;intro g1 u1 HG1 HM) | (have q:dV HM = 1:=rfl;clear q HM;intro g2 u2 HG2 HM) | (have q:dV HM = 2:=rfl;clear q HM;intro g3 u3 HG3 HM) | (have q:dV HM = 3:=rfl;clear q HM;intro g4 u4 HG4 HM)) | (refine aVl ?_) | (refine aVs ?_; clear HM; intro us HM; dsimp only [List.set] at HM) | (refine aZe ?_)) | (refine aVe ?_) | (refine aVp ?_; clear HM; intro us HM; dsimp only [List.set] at HM) | (refine aXl ?_)))
   refine (HNO.out _ _ (Lib.hid (HM.out.sub (by exact q7v)))).mono ?_
   rintro e w4 ⟨rfl, hw, hp, hm⟩
   have HSW3 := Lib.hid hw
   have LP := Lib.hid hp
   have HM2 := Lib.hid (HM.out.after (by exact q7i) hm)
   clear hw hp hm HM HNO HSW
   have HM := HM2
   clear HM2
   dsimp only [List.set] at HM
   go_wp2_with (first | (refine aQl ?_) | (refine aQs ?_; clear HM; intro us HM; dsimp only [List.set] at HM) | (refine aQt ?_; clear HM HSW; intro us HM HSW; dsimp only [List.set] at HM HSW) | (refine aQv ?_; clear HM; intro us HM; dsimp only [List.set] at HM) | (refine aQb ?_) | (refine aQn ?_; first | (have q:dV HM = 0:=rfl;clear q HM;intro g1 u1 HG1 HM) | (have q:dV HM = 1:=rfl;clear q HM;intro g2 u2 HG2 HM) | (have q:dV HM = 2:=rfl;clear q HM;intro g3 u3 HG3 HM) | (have q:dV HM = 3:=rfl;clear q HM;intro g4 u4 HG4 HM)))
   refine bodyPost_ret (v := .tuple #[.agg (icells p), .int .i64 0]) (vres_two rfl _ rfl rfl (by exact q7r) HM (by exact q7m) (by exact q7s)) rfl ⟨rfl, HSW3.out, LP.out, (by have HP := HM.out; (repeat (replace HP := HP.popH (by with_reducible assumption))); exact HP)⟩
  ·have d2 : (K == 2) = false := by simpa using h2
   by_cases h3 : K = 1 ∧ s.live = false
   ·obtain ⟨rfl, h4⟩ := h3
    have HLV := Lib.hid h4
    rw [stepS_late hk hq h4]
    unfold SdQ
    dsimp only
    clear hm hs hk he hq h2 h4
    go_enter Tryz.func36, Tryz.ntmps36
    go_upto_region 1 with (first | (refine aQl ?_) | (refine aQs ?_; clear HM; intro us HM; dsimp only [List.set] at HM) | (refine aQt ?_; clear HM HSW; intro us HM HSW; dsimp only [List.set] at HM HSW) | (refine aQv ?_; clear HM; intro us HM; dsimp only [List.set] at HM) | (refine aQb ?_) | (refine aQn ?_; first | (have q:dV HM = 0:=rfl;clear q HM;intro g1 u1 HG1 HM) | (have q:dV HM = 1:=rfl;clear q HM;intro g2 u2 HG2 HM) | (have q:dV HM = 2:=rfl;clear q HM;intro g3 u3 HG3 HM) | (have q:dV HM = 3:=rfl;clear q HM;intro g4 u4 HG4 HM)))
    have HR2 := Lib.hid (HM.out.rdA hr.out (by exact HAP.out.cons HAL.out HG2.out))
    go_wp2_with (first | (refine aQl ?_) | (refine aQs ?_; clear HM; intro us HM; dsimp only [List.set] at HM) | (refine aQt ?_; clear HM HSW; intro us HM HSW; dsimp only [List.set] at HM HSW) | (refine aQv ?_; clear HM; intro us HM; dsimp only [List.set] at HM) | (refine aQb ?_) | (refine aQn ?_; first | (have q:dV HM = 0:=rfl;clear q HM;intro g1 u1 HG1 HM) | (have q:dV HM = 1:=rfl;clear q HM;intro g2 u2 HG2 HM) | (have q:dV HM = 2:=rfl;clear q HM;intro g3 u3 HG3 HM) | (have q:dV HM = 3:=rfl;clear q HM;intro g4 u4 HG4 HM)))
    refine (HRD.out _ HR2 (HE.out.below HM.out.1)).mono ?_
    rintro e w3 ⟨rfl, hb⟩
    replace HM := Lib.hid (HM.out.below hb)
    clear hb HRD HR2
    go_wp2_with (first | (refine q8w (by rfl) ?_) | (first | (refine aQl ?_) | (refine aQs ?_; clear HM; intro us HM; dsimp only [List.set] at HM) | (refine aQt ?_; clear HM HSW; intro us HM HSW; dsimp only [List.set] at HM HSW) | (refine aQv ?_; clear HM; intro us HM; dsimp only [List.set] at HM) | (refine aQb ?_) | (refine aQn ?_; first | (have q:dV HM = 0:=rfl;clear q HM;intro g1 u1 HG1 HM) | (have q:dV HM = 1:=rfl;clear q HM;intro g2 u2 HG2 HM) | (have q:dV HM = 2:=rfl;clear q HM;intro g3 u3 HG3 HM) | (have q:dV HM = 3:=rfl;clear q HM;intro g4 u4 HG4 HM))) | (first | (refine wv_zeroF rfl rfl ?_) | (first | (refine aVn ?_; first | (have q:dV HM = 0:=rfl;clear q HM;intro g1 u1 HG1 HM) | (have q:dV HM = 1:=rfl;clear q HM;intro g2 u2 HG2 HM) | (have q:dV HM = 2:=rfl;clear q HM;intro g3 u3 HG3 HM) | (have q:dV HM = 3:=rfl;clear q HM;intro g4 u4 HG4 HM)) | (refine aVl ?_) | (refine aVs ?_; clear HM; intro us HM; dsimp only [List.set] at HM) | (refine aZe ?_)) | (refine aVe ?_) | (refine aVp ?_; clear HM; intro us HM; dsimp only [List.set] at HM) | (refine aXl ?_)))
    refine bodyPost_ret (v := .tuple #[.agg (icells (zr 16)), .int .i64 40]) (vres_two rfl _ rfl rfl (by exact q7r) HM (by exact q7m) (by exact q7s)) rfl ⟨rfl, rfl, _, (by have HP := HM.out; (repeat (replace HP := HP.popH (by with_reducible assumption))); exact HP)⟩
   ·rw [stepS_talk hk hq h3 h2]
    have HNO := Lib.hid (fun (a b : World) (h : Hid (MV w0 a [(m, 70, syC s)] b)) => mtalk_any s F K l q h hs HFS.out HMY.out HKT.out he)
    generalize sndS _ _ = r at HNO ⊢
    obtain ⟨s3, p⟩ := r
    unfold SdQ at HNO ⊢
    dsimp only at HNO ⊢
    clear hm hs hk he hq h2
    by_cases h1 : K = 1
    ·subst h1
     have HLV := Lib.hid (show s.live = true by
      cases e : s.live with
      | true => rfl
      | false => exact absurd ⟨rfl, e⟩ h3)
     clear h3
     go_enter Tryz.func36, Tryz.ntmps36
     go_upto_region 1 with (first | (refine aQl ?_) | (refine aQs ?_; clear HM; intro us HM; dsimp only [List.set] at HM) | (refine aQt ?_; clear HM HSW; intro us HM HSW; dsimp only [List.set] at HM HSW) | (refine aQv ?_; clear HM; intro us HM; dsimp only [List.set] at HM) | (refine aQb ?_) | (refine aQn ?_; first | (have q:dV HM = 0:=rfl;clear q HM;intro g1 u1 HG1 HM) | (have q:dV HM = 1:=rfl;clear q HM;intro g2 u2 HG2 HM) | (have q:dV HM = 2:=rfl;clear q HM;intro g3 u3 HG3 HM) | (have q:dV HM = 3:=rfl;clear q HM;intro g4 u4 HG4 HM)))
     have HR2 := Lib.hid (HM.out.rdA hr.out (by exact HAP.out.cons HAL.out HG2.out))
     go_wp2_with (first | (refine aQl ?_) | (refine aQs ?_; clear HM; intro us HM; dsimp only [List.set] at HM) | (refine aQt ?_; clear HM HSW; intro us HM HSW; dsimp only [List.set] at HM HSW) | (refine aQv ?_; clear HM; intro us HM; dsimp only [List.set] at HM) | (refine aQb ?_) | (refine aQn ?_; first | (have q:dV HM = 0:=rfl;clear q HM;intro g1 u1 HG1 HM) | (have q:dV HM = 1:=rfl;clear q HM;intro g2 u2 HG2 HM) | (have q:dV HM = 2:=rfl;clear q HM;intro g3 u3 HG3 HM) | (have q:dV HM = 3:=rfl;clear q HM;intro g4 u4 HG4 HM)))
     refine (HRD.out _ HR2 (HE.out.below HM.out.1)).mono ?_
     rintro e w3 ⟨rfl, hb⟩
     replace HM := Lib.hid (HM.out.below hb)
     clear hb HRD HR2
     go_wp2_with (first | (refine q8w (by rfl) ?_) | (first | (refine aQl ?_) | (refine aQs ?_; clear HM; intro us HM; dsimp only [List.set] at HM) | (refine aQt ?_; clear HM HSW; intro us HM HSW; dsimp only [List.set] at HM HSW) | (refine aQv ?_; clear HM; intro us HM; dsimp only [List.set] at HM) | (refine aQb ?_) | (refine aQn ?_; first | (have q:dV HM = 0:=rfl;clear q HM;intro g1 u1 HG1 HM) | (have q:dV HM = 1:=rfl;clear q HM;intro g2 u2 HG2 HM) | (have q:dV HM = 2:=rfl;clear q HM;intro g3 u3 HG3 HM) | (have q:dV HM = 3:=rfl;clear q HM;intro g4 u4 HG4 HM))) | (first | (refine wv_zeroF rfl rfl ?_) | (first | (refine aVn ?_; first | (have q:dV HM = 0:=rfl;clear q HM;intro g1 u1 HG1 HM) | (have q:dV HM = 1:=rfl;clear q HM;intro g2 u2 HG2 HM) | (have q:dV HM = 2:=rfl;clear q HM;intro g3 u3 HG3 HM) | (have q:dV HM = 3:=rfl;clear q HM;intro g4 u4 HG4 HM)) | (refine aVl ?_) | (refine aVs ?_; clear HM; intro us HM; dsimp only [List.set] at HM) | (refine aZe ?_)) | (refine aVe ?_) | (refine aVp ?_; clear HM; intro us HM; dsimp only [List.set] at HM) | (refine aXl ?_)))
     refine (HNO.out _ _ (Lib.hid (HM.out.sub (by exact q7v)))).mono ?_
     rintro e w4 ⟨rfl, hw, hp, hm⟩
     have HSW3 := Lib.hid hw
     have LP := Lib.hid hp
     have HM2 := Lib.hid (HM.out.after (by exact q7i) hm)
     clear hw hp hm HM HNO HSW
     have HM := HM2
     clear HM2
     dsimp only [List.set] at HM
     go_wp2_with (first | (refine aQl ?_) | (refine aQs ?_; clear HM; intro us HM; dsimp only [List.set] at HM) | (refine aQt ?_; clear HM HSW; intro us HM HSW; dsimp only [List.set] at HM HSW) | (refine aQv ?_; clear HM; intro us HM; dsimp only [List.set] at HM) | (refine aQb ?_) | (refine aQn ?_; first | (have q:dV HM = 0:=rfl;clear q HM;intro g1 u1 HG1 HM) | (have q:dV HM = 1:=rfl;clear q HM;intro g2 u2 HG2 HM) | (have q:dV HM = 2:=rfl;clear q HM;intro g3 u3 HG3 HM) | (have q:dV HM = 3:=rfl;clear q HM;intro g4 u4 HG4 HM)))
     refine bodyPost_ret (v := .tuple #[.agg (icells p), .int .i64 0]) (vres_two rfl _ rfl rfl (by exact q7r) HM (by exact q7m) (by exact q7s)) rfl ⟨rfl, HSW3.out, LP.out, (by have HP := HM.out; (repeat (replace HP := HP.popH (by with_reducible assumption))); exact HP)⟩
    ·have d1 : (K == 1) = false := by simpa using h1
     clear h3 h1
     go_enter Tryz.func36, Tryz.ntmps36
     go_upto_region 1 with (first | (refine aQl ?_) | (refine aQs ?_; clear HM; intro us HM; dsimp only [List.set] at HM) | (refine aQt ?_; clear HM HSW; intro us HM HSW; dsimp only [List.set] at HM HSW) | (refine aQv ?_; clear HM; intro us HM; dsimp only [List.set] at HM) | (refine aQb ?_) | (refine aQn ?_; first | (have q:dV HM = 0:=rfl;clear q HM;intro g1 u1 HG1 HM) | (have q:dV HM = 1:=rfl;clear q HM;intro g2 u2 HG2 HM) | (have q:dV HM = 2:=rfl;clear q HM;intro g3 u3 HG3 HM) | (have q:dV HM = 3:=rfl;clear q HM;intro g4 u4 HG4 HM)))
     have HR2 := Lib.hid (HM.out.rdA hr.out (by exact HAP.out.cons HAL.out HG2.out))
     go_wp2_with (first | (refine aQl ?_) | (refine aQs ?_; clear HM; intro us HM; dsimp only [List.set] at HM) | (refine aQt ?_; clear HM HSW; intro us HM HSW; dsimp only [List.set] at HM HSW) | (refine aQv ?_; clear HM; intro us HM; dsimp only [List.set] at HM) | (refine aQb ?_) | (refine aQn ?_; first | (have q:dV HM = 0:=rfl;clear q HM;intro g1 u1 HG1 HM) | (have q:dV HM = 1:=rfl;clear q HM;intro g2 u2 HG2 HM) | (have q:dV HM = 2:=rfl;clear q HM;intro g3 u3 HG3 HM) | (have q:dV HM = 3:=rfl;clear q HM;intro g4 u4 HG4 HM)))
     refine (HRD.out _ HR2 (HE.out.below HM.out.1)).mono ?_
     rintro e w3 ⟨rfl, hb⟩
     replace HM := Lib.hid (HM.out.below hb)
     clear hb HRD HR2
     go_wp2_with (first | (refine q8w (by rfl) ?_) | (first | (refine aQl ?_) | (refine aQs ?_; clear HM; intro us HM; dsimp only [List.set] at HM) | (refine aQt ?_; clear HM HSW; intro us HM HSW; dsimp only [List.set] at HM HSW) | (refine aQv ?_; clear HM; intro us HM; dsimp only [List.set] at HM) | (refine aQb ?_) | (refine aQn ?_; first | (have q:dV HM = 0:=rfl;clear q HM;intro g1 u1 HG1 HM) | (have q:dV HM = 1:=rfl;clear q HM;intro g2 u2 HG2 HM) | (have q:dV HM = 2:=rfl;clear q HM;intro g3 u3 HG3 HM) | (have q:dV HM = 3:=rfl;clear q HM;intro g4 u4 HG4 HM))) | (first | (refine wv_zeroF rfl rfl ?_) | (first | (refine aVn ?_; first | (have q:dV HM = 0:=rfl;clear q HM;intro g1 u1 HG1 HM) | (have q:dV HM = 1:=rfl;clear q HM;intro g2 u2 HG2 HM) | (have q:dV HM = 2:=rfl;clear q HM;intro g3 u3 HG3 HM) | (have q:dV HM = 3:=rfl;clear q HM;intro g4 u4 HG4 HM)) | (refine aVl ?_) | (refine aVs ?_; clear HM; intro us HM; dsimp only [List.set] at HM) | (refine aZe ?_)) | (refine aVe ?_) | (refine aVp ?_; clear HM; intro us HM; dsimp only [List.set] at HM) | (refine aXl ?_)))
     refine (HNO.out _ _ (Lib.hid (HM.out.sub (by exact q7v)))).mono ?_
     rintro e w4 ⟨rfl, hw, hp, hm⟩
     have HSW3 := Lib.hid hw
     have LP := Lib.hid hp
     have HM2 := Lib.hid (HM.out.after (by exact q7i) hm)
     clear hw hp hm HM HNO HSW
     have HM := HM2
     clear HM2
     dsimp only [List.set] at HM
     go_wp2_with (first | (refine aQl ?_) | (refine aQs ?_; clear HM; intro us HM; dsimp only [List.set] at HM) | (refine aQt ?_; clear HM HSW; intro us HM HSW; dsimp only [List.set] at HM HSW) | (refine aQv ?_; clear HM; intro us HM; dsimp only [List.set] at HM) | (refine aQb ?_) | (refine aQn ?_; first | (have q:dV HM = 0:=rfl;clear q HM;intro g1 u1 HG1 HM) | (have q:dV HM = 1:=rfl;clear q HM;intro g2 u2 HG2 HM) | (have q:dV HM = 2:=rfl;clear q HM;intro g3 u3 HG3 HM) | (have q:dV HM = 3:=rfl;clear q HM;intro g4 u4 HG4 HM)))
     refine bodyPost_ret (v := .tuple #[.agg (icells p), .int .i64 0]) (vres_two rfl _ rfl rfl (by exact q7r) HM (by exact q7m) (by exact q7s)) rfl ⟨rfl, HSW3.out, LP.out, (by have HP := HM.out; (repeat (replace HP := HP.popH (by with_reducible assumption))); exact HP)⟩
def DsQ (w : World) (d : Ds) (e : Ending) (w' : World) : Prop := e = .returned (dsV d) ∧ Below w.heap.size w w' ∧ match d with
 | .ok (s, p) => SyW s ∧ p.length = 16
 | .error z => (z == 0) = false
theorem step_no {s : Sy} {bs : List Nat} (h : okSy s = false) : stepS s bs = .error 1 := by unfold stepS; rw [if_neg (by rw [h]; exact Bool.false_ne_true)]
theorem rest_no {s : Sy} (h : okSy s = false) : restS s = .error 1 := by unfold restS; rw [if_neg (by rw [h]; exact Bool.false_ne_true)]
theorem dsV_form (d : Ds) (h : match d with | .ok (s, p) => SyW s ∧ p.length = 16 | .error z => (z == 0) = false) : ∃ (s : Sy) (p : List Int) (z : Int), SyW s ∧ p.length = 16 ∧ dsV d = .tuple #[.agg (syC s), .agg (icells p), .int .i64 z] := by
 cases d with
 | error z => exact ⟨Sy.z, zr 16, z, syW_z, zr_length 16, rfl⟩
 | ok r => exact ⟨r.1, r.2, 0, h.1, h.2, rfl⟩
theorem step1_any {w0 w : World} {m gb : Nat} (s : Sy) (A : Option Addr) (n c : Nat) (bs : List Nat) (hm : Hid (MV w0 w [(m, 70, syC s)] w)) (hs : Hid (SyW s)) (hk : okSy s = true) (hr : Hid (Rd w A n bs)) (hb : Hid (Blk w gb 34 #[.slice A n c])) (hg : gb ≠ m) (he : Hid (Edg w0)) :
  Calls Tryz.prog 35 #[.pointer (some ⟨m, 0, none⟩), .pointer (some ⟨gb, 0, none⟩)] w (SdQ w0 w m (stepS s bs)) := by
 have HM := hm
 have LZ := Lib.hid (zr_length 16)
 have HAP := Lib.hid (show Apt A n [m] from fun ad e hn g hg => by
  rw [List.mem_singleton] at hg
  subst hg
  exact rd_noM hr.out (hm.out.get (.head _)) (syn8 hs.out) e hn)
 have HAL := Lib.hid (rd_lt hr.out)
 have HST := Lib.hid (fun (u : World) (h : Hid (MV w0 u [(m, 70, syC s)] u)) (h2 : Hid (Rd u A n bs)) => mstep_any s A n c bs h hs hk h2 he)
 have HGB := Lib.hid hg
 have HLT := Lib.hid hb.out.lt
 generalize stepS s bs = d at HST ⊢
 clear hm hk he hg
 go_enter Tryz.func35, Tryz.ntmps35
 go_upto_region 1 with (first | (refine aQl ?_) | (refine aQs ?_; clear HM; intro us HM; dsimp only [List.set] at HM) | (refine aQt ?_; clear HM HSW; intro us HM HSW; dsimp only [List.set] at HM HSW) | (refine aQv ?_; clear HM; intro us HM; dsimp only [List.set] at HM) | (refine aQb ?_) | (refine aQn ?_; first | (have q:dV HM = 0:=rfl;clear q HM;intro g1 u1 HG1 HM) | (have q:dV HM = 1:=rfl;clear q HM;intro g2 u2 HG2 HM) | (have q:dV HM = 2:=rfl;clear q HM;intro g3 u3 HG3 HM) | (have q:dV HM = 3:=rfl;clear q HM;intro g4 u4 HG4 HM)))
 have HR2 := Lib.hid (HM.out.rdA hr.out (by exact HAP.out.cons HAL.out HG2.out))
 have hcl := (HM.out.keep hb.out (fun e he => by
  simp only [List.mem_cons, List.not_mem_nil, or_false] at he
  have h1 := HLT.out
  have h2 := HG2.out
  rcases he with rfl | rfl
  ·show g2 ≠ gb; omega
  ·exact HGB.out.symm)).cell 0
 go_wp2_with (first | (refine aQl ?_) | (refine aQs ?_; clear HM; intro us HM; dsimp only [List.set] at HM) | (refine aQt ?_; clear HM HSW; intro us HM HSW; dsimp only [List.set] at HM HSW) | (refine aQv ?_; clear HM; intro us HM; dsimp only [List.set] at HM) | (refine aQb ?_) | (refine aQn ?_; first | (have q:dV HM = 0:=rfl;clear q HM;intro g1 u1 HG1 HM) | (have q:dV HM = 1:=rfl;clear q HM;intro g2 u2 HG2 HM) | (have q:dV HM = 2:=rfl;clear q HM;intro g3 u3 HG3 HM) | (have q:dV HM = 3:=rfl;clear q HM;intro g4 u4 HG4 HM)))
 refine (HST.out _ (Lib.hid (HM.out.sub (by exact q7v))) HR2).mono ?_
 intro e w4 ho
 cases d with
 | error z =>
  obtain ⟨hz, rfl, cs, hm⟩ := ho
  have HZ := Lib.hid hz
  have HM2 := Lib.hid (HM.out.after (by exact q7i) hm)
  clear hz hm HM HST hcl HR2
  have HM := HM2
  clear HM2
  dsimp only [List.set] at HM
  go_wp2_with (first | (refine aQl ?_) | (refine aQs ?_; clear HM; intro us HM; dsimp only [List.set] at HM) | (refine aQt ?_; clear HM HSW; intro us HM HSW; dsimp only [List.set] at HM HSW) | (refine aQv ?_; clear HM; intro us HM; dsimp only [List.set] at HM) | (refine aQb ?_) | (refine aQn ?_; first | (have q:dV HM = 0:=rfl;clear q HM;intro g1 u1 HG1 HM) | (have q:dV HM = 1:=rfl;clear q HM;intro g2 u2 HG2 HM) | (have q:dV HM = 2:=rfl;clear q HM;intro g3 u3 HG3 HM) | (have q:dV HM = 3:=rfl;clear q HM;intro g4 u4 HG4 HM)))
  refine bodyPost_ret (v := .tuple #[.agg (icells (zr 16)), .int .i64 z]) (vres_two rfl _ rfl rfl (by exact q7r) HM (by exact q7m) (by exact q7s)) rfl ⟨HZ.out, rfl, _, (by have HP := HM.out; (repeat (replace HP := HP.popH (by with_reducible assumption))); exact HP)⟩
 | ok r =>
  obtain ⟨s3, p⟩ := r
  obtain ⟨rfl, hw, hp, hm⟩ := ho
  have HSW3 := Lib.hid hw
  have LP := Lib.hid hp
  have HM2 := Lib.hid (HM.out.after (by exact q7i) hm)
  clear hw hp hm HM HST hcl HR2
  have HM := HM2
  clear HM2
  dsimp only [List.set] at HM
  go_wp2_with (first | (refine aQl ?_) | (refine aQs ?_; clear HM; intro us HM; dsimp only [List.set] at HM) | (refine aQt ?_; clear HM HSW; intro us HM HSW; dsimp only [List.set] at HM HSW) | (refine aQv ?_; clear HM; intro us HM; dsimp only [List.set] at HM) | (refine aQb ?_) | (refine aQn ?_; first | (have q:dV HM = 0:=rfl;clear q HM;intro g1 u1 HG1 HM) | (have q:dV HM = 1:=rfl;clear q HM;intro g2 u2 HG2 HM) | (have q:dV HM = 2:=rfl;clear q HM;intro g3 u3 HG3 HM) | (have q:dV HM = 3:=rfl;clear q HM;intro g4 u4 HG4 HM)))
  refine bodyPost_ret (v := .tuple #[.agg (icells p), .int .i64 0]) (vres_two rfl _ rfl rfl (by exact q7r) HM (by exact q7m) (by exact q7s)) rfl ⟨rfl, HSW3.out, LP.out, (by have HP := HM.out; (repeat (replace HP := HP.popH (by with_reducible assumption))); exact HP)⟩
theorem pstep_any (s : Sy) (A : Option Addr) (n c : Nat) (bs : List Nat) (w : World) (hs : Hid (SyW s)) (hr : Hid (Rd w A n bs)) (he : Edg w) :
  Calls Tryz.prog 15 #[.agg (syC s), .slice A n c] w (DsQ w (stepS s bs)) := by
 have HM := Lib.hid (MV.start w)
 have HE := Lib.hid he
 have HSW := hs
 have LZ := Lib.hid (zr_length 16)
 have HSAY := Lib.hid (fun (u : World) (m gb : Nat) (h : Hid (MV w u [(m, 70, syC s)] u)) (hb : Hid (Blk u gb 34 #[.slice A n c])) (hg : gb ≠ m) => say_any s (stepS s bs) 35 #[] #[.pointer (some ⟨m, 0, none⟩), .pointer (some ⟨gb, 0, none⟩)] (enters_of Tryz.func35 (by kernel_rfl) rfl) h hs step_no (Lib.hid fun hk v hv => step1_any s A n c bs (Lib.hid hv.base) hs hk (Lib.hid (hr.out.below hv.1)) (Lib.hid (hv.keep hb.out (fun e he => by
  rw [List.mem_singleton] at he
  subst he
  exact hg.symm))) hg (Lib.hid he)))
 unfold SayQ at HSAY
 clear he hs hr
 go_enter Tryz.func15, Tryz.ntmps15
 go_wp2_with (first | (first | (refine aQl ?_) | (refine aQs ?_; clear HM; intro us HM; dsimp only [List.set] at HM) | (refine aQt ?_; clear HM HSW; intro us HM HSW; dsimp only [List.set] at HM HSW) | (refine aQv ?_; clear HM; intro us HM; dsimp only [List.set] at HM) | (refine aQb ?_) | (refine aQn ?_; first | (have q:dV HM = 0:=rfl;clear q HM;intro g1 u1 HG1 HM) | (have q:dV HM = 1:=rfl;clear q HM;intro g2 u2 HG2 HM) | (have q:dV HM = 2:=rfl;clear q HM;intro g3 u3 HG3 HM) | (have q:dV HM = 3:=rfl;clear q HM;intro g4 u4 HG4 HM) | (have q:dV HM = 4:=rfl;clear q HM;intro g5 u5 HG5 HM) | (have q:dV HM = 5:=rfl;clear q HM;intro g6 u6 HG6 HM))) | (refine aBn ?_; first | (have q:dV HM = 0:=rfl;clear q HM;intro g1 u1 HG1 HM) | (have q:dV HM = 1:=rfl;clear q HM;intro g2 u2 HG2 HM) | (have q:dV HM = 2:=rfl;clear q HM;intro g3 u3 HG3 HM) | (have q:dV HM = 3:=rfl;clear q HM;intro g4 u4 HG4 HM) | (have q:dV HM = 4:=rfl;clear q HM;intro g5 u5 HG5 HM) | (have q:dV HM = 5:=rfl;clear q HM;intro g6 u6 HG6 HM)))
 refine (HSAY.out _ g5 g2 (Lib.hid (HM.out.sub (by exact q7v))) (Lib.hid (HM.out.get (by exact q7m))) (by have h := HM.out.2.2.2.1; intro e; subst e; simp at h)).mono ?_
 rintro e w4 ⟨rfl, ⟨cs, hm⟩, hf⟩
 have HF := Lib.hid hf
 obtain ⟨s3, p, z, hw, hp, hv⟩ := dsV_form _ hf
 rw [hv]
 have HV := Lib.hid hv
 have HSW3 := Lib.hid hw
 have LP := Lib.hid hp
 have HM2 := Lib.hid (HM.out.after (by exact q7i) hm)
 clear hw hp hm HM HSAY hv hf
 have HM := HM2
 clear HM2
 dsimp only [List.set] at HM
 go_wp2_with (first | (refine aQl ?_) | (refine aQs ?_; clear HM; intro us HM; dsimp only [List.set] at HM) | (refine aQt ?_; clear HM HSW; intro us HM HSW; dsimp only [List.set] at HM HSW) | (refine aQv ?_; clear HM; intro us HM; dsimp only [List.set] at HM) | (refine aQb ?_) | (refine aQn ?_; first | (have q:dV HM = 0:=rfl;clear q HM;intro g1 u1 HG1 HM) | (have q:dV HM = 1:=rfl;clear q HM;intro g2 u2 HG2 HM) | (have q:dV HM = 2:=rfl;clear q HM;intro g3 u3 HG3 HM) | (have q:dV HM = 3:=rfl;clear q HM;intro g4 u4 HG4 HM) | (have q:dV HM = 4:=rfl;clear q HM;intro g5 u5 HG5 HM) | (have q:dV HM = 5:=rfl;clear q HM;intro g6 u6 HG6 HM)))
 refine bodyPost_ret (v := .tuple #[.agg (syC s3), .agg (icells p), .int .i64 z]) (vres_css rfl _ rfl rfl rfl rowSyn (by exact q7r) HM (by exact q7m) (by exact q7m) (by exact q7z) (by exact q7s)) rfl ⟨by rw [HV.out], HM.out.1, HF.out⟩
theorem prest_any (s : Sy) (w : World) (hs : Hid (SyW s)) (he : Edg w) :
  Calls Tryz.prog 18 #[.agg (syC s)] w (DsQ w (restS s)) := by
 have HM := Lib.hid (MV.start w)
 have HE := Lib.hid he
 have HSW := hs
 have LZ := Lib.hid (zr_length 16)
 have HSAY := Lib.hid (fun (u : World) (m : Nat) (h : Hid (MV w u [(m, 70, syC s)] u)) => say_any s (restS s) 39 #[.pointer (some ⟨m, 0, none⟩)] #[] (enters_of Tryz.func39 (by kernel_rfl) rfl) h hs rest_no (Lib.hid fun hk v hv => mrest_any s (Lib.hid hv.base) hs hk (Lib.hid he)))
 unfold SayQ at HSAY
 clear he hs
 go_enter Tryz.func18, Tryz.ntmps18
 go_wp2_with (first | (refine aQl ?_) | (refine aQs ?_; clear HM; intro us HM; dsimp only [List.set] at HM) | (refine aQt ?_; clear HM HSW; intro us HM HSW; dsimp only [List.set] at HM HSW) | (refine aQv ?_; clear HM; intro us HM; dsimp only [List.set] at HM) | (refine aQb ?_) | (refine aQn ?_; first | (have q:dV HM = 0:=rfl;clear q HM;intro g1 u1 HG1 HM) | (have q:dV HM = 1:=rfl;clear q HM;intro g2 u2 HG2 HM) | (have q:dV HM = 2:=rfl;clear q HM;intro g3 u3 HG3 HM) | (have q:dV HM = 3:=rfl;clear q HM;intro g4 u4 HG4 HM) | (have q:dV HM = 4:=rfl;clear q HM;intro g5 u5 HG5 HM)))
 refine (HSAY.out _ g4 (Lib.hid (HM.out.sub (by exact q7v)))).mono ?_
 rintro e w4 ⟨rfl, ⟨cs, hm⟩, hf⟩
 have HF := Lib.hid hf
 obtain ⟨s3, p, z, hw, hp, hv⟩ := dsV_form _ hf
 rw [hv]
 have HV := Lib.hid hv
 have HSW3 := Lib.hid hw
 have LP := Lib.hid hp
 have HM2 := Lib.hid (HM.out.after (by exact q7i) hm)
 clear hw hp hm HM HSAY hv hf
 have HM := HM2
 clear HM2
 dsimp only [List.set] at HM
 go_wp2_with (first | (refine aQl ?_) | (refine aQs ?_; clear HM; intro us HM; dsimp only [List.set] at HM) | (refine aQt ?_; clear HM HSW; intro us HM HSW; dsimp only [List.set] at HM HSW) | (refine aQv ?_; clear HM; intro us HM; dsimp only [List.set] at HM) | (refine aQb ?_) | (refine aQn ?_; first | (have q:dV HM = 0:=rfl;clear q HM;intro g1 u1 HG1 HM) | (have q:dV HM = 1:=rfl;clear q HM;intro g2 u2 HG2 HM) | (have q:dV HM = 2:=rfl;clear q HM;intro g3 u3 HG3 HM) | (have q:dV HM = 3:=rfl;clear q HM;intro g4 u4 HG4 HM) | (have q:dV HM = 4:=rfl;clear q HM;intro g5 u5 HG5 HM)))
 refine bodyPost_ret (v := .tuple #[.agg (syC s3), .agg (icells p), .int .i64 z]) (vres_css rfl _ rfl rfl rfl rowSyn (by exact q7r) HM (by exact q7m) (by exact q7m) (by exact q7z) (by exact q7s)) rfl ⟨by rw [HV.out], HM.out.1, HF.out⟩
open Yr (Fr chkB chkB_iff nearB nearN wrB wrB_len)
theorem run_build_i1 (v : Int) (w : World) : (Instr.buildSlice 23 1 #[(0, .int .i64 v)]).run Tryz.prog w = .ok (.slice (some ⟨w.heap.size, 0, none⟩) 1 1) (w.alloc (.cells (icells [v]) 3)) := by
 have hz : (zeroValue 3).run Tryz.prog w = .ok (.int .i64 0) w := by kernel_rfl
 simp only [Instr.buildSlice, Sem.run_bind, run_underlying Tryz.underlying23 w, Result.andThen_ok, arn_elem w]
 rw [if_neg (by decide), if_neg (by decide)]
 simp only [Sem.run_bind, hz, Result.andThen_ok, Sem.run_pure, Value.cells]
 have hf : Instr.fill (fun i => some (i * 1, 1)) ((Array.range (1 * 1)).map (fun x => #[Value.int IntKind.i64 0][x % #[Value.int IntKind.i64 0].size]!)) [(0, Value.int IntKind.i64 v)] = some (icells [v]) := by kernel_rfl
 rw [hf]
 rfl
theorem run_build_i2 (v x : Int) (w : World) : (Instr.buildSlice 23 2 #[(0, .int .i64 v), (1, .int .i64 x)]).run Tryz.prog w = .ok (.slice (some ⟨w.heap.size, 0, none⟩) 2 2) (w.alloc (.cells (icells [v, x]) 3)) := by
 have hz : (zeroValue 3).run Tryz.prog w = .ok (.int .i64 0) w := by kernel_rfl
 simp only [Instr.buildSlice, Sem.run_bind, run_underlying Tryz.underlying23 w, Result.andThen_ok, arn_elem w]
 rw [if_neg (by decide), if_neg (by decide)]
 simp only [Sem.run_bind, hz, Result.andThen_ok, Sem.run_pure, Value.cells]
 have hf : Instr.fill (fun i => some (i * 1, 1)) ((Array.range (2 * 1)).map (fun x => #[Value.int IntKind.i64 0][x % #[Value.int IntKind.i64 0].size]!)) [(0, Value.int IntKind.i64 v), (1, Value.int IntKind.i64 x)] = some (icells [v, x]) := by kernel_rfl
 rw [hf]
 rfl
section
variable {ops : Array Oper} {rest : List Oper} {o : Oper} {a : Act} {w w0 w1 : World} {Q : Exit → Act → World → Prop} {L : List Ent}
theorem wv_i1 (hgd : Region.wanted o (yielded ops a.tmps) = true) (x : Operand) (ho : o.op = .buildSlice 23 1 #[(0, x)]) {v : Int} (hx : a.eval x = .int .i64 v) (hm : Hid (MV w0 w1 L w))
  (h : ∀ g w', Hid (w1.heap.size ≤ g) → Hid (MV w0 w1 ((g, 3, icells [v]) :: L) w') → wpList Tryz.prog ops Q rest (a.put o.dst (.slice (some ⟨g, 0, none⟩) 1 1)) w') : wpList Tryz.prog ops Q (o :: rest) a w :=
 wl_step hgd fun K hK => by
  have := hK _ _ (h w.heap.size _ (Lib.hid hm.out.2.2.2.2.1) (Lib.hid (hm.out.alloc 3 _)))
  unfold Oper.wp execOp
  simp only [ho, List.map_toArray, List.map_cons, List.map_nil, hx, Sem.run_bind, run_build_i1 v w, Result.andThen_ok, Sem.run_pure]
  exact this
theorem wv_i2 (hgd : Region.wanted o (yielded ops a.tmps) = true) (x y : Operand) (ho : o.op = .buildSlice 23 2 #[(0, x), (1, y)]) {v z : Int} (hx : a.eval x = .int .i64 v) (hy : a.eval y = .int .i64 z) (hm : Hid (MV w0 w1 L w))
  (h : ∀ g w', Hid (w1.heap.size ≤ g) → Hid (MV w0 w1 ((g, 3, icells [v, z]) :: L) w') → wpList Tryz.prog ops Q rest (a.put o.dst (.slice (some ⟨g, 0, none⟩) 2 2)) w') : wpList Tryz.prog ops Q (o :: rest) a w :=
 wl_step hgd fun K hK => by
  have := hK _ _ (h w.heap.size _ (Lib.hid hm.out.2.2.2.2.1) (Lib.hid (hm.out.alloc 3 _)))
  unfold Oper.wp execOp
  simp only [ho, List.map_toArray, List.map_cons, List.map_nil, hx, hy, Sem.run_bind, run_build_i2 v z w, Result.andThen_ok, Sem.run_pure]
  exact this
end
theorem inR_one {hi v : Int} (h : 0 ≤ v ∧ v ≤ hi) : inR 0 hi [v] = true := (inR_iff (n := 1) rfl).2 fun k hk => by
 obtain rfl : k = 0 := by omega
 exact h
theorem inR_two {hi v z : Int} (h : 0 ≤ v ∧ v ≤ hi) (h2 : 0 ≤ z ∧ z ≤ hi) : inR 0 hi [v, z] = true := (inR_iff (n := 2) rfl).2 fun k hk => by
 rcases Nat.lt_or_ge k 1 with h3 | h3
 ·obtain rfl : k = 0 := by omega
  exact h
 ·obtain rfl : k = 1 := by omega
  exact h2
theorem tcheck_any (t : Ty) (w : World) (ht : Hid (TyW t)) (hk : TyOk t) :
  Calls Tryz.prog 27 #[.agg (tyC t)] w (ValQ w (.int .i64 0)) := by
 have HM := Lib.hid (MV.start w)
 have HTW := ht
 have HLC := Lib.hid (fun u => check_any t.p true 0 u ht.out.lp hk.okp rfl)
 have HDC := Lib.hid (fun u => pcheck_any t.s 0 u (Lib.hid ht.out.sy) (by rw [if_pos hk.oks]))
 have HC1 := Lib.hid (fun (A : Option Addr) (u : World) (h : Hid (RdI u A 1 [t.hang])) => isCount_any 4 A 1 1 [t.hang] true u h (by unfold maxLen; omega) (inR_one hk.hang))
 have HC2 := Lib.hid (fun (A : Option Addr) (u : World) (h : Hid (RdI u A 2 [t.sent, t.quiet])) => isCount_any 1099511627776 A 2 2 [t.sent, t.quiet] true u h (by unfold maxLen; omega) (inR_two hk.sent hk.quiet))
 clear ht hk
 go_enter Tryz.func27, Tryz.ntmps27
 go_wp2_with (first | (refine tQl ?_) | (refine tQs ?_; clear HM; intro us HM; dsimp only [List.set] at HM) | (refine tQt ?_; clear HM HTW; intro us HM HTW; dsimp only [List.set] at HM HTW) | (refine tQb ?_) | (refine tQn ?_; first | (have q:dV HM = 0:=rfl;clear q HM;intro g1 u1 HG1 HM) | (have q:dV HM = 1:=rfl;clear q HM;intro g2 u2 HG2 HM) | (have q:dV HM = 2:=rfl;clear q HM;intro g3 u3 HG3 HM) | (have q:dV HM = 3:=rfl;clear q HM;intro g4 u4 HG4 HM) | (have q:dV HM = 4:=rfl;clear q HM;intro g5 u5 HG5 HM) | (have q:dV HM = 5:=rfl;clear q HM;intro g6 u6 HG6 HM) | (have q:dV HM = 6:=rfl;clear q HM;intro g7 u7 HG7 HM) | (have q:dV HM = 7:=rfl;clear q HM;intro g8 u8 HG8 HM) | (have q:dV HM = 8:=rfl;clear q HM;intro g9 u9 HG9 HM) | (have q:dV HM = 9:=rfl;clear q HM;intro g10 u10 HG10 HM)) | (first | (refine aQl ?_) | (refine aQs ?_; clear HM; intro us HM; dsimp only [List.set] at HM) | (refine aQt ?_; clear HM HSW; intro us HM HSW; dsimp only [List.set] at HM HSW) | (refine aQv ?_; clear HM; intro us HM; dsimp only [List.set] at HM) | (refine aQb ?_) | (refine aQn ?_; first | (have q:dV HM = 0:=rfl;clear q HM;intro g1 u1 HG1 HM) | (have q:dV HM = 1:=rfl;clear q HM;intro g2 u2 HG2 HM) | (have q:dV HM = 2:=rfl;clear q HM;intro g3 u3 HG3 HM) | (have q:dV HM = 3:=rfl;clear q HM;intro g4 u4 HG4 HM) | (have q:dV HM = 4:=rfl;clear q HM;intro g5 u5 HG5 HM) | (have q:dV HM = 5:=rfl;clear q HM;intro g6 u6 HG6 HM) | (have q:dV HM = 6:=rfl;clear q HM;intro g7 u7 HG7 HM) | (have q:dV HM = 7:=rfl;clear q HM;intro g8 u8 HG8 HM) | (have q:dV HM = 8:=rfl;clear q HM;intro g9 u9 HG9 HM) | (have q:dV HM = 9:=rfl;clear q HM;intro g10 u10 HG10 HM))))
 refine (HLC.out _).mono ?_
 rintro e w2 ⟨rfl, hb⟩
 replace HM := Lib.hid (HM.out.below hb)
 clear hb HLC
 go_wp2_with (first | (refine tQl ?_) | (refine tQs ?_; clear HM; intro us HM; dsimp only [List.set] at HM) | (refine tQt ?_; clear HM HTW; intro us HM HTW; dsimp only [List.set] at HM HTW) | (refine tQb ?_) | (refine tQn ?_; first | (have q:dV HM = 0:=rfl;clear q HM;intro g1 u1 HG1 HM) | (have q:dV HM = 1:=rfl;clear q HM;intro g2 u2 HG2 HM) | (have q:dV HM = 2:=rfl;clear q HM;intro g3 u3 HG3 HM) | (have q:dV HM = 3:=rfl;clear q HM;intro g4 u4 HG4 HM) | (have q:dV HM = 4:=rfl;clear q HM;intro g5 u5 HG5 HM) | (have q:dV HM = 5:=rfl;clear q HM;intro g6 u6 HG6 HM) | (have q:dV HM = 6:=rfl;clear q HM;intro g7 u7 HG7 HM) | (have q:dV HM = 7:=rfl;clear q HM;intro g8 u8 HG8 HM) | (have q:dV HM = 8:=rfl;clear q HM;intro g9 u9 HG9 HM) | (have q:dV HM = 9:=rfl;clear q HM;intro g10 u10 HG10 HM)) | (first | (refine aQl ?_) | (refine aQs ?_; clear HM; intro us HM; dsimp only [List.set] at HM) | (refine aQt ?_; clear HM HSW; intro us HM HSW; dsimp only [List.set] at HM HSW) | (refine aQv ?_; clear HM; intro us HM; dsimp only [List.set] at HM) | (refine aQb ?_) | (refine aQn ?_; first | (have q:dV HM = 0:=rfl;clear q HM;intro g1 u1 HG1 HM) | (have q:dV HM = 1:=rfl;clear q HM;intro g2 u2 HG2 HM) | (have q:dV HM = 2:=rfl;clear q HM;intro g3 u3 HG3 HM) | (have q:dV HM = 3:=rfl;clear q HM;intro g4 u4 HG4 HM) | (have q:dV HM = 4:=rfl;clear q HM;intro g5 u5 HG5 HM) | (have q:dV HM = 5:=rfl;clear q HM;intro g6 u6 HG6 HM) | (have q:dV HM = 6:=rfl;clear q HM;intro g7 u7 HG7 HM) | (have q:dV HM = 7:=rfl;clear q HM;intro g8 u8 HG8 HM) | (have q:dV HM = 8:=rfl;clear q HM;intro g9 u9 HG9 HM) | (have q:dV HM = 9:=rfl;clear q HM;intro g10 u10 HG10 HM))))
 refine (HDC.out _).mono ?_
 rintro e w2 ⟨rfl, hb⟩
 replace HM := Lib.hid (HM.out.below hb)
 clear hb HDC
 go_wp2_with (first | ((first | refine wv_i1 rfl _ rfl rfl HM ?_ | refine wv_i2 rfl _ _ rfl rfl rfl HM ?_); clear HM; intro gI uI HGI HM) | (first | (refine tQl ?_) | (refine tQs ?_; clear HM; intro us HM; dsimp only [List.set] at HM) | (refine tQt ?_; clear HM HTW; intro us HM HTW; dsimp only [List.set] at HM HTW) | (refine tQb ?_) | (refine tQn ?_; first | (have q:dV HM = 0:=rfl;clear q HM;intro g1 u1 HG1 HM) | (have q:dV HM = 1:=rfl;clear q HM;intro g2 u2 HG2 HM) | (have q:dV HM = 2:=rfl;clear q HM;intro g3 u3 HG3 HM) | (have q:dV HM = 3:=rfl;clear q HM;intro g4 u4 HG4 HM) | (have q:dV HM = 4:=rfl;clear q HM;intro g5 u5 HG5 HM) | (have q:dV HM = 5:=rfl;clear q HM;intro g6 u6 HG6 HM) | (have q:dV HM = 6:=rfl;clear q HM;intro g7 u7 HG7 HM) | (have q:dV HM = 7:=rfl;clear q HM;intro g8 u8 HG8 HM) | (have q:dV HM = 8:=rfl;clear q HM;intro g9 u9 HG9 HM) | (have q:dV HM = 9:=rfl;clear q HM;intro g10 u10 HG10 HM)) | (first | (refine aQl ?_) | (refine aQs ?_; clear HM; intro us HM; dsimp only [List.set] at HM) | (refine aQt ?_; clear HM HSW; intro us HM HSW; dsimp only [List.set] at HM HSW) | (refine aQv ?_; clear HM; intro us HM; dsimp only [List.set] at HM) | (refine aQb ?_) | (refine aQn ?_; first | (have q:dV HM = 0:=rfl;clear q HM;intro g1 u1 HG1 HM) | (have q:dV HM = 1:=rfl;clear q HM;intro g2 u2 HG2 HM) | (have q:dV HM = 2:=rfl;clear q HM;intro g3 u3 HG3 HM) | (have q:dV HM = 3:=rfl;clear q HM;intro g4 u4 HG4 HM) | (have q:dV HM = 4:=rfl;clear q HM;intro g5 u5 HG5 HM) | (have q:dV HM = 5:=rfl;clear q HM;intro g6 u6 HG6 HM) | (have q:dV HM = 6:=rfl;clear q HM;intro g7 u7 HG7 HM) | (have q:dV HM = 7:=rfl;clear q HM;intro g8 u8 HG8 HM) | (have q:dV HM = 8:=rfl;clear q HM;intro g9 u9 HG9 HM) | (have q:dV HM = 9:=rfl;clear q HM;intro g10 u10 HG10 HM)))))
 refine (HC1.out _ _ (Lib.hid (RdI.of_blk (HM.out.get (.head _)) rfl))).mono ?_
 rintro e w2 ⟨rfl, rfl⟩
 clear HC1
 go_wp2_with (first | ((first | refine wv_i1 rfl _ rfl rfl HM ?_ | refine wv_i2 rfl _ _ rfl rfl rfl HM ?_); clear HM; intro gJ uJ HGJ HM) | (first | (refine tQl ?_) | (refine tQs ?_; clear HM; intro us HM; dsimp only [List.set] at HM) | (refine tQt ?_; clear HM HTW; intro us HM HTW; dsimp only [List.set] at HM HTW) | (refine tQb ?_) | (refine tQn ?_; first | (have q:dV HM = 0:=rfl;clear q HM;intro g1 u1 HG1 HM) | (have q:dV HM = 1:=rfl;clear q HM;intro g2 u2 HG2 HM) | (have q:dV HM = 2:=rfl;clear q HM;intro g3 u3 HG3 HM) | (have q:dV HM = 3:=rfl;clear q HM;intro g4 u4 HG4 HM) | (have q:dV HM = 4:=rfl;clear q HM;intro g5 u5 HG5 HM) | (have q:dV HM = 5:=rfl;clear q HM;intro g6 u6 HG6 HM) | (have q:dV HM = 6:=rfl;clear q HM;intro g7 u7 HG7 HM) | (have q:dV HM = 7:=rfl;clear q HM;intro g8 u8 HG8 HM) | (have q:dV HM = 8:=rfl;clear q HM;intro g9 u9 HG9 HM) | (have q:dV HM = 9:=rfl;clear q HM;intro g10 u10 HG10 HM)) | (first | (refine aQl ?_) | (refine aQs ?_; clear HM; intro us HM; dsimp only [List.set] at HM) | (refine aQt ?_; clear HM HSW; intro us HM HSW; dsimp only [List.set] at HM HSW) | (refine aQv ?_; clear HM; intro us HM; dsimp only [List.set] at HM) | (refine aQb ?_) | (refine aQn ?_; first | (have q:dV HM = 0:=rfl;clear q HM;intro g1 u1 HG1 HM) | (have q:dV HM = 1:=rfl;clear q HM;intro g2 u2 HG2 HM) | (have q:dV HM = 2:=rfl;clear q HM;intro g3 u3 HG3 HM) | (have q:dV HM = 3:=rfl;clear q HM;intro g4 u4 HG4 HM) | (have q:dV HM = 4:=rfl;clear q HM;intro g5 u5 HG5 HM) | (have q:dV HM = 5:=rfl;clear q HM;intro g6 u6 HG6 HM) | (have q:dV HM = 6:=rfl;clear q HM;intro g7 u7 HG7 HM) | (have q:dV HM = 7:=rfl;clear q HM;intro g8 u8 HG8 HM) | (have q:dV HM = 8:=rfl;clear q HM;intro g9 u9 HG9 HM) | (have q:dV HM = 9:=rfl;clear q HM;intro g10 u10 HG10 HM)))))
 refine (HC2.out _ _ (Lib.hid (RdI.of_blk (HM.out.get (.head _)) rfl))).mono ?_
 rintro e w2 ⟨rfl, rfl⟩
 clear HC2
 go_wp2_with (first | (refine tQl ?_) | (refine tQs ?_; clear HM; intro us HM; dsimp only [List.set] at HM) | (refine tQt ?_; clear HM HTW; intro us HM HTW; dsimp only [List.set] at HM HTW) | (refine tQb ?_) | (refine tQn ?_; first | (have q:dV HM = 0:=rfl;clear q HM;intro g1 u1 HG1 HM) | (have q:dV HM = 1:=rfl;clear q HM;intro g2 u2 HG2 HM) | (have q:dV HM = 2:=rfl;clear q HM;intro g3 u3 HG3 HM) | (have q:dV HM = 3:=rfl;clear q HM;intro g4 u4 HG4 HM) | (have q:dV HM = 4:=rfl;clear q HM;intro g5 u5 HG5 HM) | (have q:dV HM = 5:=rfl;clear q HM;intro g6 u6 HG6 HM) | (have q:dV HM = 6:=rfl;clear q HM;intro g7 u7 HG7 HM) | (have q:dV HM = 7:=rfl;clear q HM;intro g8 u8 HG8 HM) | (have q:dV HM = 8:=rfl;clear q HM;intro g9 u9 HG9 HM) | (have q:dV HM = 9:=rfl;clear q HM;intro g10 u10 HG10 HM)) | (first | (refine aQl ?_) | (refine aQs ?_; clear HM; intro us HM; dsimp only [List.set] at HM) | (refine aQt ?_; clear HM HSW; intro us HM HSW; dsimp only [List.set] at HM HSW) | (refine aQv ?_; clear HM; intro us HM; dsimp only [List.set] at HM) | (refine aQb ?_) | (refine aQn ?_; first | (have q:dV HM = 0:=rfl;clear q HM;intro g1 u1 HG1 HM) | (have q:dV HM = 1:=rfl;clear q HM;intro g2 u2 HG2 HM) | (have q:dV HM = 2:=rfl;clear q HM;intro g3 u3 HG3 HM) | (have q:dV HM = 3:=rfl;clear q HM;intro g4 u4 HG4 HM) | (have q:dV HM = 4:=rfl;clear q HM;intro g5 u5 HG5 HM) | (have q:dV HM = 5:=rfl;clear q HM;intro g6 u6 HG6 HM) | (have q:dV HM = 6:=rfl;clear q HM;intro g7 u7 HG7 HM) | (have q:dV HM = 7:=rfl;clear q HM;intro g8 u8 HG8 HM) | (have q:dV HM = 8:=rfl;clear q HM;intro g9 u9 HG9 HM) | (have q:dV HM = 9:=rfl;clear q HM;intro g10 u10 HG10 HM))))
 go_ret
 exact ⟨rfl, HM.out.1⟩
theorem emeasure_any (p q : List Int) (w : World) (lp : p.length = 16) (lq : q.length = 16) (hp : okP p = true) (hq : okP q = true) (he : Edg w) :
  Calls Tryz.prog 47 #[.agg (icells p), .agg (icells q)] w (ValQ w (.tuple #[.agg (icells (fwdL p q)), .agg (icells (measL (fwdL p q))), .int .i64 0])) := by
 have HM := Lib.hid (MV.start w)
 have HE := Lib.hid he
 have LP := Lib.hid lp
 have LQ := Lib.hid lq
 have LZ := Lib.hid (zr_length 16)
 have LZ6 := Lib.hid (zr_length 6)
 have HF := Lib.hid (fun u => forward_any p q u lp lq)
 rw [show fwdV p q = .tuple #[.agg (icells (fwdL p q)), .int .i64 0] by unfold fwdV; rw [if_pos ⟨hp, hq⟩]] at HF
 have LX := Lib.hid (show (fwdL p q).length = 16 from tab_length _ _)
 have HMS := Lib.hid (fun u (h : Edg u) => meas_any (fwdL p q) u LX.out h)
 rw [show measV (fwdL p q) = .tuple #[.agg (icells (measL (fwdL p q))), .int .i64 0] by unfold measV; rw [if_pos (okX_fwd hp hq)]] at HMS
 have LM := Lib.hid (measL_length (fwdL p q))
 generalize measL (fwdL p q) = l at HMS LM ⊢
 generalize fwdL p q = x at HF HMS LX ⊢
 clear he lp lq hp hq
 go_enter Tryz.func47, Tryz.ntmps47
 go_wp2_with (first | (refine tQl ?_) | (refine tQs ?_; clear HM; intro us HM; dsimp only [List.set] at HM) | (refine tQt ?_; clear HM HTW; intro us HM HTW; dsimp only [List.set] at HM HTW) | (refine tQb ?_) | (refine tQn ?_; first | (have q:dV HM = 0:=rfl;clear q HM;intro g1 u1 HG1 HM) | (have q:dV HM = 1:=rfl;clear q HM;intro g2 u2 HG2 HM) | (have q:dV HM = 2:=rfl;clear q HM;intro g3 u3 HG3 HM) | (have q:dV HM = 3:=rfl;clear q HM;intro g4 u4 HG4 HM) | (have q:dV HM = 4:=rfl;clear q HM;intro g5 u5 HG5 HM) | (have q:dV HM = 5:=rfl;clear q HM;intro g6 u6 HG6 HM) | (have q:dV HM = 6:=rfl;clear q HM;intro g7 u7 HG7 HM) | (have q:dV HM = 7:=rfl;clear q HM;intro g8 u8 HG8 HM) | (have q:dV HM = 8:=rfl;clear q HM;intro g9 u9 HG9 HM) | (have q:dV HM = 9:=rfl;clear q HM;intro g10 u10 HG10 HM)) | (first | (refine aQl ?_) | (refine aQs ?_; clear HM; intro us HM; dsimp only [List.set] at HM) | (refine aQt ?_; clear HM HSW; intro us HM HSW; dsimp only [List.set] at HM HSW) | (refine aQv ?_; clear HM; intro us HM; dsimp only [List.set] at HM) | (refine aQb ?_) | (refine aQn ?_; first | (have q:dV HM = 0:=rfl;clear q HM;intro g1 u1 HG1 HM) | (have q:dV HM = 1:=rfl;clear q HM;intro g2 u2 HG2 HM) | (have q:dV HM = 2:=rfl;clear q HM;intro g3 u3 HG3 HM) | (have q:dV HM = 3:=rfl;clear q HM;intro g4 u4 HG4 HM) | (have q:dV HM = 4:=rfl;clear q HM;intro g5 u5 HG5 HM) | (have q:dV HM = 5:=rfl;clear q HM;intro g6 u6 HG6 HM) | (have q:dV HM = 6:=rfl;clear q HM;intro g7 u7 HG7 HM) | (have q:dV HM = 7:=rfl;clear q HM;intro g8 u8 HG8 HM) | (have q:dV HM = 8:=rfl;clear q HM;intro g9 u9 HG9 HM) | (have q:dV HM = 9:=rfl;clear q HM;intro g10 u10 HG10 HM))))
 refine (HF.out _).mono ?_
 rintro e w2 ⟨rfl, hb⟩
 replace HM := Lib.hid (HM.out.below hb)
 clear hb HF
 go_wp2_with (first | (refine tQl ?_) | (refine tQs ?_; clear HM; intro us HM; dsimp only [List.set] at HM) | (refine tQt ?_; clear HM HTW; intro us HM HTW; dsimp only [List.set] at HM HTW) | (refine tQb ?_) | (refine tQn ?_; first | (have q:dV HM = 0:=rfl;clear q HM;intro g1 u1 HG1 HM) | (have q:dV HM = 1:=rfl;clear q HM;intro g2 u2 HG2 HM) | (have q:dV HM = 2:=rfl;clear q HM;intro g3 u3 HG3 HM) | (have q:dV HM = 3:=rfl;clear q HM;intro g4 u4 HG4 HM) | (have q:dV HM = 4:=rfl;clear q HM;intro g5 u5 HG5 HM) | (have q:dV HM = 5:=rfl;clear q HM;intro g6 u6 HG6 HM) | (have q:dV HM = 6:=rfl;clear q HM;intro g7 u7 HG7 HM) | (have q:dV HM = 7:=rfl;clear q HM;intro g8 u8 HG8 HM) | (have q:dV HM = 8:=rfl;clear q HM;intro g9 u9 HG9 HM) | (have q:dV HM = 9:=rfl;clear q HM;intro g10 u10 HG10 HM)) | (first | (refine aQl ?_) | (refine aQs ?_; clear HM; intro us HM; dsimp only [List.set] at HM) | (refine aQt ?_; clear HM HSW; intro us HM HSW; dsimp only [List.set] at HM HSW) | (refine aQv ?_; clear HM; intro us HM; dsimp only [List.set] at HM) | (refine aQb ?_) | (refine aQn ?_; first | (have q:dV HM = 0:=rfl;clear q HM;intro g1 u1 HG1 HM) | (have q:dV HM = 1:=rfl;clear q HM;intro g2 u2 HG2 HM) | (have q:dV HM = 2:=rfl;clear q HM;intro g3 u3 HG3 HM) | (have q:dV HM = 3:=rfl;clear q HM;intro g4 u4 HG4 HM) | (have q:dV HM = 4:=rfl;clear q HM;intro g5 u5 HG5 HM) | (have q:dV HM = 5:=rfl;clear q HM;intro g6 u6 HG6 HM) | (have q:dV HM = 6:=rfl;clear q HM;intro g7 u7 HG7 HM) | (have q:dV HM = 7:=rfl;clear q HM;intro g8 u8 HG8 HM) | (have q:dV HM = 8:=rfl;clear q HM;intro g9 u9 HG9 HM) | (have q:dV HM = 9:=rfl;clear q HM;intro g10 u10 HG10 HM))))
 refine (HMS.out _ (HE.out.below HM.out.1)).mono ?_
 rintro e w2 ⟨rfl, hb⟩
 replace HM := Lib.hid (HM.out.below hb)
 clear hb HMS
 go_wp2_with (first | (refine tQl ?_) | (refine tQs ?_; clear HM; intro us HM; dsimp only [List.set] at HM) | (refine tQt ?_; clear HM HTW; intro us HM HTW; dsimp only [List.set] at HM HTW) | (refine tQb ?_) | (refine tQn ?_; first | (have q:dV HM = 0:=rfl;clear q HM;intro g1 u1 HG1 HM) | (have q:dV HM = 1:=rfl;clear q HM;intro g2 u2 HG2 HM) | (have q:dV HM = 2:=rfl;clear q HM;intro g3 u3 HG3 HM) | (have q:dV HM = 3:=rfl;clear q HM;intro g4 u4 HG4 HM) | (have q:dV HM = 4:=rfl;clear q HM;intro g5 u5 HG5 HM) | (have q:dV HM = 5:=rfl;clear q HM;intro g6 u6 HG6 HM) | (have q:dV HM = 6:=rfl;clear q HM;intro g7 u7 HG7 HM) | (have q:dV HM = 7:=rfl;clear q HM;intro g8 u8 HG8 HM) | (have q:dV HM = 8:=rfl;clear q HM;intro g9 u9 HG9 HM) | (have q:dV HM = 9:=rfl;clear q HM;intro g10 u10 HG10 HM)) | (first | (refine aQl ?_) | (refine aQs ?_; clear HM; intro us HM; dsimp only [List.set] at HM) | (refine aQt ?_; clear HM HSW; intro us HM HSW; dsimp only [List.set] at HM HSW) | (refine aQv ?_; clear HM; intro us HM; dsimp only [List.set] at HM) | (refine aQb ?_) | (refine aQn ?_; first | (have q:dV HM = 0:=rfl;clear q HM;intro g1 u1 HG1 HM) | (have q:dV HM = 1:=rfl;clear q HM;intro g2 u2 HG2 HM) | (have q:dV HM = 2:=rfl;clear q HM;intro g3 u3 HG3 HM) | (have q:dV HM = 3:=rfl;clear q HM;intro g4 u4 HG4 HM) | (have q:dV HM = 4:=rfl;clear q HM;intro g5 u5 HG5 HM) | (have q:dV HM = 5:=rfl;clear q HM;intro g6 u6 HG6 HM) | (have q:dV HM = 6:=rfl;clear q HM;intro g7 u7 HG7 HM) | (have q:dV HM = 7:=rfl;clear q HM;intro g8 u8 HG8 HM) | (have q:dV HM = 8:=rfl;clear q HM;intro g9 u9 HG9 HM) | (have q:dV HM = 9:=rfl;clear q HM;intro g10 u10 HG10 HM))))
 refine wp_region_held_drew (S := fun y => Blk y g5 89 (icells x) ∧ Blk y g6 29 (icells l)) (by kernel_rfl) ⟨HM.out.drew.get (by exact q7m), HM.out.drew.get (by exact q7m)⟩ (fun hHeld => ?_)
 have HMd := Lib.hid HM.out.drew
 clear HM
 have HM := HMd
 clear HMd
 generalize World.drew _ = wd at HM hHeld ⊢
 (refine tk 0 rfl (yv_load rfl _ _ rfl rfl (fun u hu => run_load_blk (Arr.row arrSpec) hu.1 ((icells_size _).trans LX.out))) ?_)
 (refine tk 1 rfl (yv_load rfl _ _ rfl rfl (fun u hu => run_load_blk (Arr.row arrLev) hu.2 ((icells_size _).trans LM.out))) ?_)
 refine wpAnyH_ready (rs := [2]) (by kernel_rfl) (by simp) ?_; refine AllReadyH.cons rfl (fun K hK => ?_) (AllReadyH.nil)
 rw [if_pos (by rfl)]; refine ov_store _ _ _ rfl rfl rfl (by exact q7r) HM (by exact q7i) (by exact q7s) (by exact q7s) (by exact q7o) rfl ?_; clear HM; intro us HM; dsimp only [List.set] at HM
 clear hHeld
 refine hK.out _ _ ⟨HM.out.get (by exact q7m), HM.out.get (by exact q7m)⟩ (fun hHeld => ?_)
 clear hK K
 (try simp only [Act.put, qz1, qz2, qz3])
 refine wpAnyH_ready (rs := [3]) (by kernel_rfl) (by simp) ?_; refine AllReadyH.cons rfl (fun K hK => ?_) (AllReadyH.nil)
 rw [if_pos (by rfl)]; refine ov_store _ _ _ rfl rfl rfl (by exact q7r) HM (by exact q7i) (by exact q7s) (by exact q7s) (by exact q7o) rfl ?_; clear HM; intro us HM; dsimp only [List.set] at HM
 clear hHeld
 refine hK.out _ _ ⟨HM.out.get (by exact q7m), HM.out.get (by exact q7m)⟩ (fun hHeld => ?_)
 clear hK K
 (try simp only [Act.put, qz1, qz2, qz3])
 (refine tkv 4 (.int .i64 0) rfl ?_)
 refine wpAnyH_done (by kernel_rfl) ?_ _
 clear hHeld
 go_wp2_with fail
 refine bodyPost_ret (v := .tuple #[.agg (icells x), .agg (icells l), .int .i64 0]) (vres_css rfl _ rfl rfl rfl (by exact q7r) (by exact q7r) HM (by exact q7m) (by exact q7m) (by exact q7s) (by exact q7s)) rfl ⟨rfl, HM.out.1⟩
def TkQ (w0 w1 : World) (m : Nat) (t : Ty) (v : Value) (e : Ending) (u : World) : Prop := e = .returned v ∧ MV w0 w1 [(m, 80, tyC t)] u
theorem tsend_any {w0 w1 w : World} {m : Nat} (t u : Ty) (x l : List Int) (ld : Bool) (bs : List Nat) (hm : Hid (MV w0 w1 [(m, 80, tyC t)] w)) (ht : Hid (TyW t)) (lx : x.length = 16) (ll : l.length = 6)
  (h1 : (ld || decide (0 < t.hang)) = true → ∀ v z : World, Hid (MV w0 v [(m, 80, tyC t)] z) → Calls Tryz.prog 87 #[.pointer (some ⟨m, 0, none⟩), .agg (icells x), .agg (icells l)] z (BtQ w0 v m u bs))
  (h2 : (ld || decide (0 < t.hang)) = false → ∀ v z : World, Hid (MV w0 v [(m, 80, tyC t)] z) → Calls Tryz.prog 88 #[.pointer (some ⟨m, 0, none⟩), .agg (icells l)] z (BtQ w0 v m u bs)) :
  Calls Tryz.prog 60 #[.pointer (some ⟨m, 0, none⟩), .agg (icells x), .agg (icells l), .bool ld] w (BtQ w0 w1 m u bs) := by
 have HM := hm
 have HTW := ht
 have LX := Lib.hid lx
 have LL := Lib.hid ll
 unfold BtQ at h1 h2 ⊢
 clear hm ht lx ll
 cases ld with
 | true =>
  have H1 := Lib.hid (h1 rfl)
  clear h1 h2
  go_enter Tryz.func60, Tryz.ntmps60
  go_wp2_with (first | (refine q8w (by rfl) ?_) | (first | (refine tQl ?_) | (refine tQs ?_; clear HM; intro us HM; dsimp only [List.set] at HM) | (refine tQt ?_; clear HM HTW; intro us HM HTW; dsimp only [List.set] at HM HTW) | (refine tQb ?_) | (refine tQn ?_; first | (have q:dV HM = 0:=rfl;clear q HM;intro g1 u1 HG1 HM) | (have q:dV HM = 1:=rfl;clear q HM;intro g2 u2 HG2 HM) | (have q:dV HM = 2:=rfl;clear q HM;intro g3 u3 HG3 HM) | (have q:dV HM = 3:=rfl;clear q HM;intro g4 u4 HG4 HM) | (have q:dV HM = 4:=rfl;clear q HM;intro g5 u5 HG5 HM) | (have q:dV HM = 5:=rfl;clear q HM;intro g6 u6 HG6 HM) | (have q:dV HM = 6:=rfl;clear q HM;intro g7 u7 HG7 HM) | (have q:dV HM = 7:=rfl;clear q HM;intro g8 u8 HG8 HM) | (have q:dV HM = 8:=rfl;clear q HM;intro g9 u9 HG9 HM) | (have q:dV HM = 9:=rfl;clear q HM;intro g10 u10 HG10 HM)) | (first | (refine aQl ?_) | (refine aQs ?_; clear HM; intro us HM; dsimp only [List.set] at HM) | (refine aQt ?_; clear HM HSW; intro us HM HSW; dsimp only [List.set] at HM HSW) | (refine aQv ?_; clear HM; intro us HM; dsimp only [List.set] at HM) | (refine aQb ?_) | (refine aQn ?_; first | (have q:dV HM = 0:=rfl;clear q HM;intro g1 u1 HG1 HM) | (have q:dV HM = 1:=rfl;clear q HM;intro g2 u2 HG2 HM) | (have q:dV HM = 2:=rfl;clear q HM;intro g3 u3 HG3 HM) | (have q:dV HM = 3:=rfl;clear q HM;intro g4 u4 HG4 HM) | (have q:dV HM = 4:=rfl;clear q HM;intro g5 u5 HG5 HM) | (have q:dV HM = 5:=rfl;clear q HM;intro g6 u6 HG6 HM) | (have q:dV HM = 6:=rfl;clear q HM;intro g7 u7 HG7 HM) | (have q:dV HM = 7:=rfl;clear q HM;intro g8 u8 HG8 HM) | (have q:dV HM = 8:=rfl;clear q HM;intro g9 u9 HG9 HM) | (have q:dV HM = 9:=rfl;clear q HM;intro g10 u10 HG10 HM)))))
  refine (H1.out _ _ (Lib.hid (HM.out.sub (by exact q7v)))).mono ?_
  rintro e w3 ⟨A, n, c, rfl, hn, hr, hm⟩
  have HR := Lib.hid hr
  have HN := Lib.hid hn
  have HM2 := Lib.hid (HM.out.after (by exact q7i) hm)
  clear hm HM hr hn H1
  have HM := HM2
  clear HM2
  dsimp only [List.set] at HM
  go_wp2_with fail
  go_ret2
  exact ⟨A, n, c, rfl, HN.out, HR.out, (by have HP := HM.out; (repeat (replace HP := HP.popH (by with_reducible assumption))); exact HP)⟩
 | false =>
  by_cases hg : 0 < t.hang
  ·have H1 := Lib.hid (h1 (decide_eq_true hg))
   have d1 : decide (0 < t.hang) = true := decide_eq_true hg
   clear h1 h2 hg
   go_enter Tryz.func60, Tryz.ntmps60
   go_wp2_with (first | (refine q8w (by rfl) ?_) | (first | (refine tQl ?_) | (refine tQs ?_; clear HM; intro us HM; dsimp only [List.set] at HM) | (refine tQt ?_; clear HM HTW; intro us HM HTW; dsimp only [List.set] at HM HTW) | (refine tQb ?_) | (refine tQn ?_; first | (have q:dV HM = 0:=rfl;clear q HM;intro g1 u1 HG1 HM) | (have q:dV HM = 1:=rfl;clear q HM;intro g2 u2 HG2 HM) | (have q:dV HM = 2:=rfl;clear q HM;intro g3 u3 HG3 HM) | (have q:dV HM = 3:=rfl;clear q HM;intro g4 u4 HG4 HM) | (have q:dV HM = 4:=rfl;clear q HM;intro g5 u5 HG5 HM) | (have q:dV HM = 5:=rfl;clear q HM;intro g6 u6 HG6 HM) | (have q:dV HM = 6:=rfl;clear q HM;intro g7 u7 HG7 HM) | (have q:dV HM = 7:=rfl;clear q HM;intro g8 u8 HG8 HM) | (have q:dV HM = 8:=rfl;clear q HM;intro g9 u9 HG9 HM) | (have q:dV HM = 9:=rfl;clear q HM;intro g10 u10 HG10 HM)) | (first | (refine aQl ?_) | (refine aQs ?_; clear HM; intro us HM; dsimp only [List.set] at HM) | (refine aQt ?_; clear HM HSW; intro us HM HSW; dsimp only [List.set] at HM HSW) | (refine aQv ?_; clear HM; intro us HM; dsimp only [List.set] at HM) | (refine aQb ?_) | (refine aQn ?_; first | (have q:dV HM = 0:=rfl;clear q HM;intro g1 u1 HG1 HM) | (have q:dV HM = 1:=rfl;clear q HM;intro g2 u2 HG2 HM) | (have q:dV HM = 2:=rfl;clear q HM;intro g3 u3 HG3 HM) | (have q:dV HM = 3:=rfl;clear q HM;intro g4 u4 HG4 HM) | (have q:dV HM = 4:=rfl;clear q HM;intro g5 u5 HG5 HM) | (have q:dV HM = 5:=rfl;clear q HM;intro g6 u6 HG6 HM) | (have q:dV HM = 6:=rfl;clear q HM;intro g7 u7 HG7 HM) | (have q:dV HM = 7:=rfl;clear q HM;intro g8 u8 HG8 HM) | (have q:dV HM = 8:=rfl;clear q HM;intro g9 u9 HG9 HM) | (have q:dV HM = 9:=rfl;clear q HM;intro g10 u10 HG10 HM)))))
   refine (H1.out _ _ (Lib.hid (HM.out.sub (by exact q7v)))).mono ?_
   rintro e w3 ⟨A, n, c, rfl, hn, hr, hm⟩
   have HR := Lib.hid hr
   have HN := Lib.hid hn
   have HM2 := Lib.hid (HM.out.after (by exact q7i) hm)
   clear hm HM hr hn H1
   have HM := HM2
   clear HM2
   dsimp only [List.set] at HM
   go_wp2_with fail
   go_ret2
   exact ⟨A, n, c, rfl, HN.out, HR.out, (by have HP := HM.out; (repeat (replace HP := HP.popH (by with_reducible assumption))); exact HP)⟩
  ·have H2 := Lib.hid (h2 (decide_eq_false hg))
   have d1 : decide (0 < t.hang) = false := decide_eq_false hg
   clear h1 h2 hg
   go_enter Tryz.func60, Tryz.ntmps60
   go_wp2_with (first | (refine q8w (by rfl) ?_) | (first | (refine tQl ?_) | (refine tQs ?_; clear HM; intro us HM; dsimp only [List.set] at HM) | (refine tQt ?_; clear HM HTW; intro us HM HTW; dsimp only [List.set] at HM HTW) | (refine tQb ?_) | (refine tQn ?_; first | (have q:dV HM = 0:=rfl;clear q HM;intro g1 u1 HG1 HM) | (have q:dV HM = 1:=rfl;clear q HM;intro g2 u2 HG2 HM) | (have q:dV HM = 2:=rfl;clear q HM;intro g3 u3 HG3 HM) | (have q:dV HM = 3:=rfl;clear q HM;intro g4 u4 HG4 HM) | (have q:dV HM = 4:=rfl;clear q HM;intro g5 u5 HG5 HM) | (have q:dV HM = 5:=rfl;clear q HM;intro g6 u6 HG6 HM) | (have q:dV HM = 6:=rfl;clear q HM;intro g7 u7 HG7 HM) | (have q:dV HM = 7:=rfl;clear q HM;intro g8 u8 HG8 HM) | (have q:dV HM = 8:=rfl;clear q HM;intro g9 u9 HG9 HM) | (have q:dV HM = 9:=rfl;clear q HM;intro g10 u10 HG10 HM)) | (first | (refine aQl ?_) | (refine aQs ?_; clear HM; intro us HM; dsimp only [List.set] at HM) | (refine aQt ?_; clear HM HSW; intro us HM HSW; dsimp only [List.set] at HM HSW) | (refine aQv ?_; clear HM; intro us HM; dsimp only [List.set] at HM) | (refine aQb ?_) | (refine aQn ?_; first | (have q:dV HM = 0:=rfl;clear q HM;intro g1 u1 HG1 HM) | (have q:dV HM = 1:=rfl;clear q HM;intro g2 u2 HG2 HM) | (have q:dV HM = 2:=rfl;clear q HM;intro g3 u3 HG3 HM) | (have q:dV HM = 3:=rfl;clear q HM;intro g4 u4 HG4 HM) | (have q:dV HM = 4:=rfl;clear q HM;intro g5 u5 HG5 HM) | (have q:dV HM = 5:=rfl;clear q HM;intro g6 u6 HG6 HM) | (have q:dV HM = 6:=rfl;clear q HM;intro g7 u7 HG7 HM) | (have q:dV HM = 7:=rfl;clear q HM;intro g8 u8 HG8 HM) | (have q:dV HM = 8:=rfl;clear q HM;intro g9 u9 HG9 HM) | (have q:dV HM = 9:=rfl;clear q HM;intro g10 u10 HG10 HM)))))
   refine (H2.out _ _ (Lib.hid (HM.out.sub (by exact q7v)))).mono ?_
   rintro e w3 ⟨A, n, c, rfl, hn, hr, hm⟩
   have HR := Lib.hid hr
   have HN := Lib.hid hn
   have HM2 := Lib.hid (HM.out.after (by exact q7i) hm)
   clear hm HM hr hn H2
   have HM := HM2
   clear HM2
   dsimp only [List.set] at HM
   go_wp2_with fail
   go_ret2
   exact ⟨A, n, c, rfl, HN.out, HR.out, (by have HP := HM.out; (repeat (replace HP := HP.popH (by with_reducible assumption))); exact HP)⟩
theorem thear_any {w0 w1 w : World} {m : Nat} (t : Ty) (s : Sy) (o : List Int) (A : Option Addr) (n c : Nat) (bs : List Nat) (hm : Hid (MV w0 w1 [(m, 80, tyC t)] w)) (ht : Hid (TyW t)) (hr : Hid (Rd w A n bs)) (hx : nextD t.s bs = .ok (s, o)) (he : Hid (Edg w0)) :
  Calls Tryz.prog 61 #[.pointer (some ⟨m, 0, none⟩), .slice A n c] w (TkQ w0 w1 m { t with s := s } (.int .i64 0)) := by
 have HM := hm
 have HTW := ht
 have HE := he
 have HSW := Lib.hid ht.out.sy
 have HRD := hr
 have hn := hr.out.1
 unfold nextD at hx
 unfold TkQ
 by_cases hb : bs = []
 ·rw [if_pos hb] at hx
  subst hb
  obtain rfl : n = 0 := hn.symm
  have HPR := Lib.hid (fun u (h : Edg u) => prest_any t.s u (Lib.hid ht.out.sy) h)
  rw [hx] at HPR
  clear hm ht hr hx he hn
  go_enter Tryz.func61, Tryz.ntmps61
  go_wp2_with (first | (refine tQl ?_) | (refine tQs ?_; clear HM; intro us HM; dsimp only [List.set] at HM) | (refine tQt ?_; clear HM HTW; intro us HM HTW; dsimp only [List.set] at HM HTW) | (refine tQb ?_) | (refine tQn ?_; first | (have q:dV HM = 0:=rfl;clear q HM;intro g1 u1 HG1 HM) | (have q:dV HM = 1:=rfl;clear q HM;intro g2 u2 HG2 HM) | (have q:dV HM = 2:=rfl;clear q HM;intro g3 u3 HG3 HM) | (have q:dV HM = 3:=rfl;clear q HM;intro g4 u4 HG4 HM) | (have q:dV HM = 4:=rfl;clear q HM;intro g5 u5 HG5 HM) | (have q:dV HM = 5:=rfl;clear q HM;intro g6 u6 HG6 HM) | (have q:dV HM = 6:=rfl;clear q HM;intro g7 u7 HG7 HM) | (have q:dV HM = 7:=rfl;clear q HM;intro g8 u8 HG8 HM) | (have q:dV HM = 8:=rfl;clear q HM;intro g9 u9 HG9 HM) | (have q:dV HM = 9:=rfl;clear q HM;intro g10 u10 HG10 HM)) | (first | (refine aQl ?_) | (refine aQs ?_; clear HM; intro us HM; dsimp only [List.set] at HM) | (refine aQt ?_; clear HM HSW; intro us HM HSW; dsimp only [List.set] at HM HSW) | (refine aQv ?_; clear HM; intro us HM; dsimp only [List.set] at HM) | (refine aQb ?_) | (refine aQn ?_; first | (have q:dV HM = 0:=rfl;clear q HM;intro g1 u1 HG1 HM) | (have q:dV HM = 1:=rfl;clear q HM;intro g2 u2 HG2 HM) | (have q:dV HM = 2:=rfl;clear q HM;intro g3 u3 HG3 HM) | (have q:dV HM = 3:=rfl;clear q HM;intro g4 u4 HG4 HM) | (have q:dV HM = 4:=rfl;clear q HM;intro g5 u5 HG5 HM) | (have q:dV HM = 5:=rfl;clear q HM;intro g6 u6 HG6 HM) | (have q:dV HM = 6:=rfl;clear q HM;intro g7 u7 HG7 HM) | (have q:dV HM = 7:=rfl;clear q HM;intro g8 u8 HG8 HM) | (have q:dV HM = 8:=rfl;clear q HM;intro g9 u9 HG9 HM) | (have q:dV HM = 9:=rfl;clear q HM;intro g10 u10 HG10 HM))))
  refine (HPR.out _ (HE.out.below HM.out.1)).mono ?_
  rintro e w4 ⟨rfl, hb, hw, ho⟩
  have HSW3 := Lib.hid hw
  replace HM := Lib.hid (HM.out.below hb)
  clear hb HPR hw ho
  dsimp only [dsV]
  go_wp2_with (first | (refine tQl ?_) | (refine tQs ?_; clear HM; intro us HM; dsimp only [List.set] at HM) | (refine tQt ?_; clear HM HTW; intro us HM HTW; dsimp only [List.set] at HM HTW) | (refine tQb ?_) | (refine tQn ?_; first | (have q:dV HM = 0:=rfl;clear q HM;intro g1 u1 HG1 HM) | (have q:dV HM = 1:=rfl;clear q HM;intro g2 u2 HG2 HM) | (have q:dV HM = 2:=rfl;clear q HM;intro g3 u3 HG3 HM) | (have q:dV HM = 3:=rfl;clear q HM;intro g4 u4 HG4 HM) | (have q:dV HM = 4:=rfl;clear q HM;intro g5 u5 HG5 HM) | (have q:dV HM = 5:=rfl;clear q HM;intro g6 u6 HG6 HM) | (have q:dV HM = 6:=rfl;clear q HM;intro g7 u7 HG7 HM) | (have q:dV HM = 7:=rfl;clear q HM;intro g8 u8 HG8 HM) | (have q:dV HM = 8:=rfl;clear q HM;intro g9 u9 HG9 HM) | (have q:dV HM = 9:=rfl;clear q HM;intro g10 u10 HG10 HM)) | (first | (refine aQl ?_) | (refine aQs ?_; clear HM; intro us HM; dsimp only [List.set] at HM) | (refine aQt ?_; clear HM HSW; intro us HM HSW; dsimp only [List.set] at HM HSW) | (refine aQv ?_; clear HM; intro us HM; dsimp only [List.set] at HM) | (refine aQb ?_) | (refine aQn ?_; first | (have q:dV HM = 0:=rfl;clear q HM;intro g1 u1 HG1 HM) | (have q:dV HM = 1:=rfl;clear q HM;intro g2 u2 HG2 HM) | (have q:dV HM = 2:=rfl;clear q HM;intro g3 u3 HG3 HM) | (have q:dV HM = 3:=rfl;clear q HM;intro g4 u4 HG4 HM) | (have q:dV HM = 4:=rfl;clear q HM;intro g5 u5 HG5 HM) | (have q:dV HM = 5:=rfl;clear q HM;intro g6 u6 HG6 HM) | (have q:dV HM = 6:=rfl;clear q HM;intro g7 u7 HG7 HM) | (have q:dV HM = 7:=rfl;clear q HM;intro g8 u8 HG8 HM) | (have q:dV HM = 8:=rfl;clear q HM;intro g9 u9 HG9 HM) | (have q:dV HM = 9:=rfl;clear q HM;intro g10 u10 HG10 HM))))
  go_ret
  exact ⟨rfl, HM.out⟩
 ·rw [if_neg hb] at hx
  have h0 : 0 < n := by
   rw [← hn]
   exact List.length_pos_iff.2 hb
  have d1 : ((n : Int) == 0) = false := by
   rw [beq_eq_false_iff_ne]
   omega
  have HPS := Lib.hid (fun u (h : Edg u) (hr : Hid (Rd u A n bs)) => pstep_any t.s A n c bs u (Lib.hid ht.out.sy) hr h)
  rw [hx] at HPS
  clear hm ht hr hx he hn hb
  go_enter Tryz.func61, Tryz.ntmps61
  go_wp2_with (first | (refine tQl ?_) | (refine tQs ?_; clear HM; intro us HM; dsimp only [List.set] at HM) | (refine tQt ?_; clear HM HTW; intro us HM HTW; dsimp only [List.set] at HM HTW) | (refine tQb ?_) | (refine tQn ?_; first | (have q:dV HM = 0:=rfl;clear q HM;intro g1 u1 HG1 HM) | (have q:dV HM = 1:=rfl;clear q HM;intro g2 u2 HG2 HM) | (have q:dV HM = 2:=rfl;clear q HM;intro g3 u3 HG3 HM) | (have q:dV HM = 3:=rfl;clear q HM;intro g4 u4 HG4 HM) | (have q:dV HM = 4:=rfl;clear q HM;intro g5 u5 HG5 HM) | (have q:dV HM = 5:=rfl;clear q HM;intro g6 u6 HG6 HM) | (have q:dV HM = 6:=rfl;clear q HM;intro g7 u7 HG7 HM) | (have q:dV HM = 7:=rfl;clear q HM;intro g8 u8 HG8 HM) | (have q:dV HM = 8:=rfl;clear q HM;intro g9 u9 HG9 HM) | (have q:dV HM = 9:=rfl;clear q HM;intro g10 u10 HG10 HM)) | (first | (refine aQl ?_) | (refine aQs ?_; clear HM; intro us HM; dsimp only [List.set] at HM) | (refine aQt ?_; clear HM HSW; intro us HM HSW; dsimp only [List.set] at HM HSW) | (refine aQv ?_; clear HM; intro us HM; dsimp only [List.set] at HM) | (refine aQb ?_) | (refine aQn ?_; first | (have q:dV HM = 0:=rfl;clear q HM;intro g1 u1 HG1 HM) | (have q:dV HM = 1:=rfl;clear q HM;intro g2 u2 HG2 HM) | (have q:dV HM = 2:=rfl;clear q HM;intro g3 u3 HG3 HM) | (have q:dV HM = 3:=rfl;clear q HM;intro g4 u4 HG4 HM) | (have q:dV HM = 4:=rfl;clear q HM;intro g5 u5 HG5 HM) | (have q:dV HM = 5:=rfl;clear q HM;intro g6 u6 HG6 HM) | (have q:dV HM = 6:=rfl;clear q HM;intro g7 u7 HG7 HM) | (have q:dV HM = 7:=rfl;clear q HM;intro g8 u8 HG8 HM) | (have q:dV HM = 8:=rfl;clear q HM;intro g9 u9 HG9 HM) | (have q:dV HM = 9:=rfl;clear q HM;intro g10 u10 HG10 HM))))
  refine (HPS.out _ (HE.out.below HM.out.1) HRD).mono ?_
  rintro e w4 ⟨rfl, hb, hw, ho⟩
  have HSW3 := Lib.hid hw
  replace HM := Lib.hid (HM.out.below hb)
  clear hb HPS hw ho
  dsimp only [dsV]
  go_wp2_with (first | (refine tQl ?_) | (refine tQs ?_; clear HM; intro us HM; dsimp only [List.set] at HM) | (refine tQt ?_; clear HM HTW; intro us HM HTW; dsimp only [List.set] at HM HTW) | (refine tQb ?_) | (refine tQn ?_; first | (have q:dV HM = 0:=rfl;clear q HM;intro g1 u1 HG1 HM) | (have q:dV HM = 1:=rfl;clear q HM;intro g2 u2 HG2 HM) | (have q:dV HM = 2:=rfl;clear q HM;intro g3 u3 HG3 HM) | (have q:dV HM = 3:=rfl;clear q HM;intro g4 u4 HG4 HM) | (have q:dV HM = 4:=rfl;clear q HM;intro g5 u5 HG5 HM) | (have q:dV HM = 5:=rfl;clear q HM;intro g6 u6 HG6 HM) | (have q:dV HM = 6:=rfl;clear q HM;intro g7 u7 HG7 HM) | (have q:dV HM = 7:=rfl;clear q HM;intro g8 u8 HG8 HM) | (have q:dV HM = 8:=rfl;clear q HM;intro g9 u9 HG9 HM) | (have q:dV HM = 9:=rfl;clear q HM;intro g10 u10 HG10 HM)) | (first | (refine aQl ?_) | (refine aQs ?_; clear HM; intro us HM; dsimp only [List.set] at HM) | (refine aQt ?_; clear HM HSW; intro us HM HSW; dsimp only [List.set] at HM HSW) | (refine aQv ?_; clear HM; intro us HM; dsimp only [List.set] at HM) | (refine aQb ?_) | (refine aQn ?_; first | (have q:dV HM = 0:=rfl;clear q HM;intro g1 u1 HG1 HM) | (have q:dV HM = 1:=rfl;clear q HM;intro g2 u2 HG2 HM) | (have q:dV HM = 2:=rfl;clear q HM;intro g3 u3 HG3 HM) | (have q:dV HM = 3:=rfl;clear q HM;intro g4 u4 HG4 HM) | (have q:dV HM = 4:=rfl;clear q HM;intro g5 u5 HG5 HM) | (have q:dV HM = 5:=rfl;clear q HM;intro g6 u6 HG6 HM) | (have q:dV HM = 6:=rfl;clear q HM;intro g7 u7 HG7 HM) | (have q:dV HM = 7:=rfl;clear q HM;intro g8 u8 HG8 HM) | (have q:dV HM = 8:=rfl;clear q HM;intro g9 u9 HG9 HM) | (have q:dV HM = 9:=rfl;clear q HM;intro g10 u10 HG10 HM))))
  go_ret
  exact ⟨rfl, HM.out⟩
theorem thang_any {w0 w1 w : World} {m : Nat} (t : Ty) (ld : Bool) (hm : Hid (MV w0 w1 [(m, 80, tyC t)] w)) (ht : Hid (TyW t)) (hg : 0 ≤ t.hang ∧ t.hang ≤ 4) :
  Calls Tryz.prog 62 #[.pointer (some ⟨m, 0, none⟩), .bool ld] w (TkQ w0 w1 m { t with hang := if ld = true then 4 else max 0 (t.hang - 1) } (.tuple #[])) := by
 have HM := hm
 have HTW := ht
 have w1' : IntKind.i64.wrap (t.hang - 1) = t.hang - 1 := i64_w (by omega) (by omega)
 unfold TkQ
 clear hm ht hg
 cases ld with
 | true =>
  go_enter Tryz.func62, Tryz.ntmps62
  go_wp2_with (first | (refine tQl ?_) | (refine tQs ?_; clear HM; intro us HM; dsimp only [List.set] at HM) | (refine tQt ?_; clear HM HTW; intro us HM HTW; dsimp only [List.set] at HM HTW) | (refine tQb ?_) | (refine tQn ?_; first | (have q:dV HM = 0:=rfl;clear q HM;intro g1 u1 HG1 HM) | (have q:dV HM = 1:=rfl;clear q HM;intro g2 u2 HG2 HM) | (have q:dV HM = 2:=rfl;clear q HM;intro g3 u3 HG3 HM) | (have q:dV HM = 3:=rfl;clear q HM;intro g4 u4 HG4 HM) | (have q:dV HM = 4:=rfl;clear q HM;intro g5 u5 HG5 HM) | (have q:dV HM = 5:=rfl;clear q HM;intro g6 u6 HG6 HM) | (have q:dV HM = 6:=rfl;clear q HM;intro g7 u7 HG7 HM) | (have q:dV HM = 7:=rfl;clear q HM;intro g8 u8 HG8 HM) | (have q:dV HM = 8:=rfl;clear q HM;intro g9 u9 HG9 HM) | (have q:dV HM = 9:=rfl;clear q HM;intro g10 u10 HG10 HM)) | (first | (refine aQl ?_) | (refine aQs ?_; clear HM; intro us HM; dsimp only [List.set] at HM) | (refine aQt ?_; clear HM HSW; intro us HM HSW; dsimp only [List.set] at HM HSW) | (refine aQv ?_; clear HM; intro us HM; dsimp only [List.set] at HM) | (refine aQb ?_) | (refine aQn ?_; first | (have q:dV HM = 0:=rfl;clear q HM;intro g1 u1 HG1 HM) | (have q:dV HM = 1:=rfl;clear q HM;intro g2 u2 HG2 HM) | (have q:dV HM = 2:=rfl;clear q HM;intro g3 u3 HG3 HM) | (have q:dV HM = 3:=rfl;clear q HM;intro g4 u4 HG4 HM) | (have q:dV HM = 4:=rfl;clear q HM;intro g5 u5 HG5 HM) | (have q:dV HM = 5:=rfl;clear q HM;intro g6 u6 HG6 HM) | (have q:dV HM = 6:=rfl;clear q HM;intro g7 u7 HG7 HM) | (have q:dV HM = 7:=rfl;clear q HM;intro g8 u8 HG8 HM) | (have q:dV HM = 8:=rfl;clear q HM;intro g9 u9 HG9 HM) | (have q:dV HM = 9:=rfl;clear q HM;intro g10 u10 HG10 HM))))
  exact bodyPost_end (results_none rfl _ _ _) rfl ⟨rfl, HM.out⟩
 | false =>
  go_enter Tryz.func62, Tryz.ntmps62
  go_wp2_with (first | (refine tQl ?_) | (refine tQs ?_; clear HM; intro us HM; dsimp only [List.set] at HM) | (refine tQt ?_; clear HM HTW; intro us HM HTW; dsimp only [List.set] at HM HTW) | (refine tQb ?_) | (refine tQn ?_; first | (have q:dV HM = 0:=rfl;clear q HM;intro g1 u1 HG1 HM) | (have q:dV HM = 1:=rfl;clear q HM;intro g2 u2 HG2 HM) | (have q:dV HM = 2:=rfl;clear q HM;intro g3 u3 HG3 HM) | (have q:dV HM = 3:=rfl;clear q HM;intro g4 u4 HG4 HM) | (have q:dV HM = 4:=rfl;clear q HM;intro g5 u5 HG5 HM) | (have q:dV HM = 5:=rfl;clear q HM;intro g6 u6 HG6 HM) | (have q:dV HM = 6:=rfl;clear q HM;intro g7 u7 HG7 HM) | (have q:dV HM = 7:=rfl;clear q HM;intro g8 u8 HG8 HM) | (have q:dV HM = 8:=rfl;clear q HM;intro g9 u9 HG9 HM) | (have q:dV HM = 9:=rfl;clear q HM;intro g10 u10 HG10 HM)) | (first | (refine aQl ?_) | (refine aQs ?_; clear HM; intro us HM; dsimp only [List.set] at HM) | (refine aQt ?_; clear HM HSW; intro us HM HSW; dsimp only [List.set] at HM HSW) | (refine aQv ?_; clear HM; intro us HM; dsimp only [List.set] at HM) | (refine aQb ?_) | (refine aQn ?_; first | (have q:dV HM = 0:=rfl;clear q HM;intro g1 u1 HG1 HM) | (have q:dV HM = 1:=rfl;clear q HM;intro g2 u2 HG2 HM) | (have q:dV HM = 2:=rfl;clear q HM;intro g3 u3 HG3 HM) | (have q:dV HM = 3:=rfl;clear q HM;intro g4 u4 HG4 HM) | (have q:dV HM = 4:=rfl;clear q HM;intro g5 u5 HG5 HM) | (have q:dV HM = 5:=rfl;clear q HM;intro g6 u6 HG6 HM) | (have q:dV HM = 6:=rfl;clear q HM;intro g7 u7 HG7 HM) | (have q:dV HM = 7:=rfl;clear q HM;intro g8 u8 HG8 HM) | (have q:dV HM = 8:=rfl;clear q HM;intro g9 u9 HG9 HM) | (have q:dV HM = 9:=rfl;clear q HM;intro g10 u10 HG10 HM))))
  exact bodyPost_end (results_none rfl _ _ _) rfl ⟨rfl, HM.out⟩
theorem icells8 (xs : List Int) : ∀ (k : Nat) (x : Int), (icells xs)[k]? ≠ some (Value.int .u8 x) := by
 intro k x h
 have hm : Value.int .u8 x ∈ (icells xs).toList := by
  rw [Array.mem_toList_iff]
  exact Array.mem_of_getElem? h
 unfold icells at hm
 simp at hm
theorem tyC8 (t : Ty) : ∀ (k : Nat) (x : Int), (tyC t)[k]? ≠ some (Value.int .u8 x) := by
 intro k x h
 have hm : Value.int .u8 x ∈ (tyC t).toList := by
  rw [Array.mem_toList_iff]
  exact Array.mem_of_getElem? h
 unfold tyC cnL syC endL icl at hm
 simp at hm
theorem MV.swap {w0 w1 w : World} {a b : Ent} {L : List Ent} (h : MV w0 w1 (a :: b :: L) w) : MV w0 w1 (b :: a :: L) w := by
 have hm : ∀ e, e ∈ b :: a :: L → e ∈ a :: b :: L := fun e he => by
  simp only [List.mem_cons] at he ⊢
  rcases he with h | h | h
  ·exact .inr (.inl h)
  ·exact .inl h
  ·exact .inr (.inr h)
 have hm2 : ∀ e, e ∈ a :: b :: L → e ∈ b :: a :: L := fun e he => by
  simp only [List.mem_cons] at he ⊢
  rcases he with h | h | h
  ·exact .inr (.inl h)
  ·exact .inl h
  ·exact .inr (.inr h)
 obtain ⟨h1, h2, h3, h4, h5, h6⟩ := h
 refine ⟨h1, fun e he => h2 e (hm e he), fun e he => h3 e (hm e he), ?_, h5, fun g hg hn => h6 g hg fun e he => hn e (hm2 e he)⟩
 obtain ⟨p1, p2⟩ := List.pairwise_cons.1 h4
 obtain ⟨p3, p4⟩ := List.pairwise_cons.1 p2
 refine List.pairwise_cons.2 ⟨fun e he => ?_, List.pairwise_cons.2 ⟨fun e he => p1 e (.tail _ he), p4⟩⟩
 rcases List.mem_cons.1 he with rfl | he
 ·exact (p1 b (.head _)).symm
 ·exact p3 e he
theorem MV.trans {w0 w1 w u : World} {L L' : List Ent} (h : MV w0 w1 L w) (h2 : MV w0 w L' u) (hl : L'.map (·.1) = L.map (·.1)) : MV w0 w1 L' u := by
 refine ⟨h2.1, h2.2.1, h2.2.2.1, h2.2.2.2.1, Nat.le_trans h.2.2.2.2.1 h2.2.2.2.2.1, fun b hb hn => ?_⟩
 have hn2 : ∀ e ∈ L, e.1 ≠ b := fun e he => by
  have : e.1 ∈ L'.map (·.1) := by rw [hl]; exact List.mem_map.2 ⟨e, he, rfl⟩
  obtain ⟨x, hx, e2⟩ := List.mem_map.1 this
  rw [← e2]
  exact hn x hx
 have := h.2.2.2.2.1
 rw [h2.2.2.2.2.2 b (by omega) hn]
 exact h.2.2.2.2.2 b hb hn2
theorem tstep_any {w0 w1 w : World} {m : Nat} (t : Ty) (p : List Int) (hm : Hid (MV w0 w1 [(m, 80, tyC t)] w)) (ht : Hid (TyW t)) (hk : TyOk t) (lp : p.length = 16) (hp : okP p = true) (he : Hid (Edg w0)) :
  Calls Tryz.prog 41 #[.pointer (some ⟨m, 0, none⟩), .agg (icells p)] w (BtQ w0 w1 m (nexT t p) (byT t p)) := by
 have HM := hm
 have HTW := ht
 have HE := he
 have LP := Lib.hid lp
 have LZ := Lib.hid (zr_length 16)
 have LZ6 := Lib.hid (zr_length 6)
 have HCK := Lib.hid (fun u => tcheck_any t u ht hk)
 have HME := Lib.hid (fun u h => emeasure_any t.p p u ht.out.lp lp hk.okp hp h)
 have LX := Lib.hid (show (fwdL t.p p).length = 16 from tab_length _ _)
 have LL := Lib.hid (lv_len t p)
 have HLD := Lib.hid (fun u => isLoud_any (lvTy t p) u (lv_len t p) (meas_chk _))
 obtain ⟨a, ha⟩ : ∃ a, (nexT t p).sent = a := ⟨_, rfl⟩
 obtain ⟨b, hb⟩ : ∃ b, (nexT t p).quiet = b := ⟨_, rfl⟩
 have hsd : sndT t p = (loudT t p || decide (0 < t.hang)) := rfl
 have HSN := Lib.hid (fun (u v : World) (h : Hid (MV w0 u [(m, 80, tyC t)] v)) => tsend_any t ⟨t.p, t.hang, a, b, t.s⟩ (fwdL t.p p) (lvTy t p) (loudT t p) (byT t p) h ht (tab_length _ _) (lv_len t p)
  (fun hs z v hz => by
   rw [← hsd] at hs
   have e1 : a = t.sent + 1 := ha.symm.trans (if_pos hs)
   have e2 : b = 0 := hb.symm.trans (if_pos hs)
   have e3 : byT t p = talkB t p := by unfold byT; rw [if_pos hs]
   rw [e1, e2, e3]
   exact ttalk_any t (fwdL t.p p) (lvTy t p) (kinT t p) hz ht hk.sent (tab_length _ _) (okX_fwd hk.okp hp) (lv_len t p) (meas_chk _) rfl (fr_talk p hk.oks) he)
  (fun hs z v hz => by
   rw [← hsd] at hs
   have hs2 : ¬ sndT t p = true := by rw [hs]; exact Bool.false_ne_true
   have e1 : a = 0 := ha.symm.trans (if_neg hs2)
   have e2 : b = t.quiet + 1 := hb.symm.trans (if_neg hs2)
   have e3 : byT t p = restB t p := by unfold byT; rw [if_neg hs2]
   rw [e1, e2, e3]
   exact trest_any t (lvTy t p) (restB t p) hz ht hk.quiet (lv_len t p) (fr_rest p hk.oks) rfl he))
 have st := tstp_ok (p := p) ht.out.sy hk.oks
 obtain ⟨o, ho⟩ := st.nx
 obtain ⟨s2, hs2⟩ : ∃ s2, heaS t.s (byT t p) = s2 := ⟨_, rfl⟩
 rw [hs2] at ho
 have hw2 : SyW s2 := hs2 ▸ st.w
 have HNX := Lib.hid (show nexT t p = ⟨p, if loudT t p = true then 4 else max 0 (t.hang - 1), a, b, s2⟩ by rw [← ha, ← hb, ← hs2]; rfl)
 have HHE := Lib.hid (fun (u v : World) (A : Option Addr) (n c : Nat) (h : Hid (MV w0 u [(m, 80, tyC ⟨t.p, t.hang, a, b, t.s⟩)] v)) (hr : Hid (Rd v A n (byT t p))) => thear_any ⟨t.p, t.hang, a, b, t.s⟩ s2 o A n c (byT t p) h (Lib.hid ⟨ht.out.lp, ht.out.sy⟩) hr ho he)
 have HHA := Lib.hid (fun (u v : World) (h : Hid (MV w0 u [(m, 80, tyC ⟨p, t.hang, a, b, s2⟩)] v)) => thang_any ⟨p, t.hang, a, b, s2⟩ (loudT t p) h (Lib.hid ⟨lp, hw2⟩) hk.hang)
 have HT2 := Lib.hid (show TyW ⟨t.p, t.hang, a, b, s2⟩ from ⟨ht.out.lp, hw2⟩)
 rw [show decide (100 ≤ ldN (lvTy t p) 6) = loudT t p from rfl] at HLD
 rw [show measL (fwdL t.p p) = lvTy t p from rfl] at HME
 unfold BtQ at HSN ⊢
 unfold TkQ at HHE HHA
 dsimp only at HHE HHA
 generalize nexT t p = nx at HNX ⊢
 generalize byT t p = bs at HSN HHE ⊢
 generalize lvTy t p = l at HME HLD HSN LL
 generalize fwdL t.p p = x at HME HSN LX
 generalize loudT t p = ld at HLD HSN HNX HHA
 clear hm ht hk lp hp he ha hb hsd st ho hs2 hw2
 go_enter Tryz.func41, Tryz.ntmps41
 go_wp2_with (first | (refine tQl ?_) | (refine tQs ?_; clear HM; intro us HM; dsimp only [List.set] at HM) | (refine tQt ?_; clear HM HTW; intro us HM HTW; dsimp only [List.set] at HM HTW) | (refine tQb ?_) | (refine tQn ?_; first | (have q:dV HM = 0:=rfl;clear q HM;intro g1 u1 HG1 HM) | (have q:dV HM = 1:=rfl;clear q HM;intro g2 u2 HG2 HM) | (have q:dV HM = 2:=rfl;clear q HM;intro g3 u3 HG3 HM) | (have q:dV HM = 3:=rfl;clear q HM;intro g4 u4 HG4 HM) | (have q:dV HM = 4:=rfl;clear q HM;intro g5 u5 HG5 HM) | (have q:dV HM = 5:=rfl;clear q HM;intro g6 u6 HG6 HM) | (have q:dV HM = 6:=rfl;clear q HM;intro g7 u7 HG7 HM) | (have q:dV HM = 7:=rfl;clear q HM;intro g8 u8 HG8 HM) | (have q:dV HM = 8:=rfl;clear q HM;intro g9 u9 HG9 HM) | (have q:dV HM = 9:=rfl;clear q HM;intro g10 u10 HG10 HM)) | (first | (refine aQl ?_) | (refine aQs ?_; clear HM; intro us HM; dsimp only [List.set] at HM) | (refine aQt ?_; clear HM HSW; intro us HM HSW; dsimp only [List.set] at HM HSW) | (refine aQv ?_; clear HM; intro us HM; dsimp only [List.set] at HM) | (refine aQb ?_) | (refine aQn ?_; first | (have q:dV HM = 0:=rfl;clear q HM;intro g1 u1 HG1 HM) | (have q:dV HM = 1:=rfl;clear q HM;intro g2 u2 HG2 HM) | (have q:dV HM = 2:=rfl;clear q HM;intro g3 u3 HG3 HM) | (have q:dV HM = 3:=rfl;clear q HM;intro g4 u4 HG4 HM) | (have q:dV HM = 4:=rfl;clear q HM;intro g5 u5 HG5 HM) | (have q:dV HM = 5:=rfl;clear q HM;intro g6 u6 HG6 HM) | (have q:dV HM = 6:=rfl;clear q HM;intro g7 u7 HG7 HM) | (have q:dV HM = 7:=rfl;clear q HM;intro g8 u8 HG8 HM) | (have q:dV HM = 8:=rfl;clear q HM;intro g9 u9 HG9 HM) | (have q:dV HM = 9:=rfl;clear q HM;intro g10 u10 HG10 HM))))
 refine (HCK.out _).mono ?_
 rintro e w2 ⟨rfl, hb⟩
 replace HM := Lib.hid (HM.out.below hb)
 clear hb HCK
 go_upto_region 3 with (first | (refine tQl ?_) | (refine tQs ?_; clear HM; intro us HM; dsimp only [List.set] at HM) | (refine tQt ?_; clear HM HTW; intro us HM HTW; dsimp only [List.set] at HM HTW) | (refine tQb ?_) | (refine tQn ?_; first | (have q:dV HM = 0:=rfl;clear q HM;intro g1 u1 HG1 HM) | (have q:dV HM = 1:=rfl;clear q HM;intro g2 u2 HG2 HM) | (have q:dV HM = 2:=rfl;clear q HM;intro g3 u3 HG3 HM) | (have q:dV HM = 3:=rfl;clear q HM;intro g4 u4 HG4 HM) | (have q:dV HM = 4:=rfl;clear q HM;intro g5 u5 HG5 HM) | (have q:dV HM = 5:=rfl;clear q HM;intro g6 u6 HG6 HM) | (have q:dV HM = 6:=rfl;clear q HM;intro g7 u7 HG7 HM) | (have q:dV HM = 7:=rfl;clear q HM;intro g8 u8 HG8 HM) | (have q:dV HM = 8:=rfl;clear q HM;intro g9 u9 HG9 HM) | (have q:dV HM = 9:=rfl;clear q HM;intro g10 u10 HG10 HM)) | (first | (refine aQl ?_) | (refine aQs ?_; clear HM; intro us HM; dsimp only [List.set] at HM) | (refine aQt ?_; clear HM HSW; intro us HM HSW; dsimp only [List.set] at HM HSW) | (refine aQv ?_; clear HM; intro us HM; dsimp only [List.set] at HM) | (refine aQb ?_) | (refine aQn ?_; first | (have q:dV HM = 0:=rfl;clear q HM;intro g1 u1 HG1 HM) | (have q:dV HM = 1:=rfl;clear q HM;intro g2 u2 HG2 HM) | (have q:dV HM = 2:=rfl;clear q HM;intro g3 u3 HG3 HM) | (have q:dV HM = 3:=rfl;clear q HM;intro g4 u4 HG4 HM) | (have q:dV HM = 4:=rfl;clear q HM;intro g5 u5 HG5 HM) | (have q:dV HM = 5:=rfl;clear q HM;intro g6 u6 HG6 HM) | (have q:dV HM = 6:=rfl;clear q HM;intro g7 u7 HG7 HM) | (have q:dV HM = 7:=rfl;clear q HM;intro g8 u8 HG8 HM) | (have q:dV HM = 8:=rfl;clear q HM;intro g9 u9 HG9 HM) | (have q:dV HM = 9:=rfl;clear q HM;intro g10 u10 HG10 HM))))
 go_cut [6, 7, 8] from 18 to 28 (fun v6 v7 v8 wx => ∃ G H, v6 = .pointer (some ⟨G, 0, none⟩) ∧ v7 = .pointer (some ⟨H, 0, none⟩) ∧ v8 = .int .i64 0 ∧ Hid (w1.heap.size ≤ G) ∧ Hid (w1.heap.size ≤ H) ∧ Hid (MV w0 w1 [(H, 29, icells l), (G, 89, icells x), (g2, 35, icells p), (m, 80, tyC t)] wx))
 case first =>
  go_wp2_with fail
  refine wp_region_held_drew (S := fun y => Blk y m 80 (tyC t) ∧ Blk y g2 35 (icells p)) (by kernel_rfl) ⟨HM.out.drew.get (by exact q7m), HM.out.drew.get (by exact q7m)⟩ (fun hHeld => ?_)
  have HMd := Lib.hid HM.out.drew
  clear HM
  have HM := HMd
  clear HMd
  generalize World.drew _ = wd at HM hHeld ⊢
  (refine tkv 0 (.pointer (some ⟨m, 0, none⟩)) rfl ?_)
  (refine tkv 1 (.pointer (some ⟨m, 0, none⟩)) rfl ?_)
  (refine tkg 2 (.pointer (some ⟨m, 0, none⟩)) rfl ?_)
  (refine tkg 3 (.pointer (some ⟨m, 0, none⟩)) rfl ?_)
  (refine tk 4 rfl (yv_load rfl _ _ rfl rfl (fun u hu => run_load_tP HTW hu.1)) ?_)
  (refine tk 5 rfl (yv_load rfl _ _ rfl rfl (fun u hu => run_load_blk (Arr.row arrPcm) hu.2 ((icells_size _).trans LP.out))) ?_)
  refine wpAnyH_ready (rs := [6, 11, 12]) (by kernel_rfl) (by simp) ?_; refine AllReadyH.cons rfl (fun K hK => ?_) (AllReadyH.cons rfl (fun K hK => ?_) (AllReadyH.cons rfl (fun K hK => ?_) (AllReadyH.nil)))
  ·rw [if_pos (by rfl)]; go_simp
   refine (HME.out _ (HE.out.below HM.out.1)).mono ?_
   rintro e w3 ⟨rfl, hb⟩
   replace HM := Lib.hid (HM.out.below hb)
   clear hb
   clear hHeld
   go_wp2_with fail
   refine hK.out _ _ ⟨HM.out.get (by exact q7m), HM.out.get (by exact q7m)⟩ (fun hHeld => ?_)
   clear hK K
   (try simp only [Act.put, qz1, qz2, qz3])
   (refine tkv 7 (.tuple #[.agg (icells x), .agg (icells l), .int .i64 0]) rfl ?_)
   (refine tkv 8 (.agg (icells x)) rfl ?_)
   (refine tkv 9 (.agg (icells l)) rfl ?_)
   (refine tkv 10 (.int .i64 0) rfl ?_)
   refine wpAnyH_ready (rs := [11, 12]) (by kernel_rfl) (by simp) ?_; refine AllReadyH.cons rfl (fun K hK => ?_) (AllReadyH.cons rfl (fun K hK => ?_) (AllReadyH.nil))
   ·rw [if_pos (by rfl)]
    refine ov_alloc _ rfl rfl (by exact q7r) HM ?_
    intro gA11 wA HMA HWA HGA
    have HGx11 := Lib.hid (Nat.le_trans HM.out.2.2.2.2.1 HGA.out)
    clear HM hHeld HWA HGA
    have HM := HMA
    clear HMA
    refine hK.out _ _ ⟨HM.out.get (by exact q7m), HM.out.get (by exact q7m)⟩ (fun hHeld => ?_)
    clear hK K
    (try simp only [Act.put, qz1, qz2, qz3])
    refine wpAnyH_ready (rs := [12]) (by kernel_rfl) (by simp) ?_; refine AllReadyH.cons rfl (fun K hK => ?_) (AllReadyH.nil)
    rw [if_pos (by rfl)]
    refine ov_alloc _ rfl rfl (by exact q7r) HM ?_
    intro gA12 wA HMA HWA HGA
    have HGx12 := Lib.hid (Nat.le_trans HM.out.2.2.2.2.1 HGA.out)
    clear HM hHeld HWA HGA
    have HM := HMA
    clear HMA
    refine hK.out _ _ ⟨HM.out.get (by exact q7m), HM.out.get (by exact q7m)⟩ (fun hHeld => ?_)
    clear hK K
    (try simp only [Act.put, qz1, qz2, qz3])
    refine wpAnyH_ready (rs := [13]) (by kernel_rfl) (by simp) ?_; refine AllReadyH.cons rfl (fun K hK => ?_) (AllReadyH.nil)
    rw [if_pos (by rfl)]; refine ov_store _ _ _ rfl rfl rfl (by exact q7r) HM (by exact q7i) (by exact q7s) (by exact q7s) (by exact q7o) rfl ?_; clear HM; intro us HM; dsimp only [List.set] at HM
    clear hHeld
    refine hK.out _ _ ⟨HM.out.get (by exact q7m), HM.out.get (by exact q7m)⟩ (fun hHeld => ?_)
    clear hK K
    (try simp only [Act.put, qz1, qz2, qz3])
    refine wpAnyH_ready (rs := [14]) (by kernel_rfl) (by simp) ?_; refine AllReadyH.cons rfl (fun K hK => ?_) (AllReadyH.nil)
    rw [if_pos (by rfl)]; refine ov_store _ _ _ rfl rfl rfl (by exact q7r) HM (by exact q7i) (by exact q7s) (by exact q7s) (by exact q7o) rfl ?_; clear HM; intro us HM; dsimp only [List.set] at HM
    clear hHeld
    refine hK.out _ _ ⟨HM.out.get (by exact q7m), HM.out.get (by exact q7m)⟩ (fun hHeld => ?_)
    clear hK K
    (try simp only [Act.put, qz1, qz2, qz3])
    (refine tkv 15 (.int .i64 0) rfl ?_)
    refine wpAnyH_done (by kernel_rfl) ?_ _
    clear hHeld
    go_wp2_with fail
    go_meet
    first | exact ⟨gA11, gA12, rfl, rfl, rfl, HGx11, HGx12, HM⟩ | exact ⟨gA11, gA12, rfl, rfl, rfl, HGx11, HGx12, Lib.hid HM.out.swap⟩
   ·rw [if_pos (by rfl)]
    refine ov_alloc _ rfl rfl (by exact q7r) HM ?_
    intro gA12 wA HMA HWA HGA
    have HGx12 := Lib.hid (Nat.le_trans HM.out.2.2.2.2.1 HGA.out)
    clear HM hHeld HWA HGA
    have HM := HMA
    clear HMA
    refine hK.out _ _ ⟨HM.out.get (by exact q7m), HM.out.get (by exact q7m)⟩ (fun hHeld => ?_)
    clear hK K
    (try simp only [Act.put, qz1, qz2, qz3])
    refine wpAnyH_ready (rs := [11]) (by kernel_rfl) (by simp) ?_; refine AllReadyH.cons rfl (fun K hK => ?_) (AllReadyH.nil)
    rw [if_pos (by rfl)]
    refine ov_alloc _ rfl rfl (by exact q7r) HM ?_
    intro gA11 wA HMA HWA HGA
    have HGx11 := Lib.hid (Nat.le_trans HM.out.2.2.2.2.1 HGA.out)
    clear HM hHeld HWA HGA
    have HM := HMA
    clear HMA
    refine hK.out _ _ ⟨HM.out.get (by exact q7m), HM.out.get (by exact q7m)⟩ (fun hHeld => ?_)
    clear hK K
    (try simp only [Act.put, qz1, qz2, qz3])
    refine wpAnyH_ready (rs := [13]) (by kernel_rfl) (by simp) ?_; refine AllReadyH.cons rfl (fun K hK => ?_) (AllReadyH.nil)
    rw [if_pos (by rfl)]; refine ov_store _ _ _ rfl rfl rfl (by exact q7r) HM (by exact q7i) (by exact q7s) (by exact q7s) (by exact q7o) rfl ?_; clear HM; intro us HM; dsimp only [List.set] at HM
    clear hHeld
    refine hK.out _ _ ⟨HM.out.get (by exact q7m), HM.out.get (by exact q7m)⟩ (fun hHeld => ?_)
    clear hK K
    (try simp only [Act.put, qz1, qz2, qz3])
    refine wpAnyH_ready (rs := [14]) (by kernel_rfl) (by simp) ?_; refine AllReadyH.cons rfl (fun K hK => ?_) (AllReadyH.nil)
    rw [if_pos (by rfl)]; refine ov_store _ _ _ rfl rfl rfl (by exact q7r) HM (by exact q7i) (by exact q7s) (by exact q7s) (by exact q7o) rfl ?_; clear HM; intro us HM; dsimp only [List.set] at HM
    clear hHeld
    refine hK.out _ _ ⟨HM.out.get (by exact q7m), HM.out.get (by exact q7m)⟩ (fun hHeld => ?_)
    clear hK K
    (try simp only [Act.put, qz1, qz2, qz3])
    (refine tkv 15 (.int .i64 0) rfl ?_)
    refine wpAnyH_done (by kernel_rfl) ?_ _
    clear hHeld
    go_wp2_with fail
    go_meet
    first | exact ⟨gA11, gA12, rfl, rfl, rfl, HGx11, HGx12, HM⟩ | exact ⟨gA11, gA12, rfl, rfl, rfl, HGx11, HGx12, Lib.hid HM.out.swap⟩
  ·rw [if_pos (by rfl)]
   refine ov_alloc _ rfl rfl (by exact q7r) HM ?_
   intro gA11 wA HMA HWA HGA
   have HGx11 := Lib.hid (Nat.le_trans HM.out.2.2.2.2.1 HGA.out)
   clear HM hHeld HWA HGA
   have HM := HMA
   clear HMA
   refine hK.out _ _ ⟨HM.out.get (by exact q7m), HM.out.get (by exact q7m)⟩ (fun hHeld => ?_)
   clear hK K
   (try simp only [Act.put, qz1, qz2, qz3])
   refine wpAnyH_ready (rs := [6, 12]) (by kernel_rfl) (by simp) ?_; refine AllReadyH.cons rfl (fun K hK => ?_) (AllReadyH.cons rfl (fun K hK => ?_) (AllReadyH.nil))
   ·rw [if_pos (by rfl)]; go_simp
    refine (HME.out _ (HE.out.below HM.out.1)).mono ?_
    rintro e w3 ⟨rfl, hb⟩
    replace HM := Lib.hid (HM.out.below hb)
    clear hb
    clear hHeld
    go_wp2_with fail
    refine hK.out _ _ ⟨HM.out.get (by exact q7m), HM.out.get (by exact q7m)⟩ (fun hHeld => ?_)
    clear hK K
    (try simp only [Act.put, qz1, qz2, qz3])
    (refine tkv 7 (.tuple #[.agg (icells x), .agg (icells l), .int .i64 0]) rfl ?_)
    (refine tkv 8 (.agg (icells x)) rfl ?_)
    (refine tkv 9 (.agg (icells l)) rfl ?_)
    (refine tkv 10 (.int .i64 0) rfl ?_)
    refine wpAnyH_ready (rs := [12]) (by kernel_rfl) (by simp) ?_; refine AllReadyH.cons rfl (fun K hK => ?_) (AllReadyH.nil)
    rw [if_pos (by rfl)]
    refine ov_alloc _ rfl rfl (by exact q7r) HM ?_
    intro gA12 wA HMA HWA HGA
    have HGx12 := Lib.hid (Nat.le_trans HM.out.2.2.2.2.1 HGA.out)
    clear HM hHeld HWA HGA
    have HM := HMA
    clear HMA
    refine hK.out _ _ ⟨HM.out.get (by exact q7m), HM.out.get (by exact q7m)⟩ (fun hHeld => ?_)
    clear hK K
    (try simp only [Act.put, qz1, qz2, qz3])
    refine wpAnyH_ready (rs := [13]) (by kernel_rfl) (by simp) ?_; refine AllReadyH.cons rfl (fun K hK => ?_) (AllReadyH.nil)
    rw [if_pos (by rfl)]; refine ov_store _ _ _ rfl rfl rfl (by exact q7r) HM (by exact q7i) (by exact q7s) (by exact q7s) (by exact q7o) rfl ?_; clear HM; intro us HM; dsimp only [List.set] at HM
    clear hHeld
    refine hK.out _ _ ⟨HM.out.get (by exact q7m), HM.out.get (by exact q7m)⟩ (fun hHeld => ?_)
    clear hK K
    (try simp only [Act.put, qz1, qz2, qz3])
    refine wpAnyH_ready (rs := [14]) (by kernel_rfl) (by simp) ?_; refine AllReadyH.cons rfl (fun K hK => ?_) (AllReadyH.nil)
    rw [if_pos (by rfl)]; refine ov_store _ _ _ rfl rfl rfl (by exact q7r) HM (by exact q7i) (by exact q7s) (by exact q7s) (by exact q7o) rfl ?_; clear HM; intro us HM; dsimp only [List.set] at HM
    clear hHeld
    refine hK.out _ _ ⟨HM.out.get (by exact q7m), HM.out.get (by exact q7m)⟩ (fun hHeld => ?_)
    clear hK K
    (try simp only [Act.put, qz1, qz2, qz3])
    (refine tkv 15 (.int .i64 0) rfl ?_)
    refine wpAnyH_done (by kernel_rfl) ?_ _
    clear hHeld
    go_wp2_with fail
    go_meet
    first | exact ⟨gA11, gA12, rfl, rfl, rfl, HGx11, HGx12, HM⟩ | exact ⟨gA11, gA12, rfl, rfl, rfl, HGx11, HGx12, Lib.hid HM.out.swap⟩
   ·rw [if_pos (by rfl)]
    refine ov_alloc _ rfl rfl (by exact q7r) HM ?_
    intro gA12 wA HMA HWA HGA
    have HGx12 := Lib.hid (Nat.le_trans HM.out.2.2.2.2.1 HGA.out)
    clear HM hHeld HWA HGA
    have HM := HMA
    clear HMA
    refine hK.out _ _ ⟨HM.out.get (by exact q7m), HM.out.get (by exact q7m)⟩ (fun hHeld => ?_)
    clear hK K
    (try simp only [Act.put, qz1, qz2, qz3])
    refine wpAnyH_ready (rs := [6]) (by kernel_rfl) (by simp) ?_; refine AllReadyH.cons rfl (fun K hK => ?_) (AllReadyH.nil)
    rw [if_pos (by rfl)]; go_simp
    refine (HME.out _ (HE.out.below HM.out.1)).mono ?_
    rintro e w3 ⟨rfl, hb⟩
    replace HM := Lib.hid (HM.out.below hb)
    clear hb
    clear hHeld
    go_wp2_with fail
    refine hK.out _ _ ⟨HM.out.get (by exact q7m), HM.out.get (by exact q7m)⟩ (fun hHeld => ?_)
    clear hK K
    (try simp only [Act.put, qz1, qz2, qz3])
    (refine tkv 7 (.tuple #[.agg (icells x), .agg (icells l), .int .i64 0]) rfl ?_)
    (refine tkv 8 (.agg (icells x)) rfl ?_)
    (refine tkv 9 (.agg (icells l)) rfl ?_)
    (refine tkv 10 (.int .i64 0) rfl ?_)
    refine wpAnyH_ready (rs := [13]) (by kernel_rfl) (by simp) ?_; refine AllReadyH.cons rfl (fun K hK => ?_) (AllReadyH.nil)
    rw [if_pos (by rfl)]; refine ov_store _ _ _ rfl rfl rfl (by exact q7r) HM (by exact q7i) (by exact q7s) (by exact q7s) (by exact q7o) rfl ?_; clear HM; intro us HM; dsimp only [List.set] at HM
    clear hHeld
    refine hK.out _ _ ⟨HM.out.get (by exact q7m), HM.out.get (by exact q7m)⟩ (fun hHeld => ?_)
    clear hK K
    (try simp only [Act.put, qz1, qz2, qz3])
    refine wpAnyH_ready (rs := [14]) (by kernel_rfl) (by simp) ?_; refine AllReadyH.cons rfl (fun K hK => ?_) (AllReadyH.nil)
    rw [if_pos (by rfl)]; refine ov_store _ _ _ rfl rfl rfl (by exact q7r) HM (by exact q7i) (by exact q7s) (by exact q7s) (by exact q7o) rfl ?_; clear HM; intro us HM; dsimp only [List.set] at HM
    clear hHeld
    refine hK.out _ _ ⟨HM.out.get (by exact q7m), HM.out.get (by exact q7m)⟩ (fun hHeld => ?_)
    clear hK K
    (try simp only [Act.put, qz1, qz2, qz3])
    (refine tkv 15 (.int .i64 0) rfl ?_)
    refine wpAnyH_done (by kernel_rfl) ?_ _
    clear hHeld
    go_wp2_with fail
    go_meet
    first | exact ⟨gA11, gA12, rfl, rfl, rfl, HGx11, HGx12, HM⟩ | exact ⟨gA11, gA12, rfl, rfl, rfl, HGx11, HGx12, Lib.hid HM.out.swap⟩
  ·rw [if_pos (by rfl)]
   refine ov_alloc _ rfl rfl (by exact q7r) HM ?_
   intro gA12 wA HMA HWA HGA
   have HGx12 := Lib.hid (Nat.le_trans HM.out.2.2.2.2.1 HGA.out)
   clear HM hHeld HWA HGA
   have HM := HMA
   clear HMA
   refine hK.out _ _ ⟨HM.out.get (by exact q7m), HM.out.get (by exact q7m)⟩ (fun hHeld => ?_)
   clear hK K
   (try simp only [Act.put, qz1, qz2, qz3])
   refine wpAnyH_ready (rs := [6, 11]) (by kernel_rfl) (by simp) ?_; refine AllReadyH.cons rfl (fun K hK => ?_) (AllReadyH.cons rfl (fun K hK => ?_) (AllReadyH.nil))
   ·rw [if_pos (by rfl)]; go_simp
    refine (HME.out _ (HE.out.below HM.out.1)).mono ?_
    rintro e w3 ⟨rfl, hb⟩
    replace HM := Lib.hid (HM.out.below hb)
    clear hb
    clear hHeld
    go_wp2_with fail
    refine hK.out _ _ ⟨HM.out.get (by exact q7m), HM.out.get (by exact q7m)⟩ (fun hHeld => ?_)
    clear hK K
    (try simp only [Act.put, qz1, qz2, qz3])
    (refine tkv 7 (.tuple #[.agg (icells x), .agg (icells l), .int .i64 0]) rfl ?_)
    (refine tkv 8 (.agg (icells x)) rfl ?_)
    (refine tkv 9 (.agg (icells l)) rfl ?_)
    (refine tkv 10 (.int .i64 0) rfl ?_)
    refine wpAnyH_ready (rs := [11]) (by kernel_rfl) (by simp) ?_; refine AllReadyH.cons rfl (fun K hK => ?_) (AllReadyH.nil)
    rw [if_pos (by rfl)]
    refine ov_alloc _ rfl rfl (by exact q7r) HM ?_
    intro gA11 wA HMA HWA HGA
    have HGx11 := Lib.hid (Nat.le_trans HM.out.2.2.2.2.1 HGA.out)
    clear HM hHeld HWA HGA
    have HM := HMA
    clear HMA
    refine hK.out _ _ ⟨HM.out.get (by exact q7m), HM.out.get (by exact q7m)⟩ (fun hHeld => ?_)
    clear hK K
    (try simp only [Act.put, qz1, qz2, qz3])
    refine wpAnyH_ready (rs := [13]) (by kernel_rfl) (by simp) ?_; refine AllReadyH.cons rfl (fun K hK => ?_) (AllReadyH.nil)
    rw [if_pos (by rfl)]; refine ov_store _ _ _ rfl rfl rfl (by exact q7r) HM (by exact q7i) (by exact q7s) (by exact q7s) (by exact q7o) rfl ?_; clear HM; intro us HM; dsimp only [List.set] at HM
    clear hHeld
    refine hK.out _ _ ⟨HM.out.get (by exact q7m), HM.out.get (by exact q7m)⟩ (fun hHeld => ?_)
    clear hK K
    (try simp only [Act.put, qz1, qz2, qz3])
    refine wpAnyH_ready (rs := [14]) (by kernel_rfl) (by simp) ?_; refine AllReadyH.cons rfl (fun K hK => ?_) (AllReadyH.nil)
    rw [if_pos (by rfl)]; refine ov_store _ _ _ rfl rfl rfl (by exact q7r) HM (by exact q7i) (by exact q7s) (by exact q7s) (by exact q7o) rfl ?_; clear HM; intro us HM; dsimp only [List.set] at HM
    clear hHeld
    refine hK.out _ _ ⟨HM.out.get (by exact q7m), HM.out.get (by exact q7m)⟩ (fun hHeld => ?_)
    clear hK K
    (try simp only [Act.put, qz1, qz2, qz3])
    (refine tkv 15 (.int .i64 0) rfl ?_)
    refine wpAnyH_done (by kernel_rfl) ?_ _
    clear hHeld
    go_wp2_with fail
    go_meet
    first | exact ⟨gA11, gA12, rfl, rfl, rfl, HGx11, HGx12, HM⟩ | exact ⟨gA11, gA12, rfl, rfl, rfl, HGx11, HGx12, Lib.hid HM.out.swap⟩
   ·rw [if_pos (by rfl)]
    refine ov_alloc _ rfl rfl (by exact q7r) HM ?_
    intro gA11 wA HMA HWA HGA
    have HGx11 := Lib.hid (Nat.le_trans HM.out.2.2.2.2.1 HGA.out)
    clear HM hHeld HWA HGA
    have HM := HMA
    clear HMA
    refine hK.out _ _ ⟨HM.out.get (by exact q7m), HM.out.get (by exact q7m)⟩ (fun hHeld => ?_)
    clear hK K
    (try simp only [Act.put, qz1, qz2, qz3])
    refine wpAnyH_ready (rs := [6]) (by kernel_rfl) (by simp) ?_; refine AllReadyH.cons rfl (fun K hK => ?_) (AllReadyH.nil)
    rw [if_pos (by rfl)]; go_simp
    refine (HME.out _ (HE.out.below HM.out.1)).mono ?_
    rintro e w3 ⟨rfl, hb⟩
    replace HM := Lib.hid (HM.out.below hb)
    clear hb
    clear hHeld
    go_wp2_with fail
    refine hK.out _ _ ⟨HM.out.get (by exact q7m), HM.out.get (by exact q7m)⟩ (fun hHeld => ?_)
    clear hK K
    (try simp only [Act.put, qz1, qz2, qz3])
    (refine tkv 7 (.tuple #[.agg (icells x), .agg (icells l), .int .i64 0]) rfl ?_)
    (refine tkv 8 (.agg (icells x)) rfl ?_)
    (refine tkv 9 (.agg (icells l)) rfl ?_)
    (refine tkv 10 (.int .i64 0) rfl ?_)
    refine wpAnyH_ready (rs := [13]) (by kernel_rfl) (by simp) ?_; refine AllReadyH.cons rfl (fun K hK => ?_) (AllReadyH.nil)
    rw [if_pos (by rfl)]; refine ov_store _ _ _ rfl rfl rfl (by exact q7r) HM (by exact q7i) (by exact q7s) (by exact q7s) (by exact q7o) rfl ?_; clear HM; intro us HM; dsimp only [List.set] at HM
    clear hHeld
    refine hK.out _ _ ⟨HM.out.get (by exact q7m), HM.out.get (by exact q7m)⟩ (fun hHeld => ?_)
    clear hK K
    (try simp only [Act.put, qz1, qz2, qz3])
    refine wpAnyH_ready (rs := [14]) (by kernel_rfl) (by simp) ?_; refine AllReadyH.cons rfl (fun K hK => ?_) (AllReadyH.nil)
    rw [if_pos (by rfl)]; refine ov_store _ _ _ rfl rfl rfl (by exact q7r) HM (by exact q7i) (by exact q7s) (by exact q7s) (by exact q7o) rfl ?_; clear HM; intro us HM; dsimp only [List.set] at HM
    clear hHeld
    refine hK.out _ _ ⟨HM.out.get (by exact q7m), HM.out.get (by exact q7m)⟩ (fun hHeld => ?_)
    clear hK K
    (try simp only [Act.put, qz1, qz2, qz3])
    (refine tkv 15 (.int .i64 0) rfl ?_)
    refine wpAnyH_done (by kernel_rfl) ?_ _
    clear hHeld
    go_wp2_with fail
    go_meet
    first | exact ⟨gA11, gA12, rfl, rfl, rfl, HGx11, HGx12, HM⟩ | exact ⟨gA11, gA12, rfl, rfl, rfl, HGx11, HGx12, Lib.hid HM.out.swap⟩
 case rest =>
  clear HM HME
  obtain ⟨G, H, rfl, rfl, rfl, HGG, HGH, HM⟩ := hcut
  go_wp2_with (first | (refine tQl ?_) | (refine tQs ?_; clear HM; intro us HM; dsimp only [List.set] at HM) | (refine tQt ?_; clear HM HTW; intro us HM HTW; dsimp only [List.set] at HM HTW) | (refine tQb ?_) | (refine tQn ?_; first | (have q:dV HM = 0:=rfl;clear q HM;intro g1 u1 HG1 HM) | (have q:dV HM = 1:=rfl;clear q HM;intro g2 u2 HG2 HM) | (have q:dV HM = 2:=rfl;clear q HM;intro g3 u3 HG3 HM) | (have q:dV HM = 3:=rfl;clear q HM;intro g4 u4 HG4 HM) | (have q:dV HM = 4:=rfl;clear q HM;intro g5 u5 HG5 HM) | (have q:dV HM = 5:=rfl;clear q HM;intro g6 u6 HG6 HM) | (have q:dV HM = 6:=rfl;clear q HM;intro g7 u7 HG7 HM) | (have q:dV HM = 7:=rfl;clear q HM;intro g8 u8 HG8 HM) | (have q:dV HM = 8:=rfl;clear q HM;intro g9 u9 HG9 HM) | (have q:dV HM = 9:=rfl;clear q HM;intro g10 u10 HG10 HM)) | (first | (refine aQl ?_) | (refine aQs ?_; clear HM; intro us HM; dsimp only [List.set] at HM) | (refine aQt ?_; clear HM HSW; intro us HM HSW; dsimp only [List.set] at HM HSW) | (refine aQv ?_; clear HM; intro us HM; dsimp only [List.set] at HM) | (refine aQb ?_) | (refine aQn ?_; first | (have q:dV HM = 0:=rfl;clear q HM;intro g1 u1 HG1 HM) | (have q:dV HM = 1:=rfl;clear q HM;intro g2 u2 HG2 HM) | (have q:dV HM = 2:=rfl;clear q HM;intro g3 u3 HG3 HM) | (have q:dV HM = 3:=rfl;clear q HM;intro g4 u4 HG4 HM) | (have q:dV HM = 4:=rfl;clear q HM;intro g5 u5 HG5 HM) | (have q:dV HM = 5:=rfl;clear q HM;intro g6 u6 HG6 HM) | (have q:dV HM = 6:=rfl;clear q HM;intro g7 u7 HG7 HM) | (have q:dV HM = 7:=rfl;clear q HM;intro g8 u8 HG8 HM) | (have q:dV HM = 8:=rfl;clear q HM;intro g9 u9 HG9 HM) | (have q:dV HM = 9:=rfl;clear q HM;intro g10 u10 HG10 HM))))
  refine (HLD.out _).mono ?_
  rintro e w3 ⟨rfl, hb⟩
  replace HM := Lib.hid (HM.out.below hb)
  clear hb HLD
  go_wp2_with (first | (refine tQl ?_) | (refine tQs ?_; clear HM; intro us HM; dsimp only [List.set] at HM) | (refine tQt ?_; clear HM HTW; intro us HM HTW; dsimp only [List.set] at HM HTW) | (refine tQb ?_) | (refine tQn ?_; first | (have q:dV HM = 0:=rfl;clear q HM;intro g1 u1 HG1 HM) | (have q:dV HM = 1:=rfl;clear q HM;intro g2 u2 HG2 HM) | (have q:dV HM = 2:=rfl;clear q HM;intro g3 u3 HG3 HM) | (have q:dV HM = 3:=rfl;clear q HM;intro g4 u4 HG4 HM) | (have q:dV HM = 4:=rfl;clear q HM;intro g5 u5 HG5 HM) | (have q:dV HM = 5:=rfl;clear q HM;intro g6 u6 HG6 HM) | (have q:dV HM = 6:=rfl;clear q HM;intro g7 u7 HG7 HM) | (have q:dV HM = 7:=rfl;clear q HM;intro g8 u8 HG8 HM) | (have q:dV HM = 8:=rfl;clear q HM;intro g9 u9 HG9 HM) | (have q:dV HM = 9:=rfl;clear q HM;intro g10 u10 HG10 HM)) | (first | (refine aQl ?_) | (refine aQs ?_; clear HM; intro us HM; dsimp only [List.set] at HM) | (refine aQt ?_; clear HM HSW; intro us HM HSW; dsimp only [List.set] at HM HSW) | (refine aQv ?_; clear HM; intro us HM; dsimp only [List.set] at HM) | (refine aQb ?_) | (refine aQn ?_; first | (have q:dV HM = 0:=rfl;clear q HM;intro g1 u1 HG1 HM) | (have q:dV HM = 1:=rfl;clear q HM;intro g2 u2 HG2 HM) | (have q:dV HM = 2:=rfl;clear q HM;intro g3 u3 HG3 HM) | (have q:dV HM = 3:=rfl;clear q HM;intro g4 u4 HG4 HM) | (have q:dV HM = 4:=rfl;clear q HM;intro g5 u5 HG5 HM) | (have q:dV HM = 5:=rfl;clear q HM;intro g6 u6 HG6 HM) | (have q:dV HM = 6:=rfl;clear q HM;intro g7 u7 HG7 HM) | (have q:dV HM = 7:=rfl;clear q HM;intro g8 u8 HG8 HM) | (have q:dV HM = 8:=rfl;clear q HM;intro g9 u9 HG9 HM) | (have q:dV HM = 9:=rfl;clear q HM;intro g10 u10 HG10 HM))))
  refine (HSN.out _ _ (Lib.hid (HM.out.sub (by exact q7v)))).mono ?_
  rintro e w4 ⟨A, n, c, rfl, hn, hr, hm⟩
  have HR := Lib.hid hr
  have HN := Lib.hid hn
  have HM0 := Lib.hid (HM.out.after (by exact q7i) hm)
  dsimp only [List.set] at HM0
  have HAP := Lib.hid (show Apt A n [H, G, g2, m] from fun ad e hn g hg => by
   simp only [List.mem_cons, List.not_mem_nil, or_false] at hg
   rcases hg with rfl | rfl | rfl | rfl
   ·exact rd_noM hr (HM0.out.get (by exact q7m)) (icells8 _) e hn
   ·exact rd_noM hr (HM0.out.get (by exact q7m)) (icells8 _) e hn
   ·exact rd_noM hr (HM0.out.get (by exact q7m)) (icells8 _) e hn
   ·exact rd_noM hr (HM0.out.get (by exact q7m)) (tyC8 _) e hn)
  clear hm HM hr hn HSN HTW
  have HM := Lib.hid HM0.out.base
  go_wp2_with fail
  refine (HHE.out _ _ A n c (Lib.hid (HM.out.sub (by exact q7v))) HR).mono ?_
  rintro e w5 ⟨rfl, hm⟩
  have HM2 := Lib.hid (HM.out.after (by exact q7i) hm)
  clear hm HM HHE
  have HM := HM2
  clear HM2
  dsimp only [List.set] at HM
  have HTW := HT2
  clear HT2
  go_wp2_with (first | (refine tQl ?_) | (refine tQs ?_; clear HM; intro us HM; dsimp only [List.set] at HM) | (refine tQt ?_; clear HM HTW; intro us HM HTW; dsimp only [List.set] at HM HTW) | (refine tQb ?_) | (refine tQn ?_; first | (have q:dV HM = 0:=rfl;clear q HM;intro g1 u1 HG1 HM) | (have q:dV HM = 1:=rfl;clear q HM;intro g2 u2 HG2 HM) | (have q:dV HM = 2:=rfl;clear q HM;intro g3 u3 HG3 HM) | (have q:dV HM = 3:=rfl;clear q HM;intro g4 u4 HG4 HM) | (have q:dV HM = 4:=rfl;clear q HM;intro g5 u5 HG5 HM) | (have q:dV HM = 5:=rfl;clear q HM;intro g6 u6 HG6 HM) | (have q:dV HM = 6:=rfl;clear q HM;intro g7 u7 HG7 HM) | (have q:dV HM = 7:=rfl;clear q HM;intro g8 u8 HG8 HM) | (have q:dV HM = 8:=rfl;clear q HM;intro g9 u9 HG9 HM) | (have q:dV HM = 9:=rfl;clear q HM;intro g10 u10 HG10 HM)) | (first | (refine aQl ?_) | (refine aQs ?_; clear HM; intro us HM; dsimp only [List.set] at HM) | (refine aQt ?_; clear HM HSW; intro us HM HSW; dsimp only [List.set] at HM HSW) | (refine aQv ?_; clear HM; intro us HM; dsimp only [List.set] at HM) | (refine aQb ?_) | (refine aQn ?_; first | (have q:dV HM = 0:=rfl;clear q HM;intro g1 u1 HG1 HM) | (have q:dV HM = 1:=rfl;clear q HM;intro g2 u2 HG2 HM) | (have q:dV HM = 2:=rfl;clear q HM;intro g3 u3 HG3 HM) | (have q:dV HM = 3:=rfl;clear q HM;intro g4 u4 HG4 HM) | (have q:dV HM = 4:=rfl;clear q HM;intro g5 u5 HG5 HM) | (have q:dV HM = 5:=rfl;clear q HM;intro g6 u6 HG6 HM) | (have q:dV HM = 6:=rfl;clear q HM;intro g7 u7 HG7 HM) | (have q:dV HM = 7:=rfl;clear q HM;intro g8 u8 HG8 HM) | (have q:dV HM = 8:=rfl;clear q HM;intro g9 u9 HG9 HM) | (have q:dV HM = 9:=rfl;clear q HM;intro g10 u10 HG10 HM))))
  refine (HHA.out _ _ (Lib.hid (HM.out.sub (by exact q7v)))).mono ?_
  rintro e w6 ⟨rfl, hm⟩
  have HM2 := Lib.hid (HM.out.after (by exact q7i) hm)
  clear hm HM HHA HTW
  have HM := HM2
  clear HM2
  dsimp only [List.set] at HM
  go_wp2_with fail
  go_ret2
  have HRF := HM.out.rdA HR.out HAP.out
  have HMF := Lib.hid (HM0.out.trans HM.out rfl)
  clear HM
  have HM := HMF
  clear HMF
  rw [HNX.out]
  exact ⟨A, n, c, rfl, HN.out, HRF, (by have HP := HM.out; (repeat (replace HP := HP.popH (by with_reducible assumption))); exact HP)⟩
open Cd (De FineD fineD0 d0 nxE nxK decV dcC isB_parts)
open Yr (stR inB rdR rd_thru thru kT kindR lvO nmO chkB wrB rd_one wrB_len chkB_iff)
theorem gkind_any {w0 w : World} {gR n c : Nat} {A : Option Addr} {inp : List Bool} (hb : Hid (Below w0.heap.size w0 w)) (hg : w0.heap.size ≤ gR) (hB : Hid (Blk w gR 124 (dcC (d0 inp) A n c (inp.length : Int)))) (hr : Hid (Rd w A n (pack inp))) (hL : inp.length ≤ 60000) :
  Calls Tryz.prog 49 #[.pointer (some ⟨gR, 0, none⟩)] w (fun e u => e = .returned (.tuple #[.int .i64 (kindR inp), .int .i64 0]) ∧ Below w0.heap.size w0 u) := by
 have HM := Lib.hid (MV.start w)
 have hmf : ∀ (fn : Fn) (first cap : Array Value) (w : World), (Instr.makeFunc fn first cap).run Tryz.prog w = .ok (.func fn first cap) w := fun _ _ _ _ => rfl
 have HG := Lib.hid hg
 have HL := Lib.hid hL
 have H1 := Lib.hid (show 0 < [(0 : Int)].length by decide)
 clear hg hL
 go_enter Tryz.func49, Tryz.ntmps49
 go_wp2_with (first | ((refine wv_allocI rfl rfl HM ?_); (clear HM; intro g1 u1 HG1 HM)) | (refine wv_put rfl _ _ rfl rfl rfl HM (by exact q7i) H1 ?_; clear HM; intro us HM; dsimp only [List.set] at HM))
 have hlt := hB.out.lt
 have HI := Lib.hid (show RsI w0 g1 gR 1 3 inp (d0 inp, [0]) [] us from RsI.start (K := []) (hB.out.below HM.out.1 hlt) (hr.out.below HM.out.1) (HM.out.get (by exact q7m)) rfl (hb.out.trans (HM.out.1.mono hb.out.size)) (fun e he => nomatch he))
 have HT := Lib.hid (telRead (N := 1) (TF := 3) (inp := inp) (⟨by have := HG1.out; omega, by have := HG1.out; have := hb.out.size; omega, HG.out⟩ : RsG w0 g1 gR) HL.out)
 have HC := Lib.hid (tkind_any (d0 inp, [0]) [] us HT HI (by omega) (Nat.le_refl _))
 rw [show stR inp (d0 inp, [0]) kT 0 0 = some (nxE inp (d0 inp) kT, [kindR inp]) from by
  unfold stR
  rw [if_pos (show (d0 inp, ([0] : List Int)).1.at_ ≤ inp.length + 32 from by show 32 ≤ inp.length + 32; omega)]
  simp [kindR]] at HC
 clear HI HT hlt HM
 refine HC.out.mono ?_
 rintro e w3 ⟨rfl, hi⟩
 have HB := Lib.hid hi.blw
 have c0 := blk_at hi.bF (i := 0) (by show 0 < 1; omega)
 simp at c0
 clear hi HC
 go_wp2
 go_ret2
 exact ⟨rfl, HB.out⟩
theorem fkind_any (A : Option Addr) (n c : Nat) (bs : List Nat) (w : World) (hr : Hid (Rd w A n bs)) (_hn : n ≤ maxLen) :
  Calls Tryz.prog 26 #[.slice A n c] w (ValQ w (kdV bs)) := by
 have hlen := hr.out.1
 by_cases h : 1 ≤ n ∧ n ≤ 40
 ·have HV : kdV bs = .tuple #[.int .i64 (kindR (inB bs)), .int .i64 0] := by unfold kdV; rw [if_pos (by omega)]
  rw [HV]
  have HO := Lib.hid (open_yes A n c bs w hr h.1 h.2)
  have HLb := Lib.hid (show (inB bs).length ≤ 60000 by rw [inB_len]; omega)
  clear h hlen HV
  go_enter Tryz.func26, Tryz.ntmps26
  go_wp2_with fail
  refine HO.out.mono ?_
  rintro e w2 ⟨gR, rfl, hg, ⟨A2, n2, c2, hB, hR⟩, hb⟩
  have HC := Lib.hid (gkind_any (Lib.hid hb) hg (Lib.hid hB) (Lib.hid hR) HLb.out)
  clear hg hB hR hb HO
  go_wp2_with fail
  refine HC.out.mono ?_
  rintro e w3 ⟨rfl, hb⟩
  have HB := Lib.hid hb
  clear hb HC
  go_wp2
  go_ret2
  exact ⟨rfl, HB.out⟩
 ·have HV : kdV bs = .tuple #[.int .i64 0, .int .i64 21] := by unfold kdV; rw [if_neg (by omega)]
  rw [HV]
  have HO := Lib.hid (open_no A n c w h)
  clear h hlen HV
  go_enter Tryz.func26, Tryz.ntmps26
  go_wp2_with fail
  refine HO.out.mono ?_
  rintro e w2 ⟨rfl, hb⟩
  have HB := Lib.hid hb
  clear hb HO
  go_wp2
  go_ret2
  exact ⟨rfl, HB.out⟩
open Yr (Fr chkB chkB_iff nearB nearN wrB wrB_len kindR inB kind_back)
def EsQ (w : World) (t : Ty) (bs : List Nat) (e : Ending) (u : World) : Prop := ∃ A n c, e = .returned (.tuple #[.agg (tyC t), .slice A n c, .int .i64 0]) ∧ n ≤ c ∧ Rd u A n bs ∧ Below w.heap.size w u
theorem estep_any (t : Ty) (p : List Int) (w : World) (ht : Hid (TyW t)) (hk : TyOk t) (lp : p.length = 16) (hp : okP p = true) (he : Edg w) :
  Calls Tryz.prog 22 #[.agg (tyC t), .agg (icells p)] w (EsQ w (nexT t p) (byT t p)) := by
 have HM := Lib.hid (MV.start w)
 have HTW := ht
 have LP := Lib.hid lp
 have HST := Lib.hid (fun (u v : World) (m : Nat) (h : Hid (MV w u [(m, 80, tyC t)] v)) => tstep_any t p h ht hk lp hp (Lib.hid he))
 have HNW := Lib.hid (nexT_w ht.out hk lp)
 generalize nexT t p = nx at HST HNW ⊢
 generalize byT t p = bs at HST ⊢
 unfold BtQ at HST
 unfold EsQ
 clear ht hk lp hp he
 go_enter Tryz.func22, Tryz.ntmps22
 go_wp2_with (first | (refine tQl ?_) | (refine tQs ?_; clear HM; intro us HM; dsimp only [List.set] at HM) | (refine tQt ?_; clear HM HTW; intro us HM HTW; dsimp only [List.set] at HM HTW) | (refine tQb ?_) | (refine tQn ?_; first | (have q:dV HM = 0:=rfl;clear q HM;intro g1 u1 HG1 HM) | (have q:dV HM = 1:=rfl;clear q HM;intro g2 u2 HG2 HM) | (have q:dV HM = 2:=rfl;clear q HM;intro g3 u3 HG3 HM) | (have q:dV HM = 3:=rfl;clear q HM;intro g4 u4 HG4 HM) | (have q:dV HM = 4:=rfl;clear q HM;intro g5 u5 HG5 HM) | (have q:dV HM = 5:=rfl;clear q HM;intro g6 u6 HG6 HM) | (have q:dV HM = 6:=rfl;clear q HM;intro g7 u7 HG7 HM) | (have q:dV HM = 7:=rfl;clear q HM;intro g8 u8 HG8 HM) | (have q:dV HM = 8:=rfl;clear q HM;intro g9 u9 HG9 HM) | (have q:dV HM = 9:=rfl;clear q HM;intro g10 u10 HG10 HM)) | (first | (refine aQl ?_) | (refine aQs ?_; clear HM; intro us HM; dsimp only [List.set] at HM) | (refine aQt ?_; clear HM HSW; intro us HM HSW; dsimp only [List.set] at HM HSW) | (refine aQv ?_; clear HM; intro us HM; dsimp only [List.set] at HM) | (refine aQb ?_) | (refine aQn ?_; first | (have q:dV HM = 0:=rfl;clear q HM;intro g1 u1 HG1 HM) | (have q:dV HM = 1:=rfl;clear q HM;intro g2 u2 HG2 HM) | (have q:dV HM = 2:=rfl;clear q HM;intro g3 u3 HG3 HM) | (have q:dV HM = 3:=rfl;clear q HM;intro g4 u4 HG4 HM) | (have q:dV HM = 4:=rfl;clear q HM;intro g5 u5 HG5 HM) | (have q:dV HM = 5:=rfl;clear q HM;intro g6 u6 HG6 HM) | (have q:dV HM = 6:=rfl;clear q HM;intro g7 u7 HG7 HM) | (have q:dV HM = 7:=rfl;clear q HM;intro g8 u8 HG8 HM) | (have q:dV HM = 8:=rfl;clear q HM;intro g9 u9 HG9 HM) | (have q:dV HM = 9:=rfl;clear q HM;intro g10 u10 HG10 HM))))
 refine (HST.out _ _ g4 (Lib.hid (HM.out.sub (by exact q7v)))).mono ?_
 rintro e w4 ⟨A, n, c, rfl, hn, hr, hm⟩
 have HR := Lib.hid hr
 have HN := Lib.hid hn
 have HM0 := Lib.hid (HM.out.after (by exact q7i) hm)
 dsimp only [List.set] at HM0
 have HAP := Lib.hid (show Apt A n [g4, g3, g2, g1] from fun ad e hn g hg => by
  simp only [List.mem_cons, List.not_mem_nil, or_false] at hg
  rcases hg with rfl | rfl | rfl | rfl
  ·exact rd_noM hr (HM0.out.get (by exact q7m)) (tyC8 _) e hn
  ·exact rd_noM hr (HM0.out.get (by exact q7m)) (tyC8 _) e hn
  ·exact rd_noM hr (HM0.out.get (by exact q7m)) (icells8 _) e hn
  ·exact rd_noM hr (HM0.out.get (by exact q7m)) (tyC8 _) e hn)
 clear hm HM hr hn HST
 have HM := Lib.hid HM0.out.base
 go_wp2_with (first | (refine tQl ?_) | (refine tQs ?_; clear HM; intro us HM; dsimp only [List.set] at HM) | (refine tQt ?_; clear HM HTW; intro us HM HTW; dsimp only [List.set] at HM HTW) | (refine tQb ?_) | (refine tQn ?_; first | (have q:dV HM = 0:=rfl;clear q HM;intro g1 u1 HG1 HM) | (have q:dV HM = 1:=rfl;clear q HM;intro g2 u2 HG2 HM) | (have q:dV HM = 2:=rfl;clear q HM;intro g3 u3 HG3 HM) | (have q:dV HM = 3:=rfl;clear q HM;intro g4 u4 HG4 HM) | (have q:dV HM = 4:=rfl;clear q HM;intro g5 u5 HG5 HM) | (have q:dV HM = 5:=rfl;clear q HM;intro g6 u6 HG6 HM) | (have q:dV HM = 6:=rfl;clear q HM;intro g7 u7 HG7 HM) | (have q:dV HM = 7:=rfl;clear q HM;intro g8 u8 HG8 HM) | (have q:dV HM = 8:=rfl;clear q HM;intro g9 u9 HG9 HM) | (have q:dV HM = 9:=rfl;clear q HM;intro g10 u10 HG10 HM)) | (first | (refine aQl ?_) | (refine aQs ?_; clear HM; intro us HM; dsimp only [List.set] at HM) | (refine aQt ?_; clear HM HSW; intro us HM HSW; dsimp only [List.set] at HM HSW) | (refine aQv ?_; clear HM; intro us HM; dsimp only [List.set] at HM) | (refine aQb ?_) | (refine aQn ?_; first | (have q:dV HM = 0:=rfl;clear q HM;intro g1 u1 HG1 HM) | (have q:dV HM = 1:=rfl;clear q HM;intro g2 u2 HG2 HM) | (have q:dV HM = 2:=rfl;clear q HM;intro g3 u3 HG3 HM) | (have q:dV HM = 3:=rfl;clear q HM;intro g4 u4 HG4 HM) | (have q:dV HM = 4:=rfl;clear q HM;intro g5 u5 HG5 HM) | (have q:dV HM = 5:=rfl;clear q HM;intro g6 u6 HG6 HM) | (have q:dV HM = 6:=rfl;clear q HM;intro g7 u7 HG7 HM) | (have q:dV HM = 7:=rfl;clear q HM;intro g8 u8 HG8 HM) | (have q:dV HM = 8:=rfl;clear q HM;intro g9 u9 HG9 HM) | (have q:dV HM = 9:=rfl;clear q HM;intro g10 u10 HG10 HM))))
 have HRF := HM.out.rdA HR.out HAP.out
 have HMF := Lib.hid (HM0.out.trans HM.out rfl)
 refine bodyPost_ret (v := .tuple #[.agg (tyC nx), .slice A n c, .int .i64 0]) (vres_cts rfl _ rfl rfl rfl rowTal HM (by exact q7m) (by exact tsizOf)) rfl ⟨A, n, c, rfl, HN.out, HRF, HMF.out.1⟩
theorem tyC_onE : tyC Ty.one = (icl (zr 16) ++ ([Value.int .i64 0, Value.int .i64 0, Value.int .i64 0] ++ (syC Sy.one).toList)).toArray := by unfold tyC; rfl
theorem built_talOne : Tryz.prog.built 52 [(4, .agg (syC Sy.one))] = some (tyC Ty.one) := by rw [tyC_onE]; kernel_rfl
theorem estart_any (w : World) : Calls Tryz.prog 21 #[] w (ValQ w (.agg (tyC Ty.one))) := by
 have HM := Lib.hid (MV.start w)
 go_enter Tryz.func21, Tryz.ntmps21
 go_wp2_with (first | (refine tQl ?_) | (refine tQs ?_; clear HM; intro us HM; dsimp only [List.set] at HM) | (refine tQt ?_; clear HM HTW; intro us HM HTW; dsimp only [List.set] at HM HTW) | (refine tQb ?_) | (refine tQn ?_; first | (have q:dV HM = 0:=rfl;clear q HM;intro g1 u1 HG1 HM) | (have q:dV HM = 1:=rfl;clear q HM;intro g2 u2 HG2 HM) | (have q:dV HM = 2:=rfl;clear q HM;intro g3 u3 HG3 HM) | (have q:dV HM = 3:=rfl;clear q HM;intro g4 u4 HG4 HM) | (have q:dV HM = 4:=rfl;clear q HM;intro g5 u5 HG5 HM) | (have q:dV HM = 5:=rfl;clear q HM;intro g6 u6 HG6 HM) | (have q:dV HM = 6:=rfl;clear q HM;intro g7 u7 HG7 HM) | (have q:dV HM = 7:=rfl;clear q HM;intro g8 u8 HG8 HM) | (have q:dV HM = 8:=rfl;clear q HM;intro g9 u9 HG9 HM) | (have q:dV HM = 9:=rfl;clear q HM;intro g10 u10 HG10 HM)) | (first | (refine aQl ?_) | (refine aQs ?_; clear HM; intro us HM; dsimp only [List.set] at HM) | (refine aQt ?_; clear HM HSW; intro us HM HSW; dsimp only [List.set] at HM HSW) | (refine aQv ?_; clear HM; intro us HM; dsimp only [List.set] at HM) | (refine aQb ?_) | (refine aQn ?_; first | (have q:dV HM = 0:=rfl;clear q HM;intro g1 u1 HG1 HM) | (have q:dV HM = 1:=rfl;clear q HM;intro g2 u2 HG2 HM) | (have q:dV HM = 2:=rfl;clear q HM;intro g3 u3 HG3 HM) | (have q:dV HM = 3:=rfl;clear q HM;intro g4 u4 HG4 HM) | (have q:dV HM = 4:=rfl;clear q HM;intro g5 u5 HG5 HM) | (have q:dV HM = 5:=rfl;clear q HM;intro g6 u6 HG6 HM) | (have q:dV HM = 6:=rfl;clear q HM;intro g7 u7 HG7 HM) | (have q:dV HM = 7:=rfl;clear q HM;intro g8 u8 HG8 HM) | (have q:dV HM = 8:=rfl;clear q HM;intro g9 u9 HG9 HM) | (have q:dV HM = 9:=rfl;clear q HM;intro g10 u10 HG10 HM))))
 refine (pstart_any _).mono ?_
 rintro e w2 ⟨rfl, hb⟩
 replace HM := Lib.hid (HM.out.below hb)
 clear hb
 go_wp2_with (first | (refine wv_b1 rfl _ 4 _ rfl rfl _ built_talOne ?_) | (first | (refine tQl ?_) | (refine tQs ?_; clear HM; intro us HM; dsimp only [List.set] at HM) | (refine tQt ?_; clear HM HTW; intro us HM HTW; dsimp only [List.set] at HM HTW) | (refine tQb ?_) | (refine tQn ?_; first | (have q:dV HM = 0:=rfl;clear q HM;intro g1 u1 HG1 HM) | (have q:dV HM = 1:=rfl;clear q HM;intro g2 u2 HG2 HM) | (have q:dV HM = 2:=rfl;clear q HM;intro g3 u3 HG3 HM) | (have q:dV HM = 3:=rfl;clear q HM;intro g4 u4 HG4 HM) | (have q:dV HM = 4:=rfl;clear q HM;intro g5 u5 HG5 HM) | (have q:dV HM = 5:=rfl;clear q HM;intro g6 u6 HG6 HM) | (have q:dV HM = 6:=rfl;clear q HM;intro g7 u7 HG7 HM) | (have q:dV HM = 7:=rfl;clear q HM;intro g8 u8 HG8 HM) | (have q:dV HM = 8:=rfl;clear q HM;intro g9 u9 HG9 HM) | (have q:dV HM = 9:=rfl;clear q HM;intro g10 u10 HG10 HM)) | (first | (refine aQl ?_) | (refine aQs ?_; clear HM; intro us HM; dsimp only [List.set] at HM) | (refine aQt ?_; clear HM HSW; intro us HM HSW; dsimp only [List.set] at HM HSW) | (refine aQv ?_; clear HM; intro us HM; dsimp only [List.set] at HM) | (refine aQb ?_) | (refine aQn ?_; first | (have q:dV HM = 0:=rfl;clear q HM;intro g1 u1 HG1 HM) | (have q:dV HM = 1:=rfl;clear q HM;intro g2 u2 HG2 HM) | (have q:dV HM = 2:=rfl;clear q HM;intro g3 u3 HG3 HM) | (have q:dV HM = 3:=rfl;clear q HM;intro g4 u4 HG4 HM) | (have q:dV HM = 4:=rfl;clear q HM;intro g5 u5 HG5 HM) | (have q:dV HM = 5:=rfl;clear q HM;intro g6 u6 HG6 HM) | (have q:dV HM = 6:=rfl;clear q HM;intro g7 u7 HG7 HM) | (have q:dV HM = 7:=rfl;clear q HM;intro g8 u8 HG8 HM) | (have q:dV HM = 8:=rfl;clear q HM;intro g9 u9 HG9 HM) | (have q:dV HM = 9:=rfl;clear q HM;intro g10 u10 HG10 HM)))))
 refine bodyPost_ret (v := .agg (tyC Ty.one)) (vres_cs rfl _ rfl rowTal HM (by exact q7m) (by exact tsizOf)) rfl ⟨rfl, HM.out.1⟩
theorem eloud_any (p q : List Int) (w : World) (lp : p.length = 16) (lq : q.length = 16) (hp : okP p = true) (hq : okP q = true) (he : Edg w) :
  Calls Tryz.prog 25 #[.agg (icells p), .agg (icells q)] w (ValQ w (.tuple #[.bool (decide (100 ≤ ldN (measL (fwdL p q)) 6)), .int .i64 0])) := by
 have HM := Lib.hid (MV.start w)
 have HE := Lib.hid he
 have LP := Lib.hid lp
 have LQ := Lib.hid lq
 have LZ := Lib.hid (zr_length 16)
 have LZ6 := Lib.hid (zr_length 6)
 have HME := Lib.hid (fun u h => emeasure_any p q u lp lq hp hq h)
 have LX := Lib.hid (show (fwdL p q).length = 16 from tab_length _ _)
 have LL := Lib.hid (measL_length (fwdL p q))
 have HLD := Lib.hid (fun u => isLoud_any (measL (fwdL p q)) u (measL_length _) (meas_chk _))
 generalize decide (100 ≤ ldN (measL (fwdL p q)) 6) = b at HLD ⊢
 generalize measL (fwdL p q) = l at HME HLD LL
 generalize fwdL p q = x at HME LX
 clear lp lq hp hq he
 go_enter Tryz.func25, Tryz.ntmps25
 go_wp2_with (first | (refine tQl ?_) | (refine tQs ?_; clear HM; intro us HM; dsimp only [List.set] at HM) | (refine tQt ?_; clear HM HTW; intro us HM HTW; dsimp only [List.set] at HM HTW) | (refine tQb ?_) | (refine tQn ?_; first | (have q:dV HM = 0:=rfl;clear q HM;intro g1 u1 HG1 HM) | (have q:dV HM = 1:=rfl;clear q HM;intro g2 u2 HG2 HM) | (have q:dV HM = 2:=rfl;clear q HM;intro g3 u3 HG3 HM) | (have q:dV HM = 3:=rfl;clear q HM;intro g4 u4 HG4 HM) | (have q:dV HM = 4:=rfl;clear q HM;intro g5 u5 HG5 HM) | (have q:dV HM = 5:=rfl;clear q HM;intro g6 u6 HG6 HM) | (have q:dV HM = 6:=rfl;clear q HM;intro g7 u7 HG7 HM) | (have q:dV HM = 7:=rfl;clear q HM;intro g8 u8 HG8 HM) | (have q:dV HM = 8:=rfl;clear q HM;intro g9 u9 HG9 HM) | (have q:dV HM = 9:=rfl;clear q HM;intro g10 u10 HG10 HM)) | (first | (refine aQl ?_) | (refine aQs ?_; clear HM; intro us HM; dsimp only [List.set] at HM) | (refine aQt ?_; clear HM HSW; intro us HM HSW; dsimp only [List.set] at HM HSW) | (refine aQv ?_; clear HM; intro us HM; dsimp only [List.set] at HM) | (refine aQb ?_) | (refine aQn ?_; first | (have q:dV HM = 0:=rfl;clear q HM;intro g1 u1 HG1 HM) | (have q:dV HM = 1:=rfl;clear q HM;intro g2 u2 HG2 HM) | (have q:dV HM = 2:=rfl;clear q HM;intro g3 u3 HG3 HM) | (have q:dV HM = 3:=rfl;clear q HM;intro g4 u4 HG4 HM) | (have q:dV HM = 4:=rfl;clear q HM;intro g5 u5 HG5 HM) | (have q:dV HM = 5:=rfl;clear q HM;intro g6 u6 HG6 HM) | (have q:dV HM = 6:=rfl;clear q HM;intro g7 u7 HG7 HM) | (have q:dV HM = 7:=rfl;clear q HM;intro g8 u8 HG8 HM) | (have q:dV HM = 8:=rfl;clear q HM;intro g9 u9 HG9 HM) | (have q:dV HM = 9:=rfl;clear q HM;intro g10 u10 HG10 HM))))
 refine (HME.out _ (HE.out.below HM.out.1)).mono ?_
 rintro e w2 ⟨rfl, hb⟩
 replace HM := Lib.hid (HM.out.below hb)
 clear hb HME
 go_wp2_with (first | (refine tQl ?_) | (refine tQs ?_; clear HM; intro us HM; dsimp only [List.set] at HM) | (refine tQt ?_; clear HM HTW; intro us HM HTW; dsimp only [List.set] at HM HTW) | (refine tQb ?_) | (refine tQn ?_; first | (have q:dV HM = 0:=rfl;clear q HM;intro g1 u1 HG1 HM) | (have q:dV HM = 1:=rfl;clear q HM;intro g2 u2 HG2 HM) | (have q:dV HM = 2:=rfl;clear q HM;intro g3 u3 HG3 HM) | (have q:dV HM = 3:=rfl;clear q HM;intro g4 u4 HG4 HM) | (have q:dV HM = 4:=rfl;clear q HM;intro g5 u5 HG5 HM) | (have q:dV HM = 5:=rfl;clear q HM;intro g6 u6 HG6 HM) | (have q:dV HM = 6:=rfl;clear q HM;intro g7 u7 HG7 HM) | (have q:dV HM = 7:=rfl;clear q HM;intro g8 u8 HG8 HM) | (have q:dV HM = 8:=rfl;clear q HM;intro g9 u9 HG9 HM) | (have q:dV HM = 9:=rfl;clear q HM;intro g10 u10 HG10 HM)) | (first | (refine aQl ?_) | (refine aQs ?_; clear HM; intro us HM; dsimp only [List.set] at HM) | (refine aQt ?_; clear HM HSW; intro us HM HSW; dsimp only [List.set] at HM HSW) | (refine aQv ?_; clear HM; intro us HM; dsimp only [List.set] at HM) | (refine aQb ?_) | (refine aQn ?_; first | (have q:dV HM = 0:=rfl;clear q HM;intro g1 u1 HG1 HM) | (have q:dV HM = 1:=rfl;clear q HM;intro g2 u2 HG2 HM) | (have q:dV HM = 2:=rfl;clear q HM;intro g3 u3 HG3 HM) | (have q:dV HM = 3:=rfl;clear q HM;intro g4 u4 HG4 HM) | (have q:dV HM = 4:=rfl;clear q HM;intro g5 u5 HG5 HM) | (have q:dV HM = 5:=rfl;clear q HM;intro g6 u6 HG6 HM) | (have q:dV HM = 6:=rfl;clear q HM;intro g7 u7 HG7 HM) | (have q:dV HM = 7:=rfl;clear q HM;intro g8 u8 HG8 HM) | (have q:dV HM = 8:=rfl;clear q HM;intro g9 u9 HG9 HM) | (have q:dV HM = 9:=rfl;clear q HM;intro g10 u10 HG10 HM))))
 refine (HLD.out _).mono ?_
 rintro e w2 ⟨rfl, hb⟩
 replace HM := Lib.hid (HM.out.below hb)
 clear hb HLD
 go_wp2_with (first | (refine tQl ?_) | (refine tQs ?_; clear HM; intro us HM; dsimp only [List.set] at HM) | (refine tQt ?_; clear HM HTW; intro us HM HTW; dsimp only [List.set] at HM HTW) | (refine tQb ?_) | (refine tQn ?_; first | (have q:dV HM = 0:=rfl;clear q HM;intro g1 u1 HG1 HM) | (have q:dV HM = 1:=rfl;clear q HM;intro g2 u2 HG2 HM) | (have q:dV HM = 2:=rfl;clear q HM;intro g3 u3 HG3 HM) | (have q:dV HM = 3:=rfl;clear q HM;intro g4 u4 HG4 HM) | (have q:dV HM = 4:=rfl;clear q HM;intro g5 u5 HG5 HM) | (have q:dV HM = 5:=rfl;clear q HM;intro g6 u6 HG6 HM) | (have q:dV HM = 6:=rfl;clear q HM;intro g7 u7 HG7 HM) | (have q:dV HM = 7:=rfl;clear q HM;intro g8 u8 HG8 HM) | (have q:dV HM = 8:=rfl;clear q HM;intro g9 u9 HG9 HM) | (have q:dV HM = 9:=rfl;clear q HM;intro g10 u10 HG10 HM)) | (first | (refine aQl ?_) | (refine aQs ?_; clear HM; intro us HM; dsimp only [List.set] at HM) | (refine aQt ?_; clear HM HSW; intro us HM HSW; dsimp only [List.set] at HM HSW) | (refine aQv ?_; clear HM; intro us HM; dsimp only [List.set] at HM) | (refine aQb ?_) | (refine aQn ?_; first | (have q:dV HM = 0:=rfl;clear q HM;intro g1 u1 HG1 HM) | (have q:dV HM = 1:=rfl;clear q HM;intro g2 u2 HG2 HM) | (have q:dV HM = 2:=rfl;clear q HM;intro g3 u3 HG3 HM) | (have q:dV HM = 3:=rfl;clear q HM;intro g4 u4 HG4 HM) | (have q:dV HM = 4:=rfl;clear q HM;intro g5 u5 HG5 HM) | (have q:dV HM = 5:=rfl;clear q HM;intro g6 u6 HG6 HM) | (have q:dV HM = 6:=rfl;clear q HM;intro g7 u7 HG7 HM) | (have q:dV HM = 7:=rfl;clear q HM;intro g8 u8 HG8 HM) | (have q:dV HM = 8:=rfl;clear q HM;intro g9 u9 HG9 HM) | (have q:dV HM = 9:=rfl;clear q HM;intro g10 u10 HG10 HM))))
 go_ret2
 exact ⟨rfl, HM.out.1⟩
theorem sil_lv {t : Ty} (h : t.p = zr 16) : lvTy t (zr 16) = zr 6 := by unfold lvTy; rw [h, fwd_zero, meas_zero]
theorem sil_no {t : Ty} (h : t.p = zr 16) (hh : t.hang = 0) : loudT t (zr 16) = false ∧ sndT t (zr 16) = false := by
 have e : loudT t (zr 16) = false := by unfold loudT; rw [sil_lv h]; decide
 refine ⟨e, ?_⟩
 unfold sndT
 rw [e, hh]
 rfl
theorem sil_next {t : Ty} (h : t.p = zr 16) (hh : t.hang = 0) : (nexT t (zr 16)).p = zr 16 ∧ (nexT t (zr 16)).hang = 0 ∧ (nexT t (zr 16)).sent = 0 ∧ (nexT t (zr 16)).quiet = t.quiet + 1 := by
 obtain ⟨e1, e2⟩ := sil_no h hh
 have n1 : ¬ loudT t (zr 16) = true := by rw [e1]; exact Bool.false_ne_true
 have n2 : ¬ sndT t (zr 16) = true := by rw [e2]; exact Bool.false_ne_true
 exact ⟨rfl, (if_neg n1).trans (by rw [hh]; rfl), if_neg n2, if_neg n2⟩
theorem sil_bytes {t : Ty} (h : t.p = zr 16) (hh : t.hang = 0) : byT t (zr 16) = if t.quiet % 8 = 0 then wrB 2 (zr 6) (zr 16) t.s.l else [] := by
 obtain ⟨-, e2⟩ := sil_no h hh
 unfold byT
 rw [if_neg (by rw [e2]; exact Bool.false_ne_true)]
 unfold restB
 rw [sil_lv h]
theorem fr_sil : Fr 2 (zr 6) (zr 16) (zr 6) := (chkB_iff _ _ _ _).1 (by decide +kernel)
theorem kd_of {K : Int} {l q p : List Int} (h : Fr K l q p) (ll : l.length = 6) (lq : q.length = 16) : kdV (wrB K l q p) = .tuple #[.int .i64 K, .int .i64 0] := by
 have h1 := wrB_len h
 unfold kdV
 rw [if_pos ⟨h1.2, h1.1⟩, kind_back h ll lq]
theorem elive_any (w : World) (he : Edg w) : Calls Tryz.prog 19 #[] w (ValQ w (.bool true)) := by
 have HM := Lib.hid (MV.start w)
 have HE := Lib.hid he
 have LZ := Lib.hid (zr_length 16)
 have N1 := tyN_one.next (p := zr 16) (by omega) (zr_length 16) okP_zr
 obtain ⟨p1, h1, s1, q1⟩ := sil_next (t := Ty.one) rfl rfl
 have HS1 := Lib.hid (fun u h => estep_any Ty.one (zr 16) u (Lib.hid tyW_one) (tyN_one.ok (by omega)) (zr_length 16) okP_zr h)
 rw [sil_bytes (t := Ty.one) rfl rfl, if_pos (show Ty.one.quiet % 8 = 0 from rfl), show Ty.one.s.l = zr 6 from rfl] at HS1
 rw [show Ty.one.quiet + 1 = 1 from rfl] at q1
 have hu : (nexT Ty.one (zr 16)).s.hush = true := by rw [N1.hush, q1]; rfl
 generalize nexT Ty.one (zr 16) = T1 at HS1 N1 p1 h1 s1 q1 hu
 have HS2 := Lib.hid (fun u h => estep_any T1 (zr 16) u (Lib.hid N1.w) (N1.ok (by omega)) (zr_length 16) okP_zr h)
 rw [sil_bytes p1 h1, q1, if_neg (by decide)] at HS2
 have HTW := Lib.hid N1.w
 have HTW2 := Lib.hid (nexT_w (p := zr 16) N1.w (N1.ok (by omega)) (zr_length 16))
 generalize nexT T1 (zr 16) = T2 at HS2 HTW2
 have HHU := Lib.hid hu
 have hb1 := wrB_len fr_sil
 have HKD := Lib.hid (fun (A : Option Addr) (n c : Nat) (u : World) (hr : Hid (Rd u A n (wrB 2 (zr 6) (zr 16) (zr 6)))) => fkind_any A n c _ u hr (by have := hr.out.1; unfold maxLen; omega))
 rw [kd_of fr_sil (zr_length 6) (zr_length 16)] at HKD
 generalize wrB 2 (zr 6) (zr 16) (zr 6) = bs at HS1 HKD
 have d1 : (T1.quiet == 1) = true := by rw [q1]; rfl
 unfold EsQ at HS1 HS2
 clear he N1 p1 h1 s1 q1 hu hb1
 go_enter Tryz.func19, Tryz.ntmps19
 go_wp2_with (first | (refine tQl ?_) | (refine tQs ?_; clear HM; intro us HM; dsimp only [List.set] at HM) | (refine tQt ?_; clear HM HTW; intro us HM HTW; dsimp only [List.set] at HM HTW) | (refine tQb ?_) | (refine tQn ?_; first | (have q:dV HM = 0:=rfl;clear q HM;intro g1 u1 HG1 HM) | (have q:dV HM = 1:=rfl;clear q HM;intro g2 u2 HG2 HM) | (have q:dV HM = 2:=rfl;clear q HM;intro g3 u3 HG3 HM) | (have q:dV HM = 3:=rfl;clear q HM;intro g4 u4 HG4 HM) | (have q:dV HM = 4:=rfl;clear q HM;intro g5 u5 HG5 HM) | (have q:dV HM = 5:=rfl;clear q HM;intro g6 u6 HG6 HM) | (have q:dV HM = 6:=rfl;clear q HM;intro g7 u7 HG7 HM) | (have q:dV HM = 7:=rfl;clear q HM;intro g8 u8 HG8 HM) | (have q:dV HM = 8:=rfl;clear q HM;intro g9 u9 HG9 HM) | (have q:dV HM = 9:=rfl;clear q HM;intro g10 u10 HG10 HM)) | (first | (refine aQl ?_) | (refine aQs ?_; clear HM; intro us HM; dsimp only [List.set] at HM) | (refine aQt ?_; clear HM HSW; intro us HM HSW; dsimp only [List.set] at HM HSW) | (refine aQv ?_; clear HM; intro us HM; dsimp only [List.set] at HM) | (refine aQb ?_) | (refine aQn ?_; first | (have q:dV HM = 0:=rfl;clear q HM;intro g1 u1 HG1 HM) | (have q:dV HM = 1:=rfl;clear q HM;intro g2 u2 HG2 HM) | (have q:dV HM = 2:=rfl;clear q HM;intro g3 u3 HG3 HM) | (have q:dV HM = 3:=rfl;clear q HM;intro g4 u4 HG4 HM) | (have q:dV HM = 4:=rfl;clear q HM;intro g5 u5 HG5 HM) | (have q:dV HM = 5:=rfl;clear q HM;intro g6 u6 HG6 HM) | (have q:dV HM = 6:=rfl;clear q HM;intro g7 u7 HG7 HM) | (have q:dV HM = 7:=rfl;clear q HM;intro g8 u8 HG8 HM) | (have q:dV HM = 8:=rfl;clear q HM;intro g9 u9 HG9 HM) | (have q:dV HM = 9:=rfl;clear q HM;intro g10 u10 HG10 HM))))
 refine (estart_any _).mono ?_
 rintro e w2 ⟨rfl, hb⟩
 replace HM := Lib.hid (HM.out.below hb)
 clear hb
 go_wp2_with (first | (refine tQl ?_) | (refine tQs ?_; clear HM; intro us HM; dsimp only [List.set] at HM) | (refine tQt ?_; clear HM HTW; intro us HM HTW; dsimp only [List.set] at HM HTW) | (refine tQb ?_) | (refine tQn ?_; first | (have q:dV HM = 0:=rfl;clear q HM;intro g1 u1 HG1 HM) | (have q:dV HM = 1:=rfl;clear q HM;intro g2 u2 HG2 HM) | (have q:dV HM = 2:=rfl;clear q HM;intro g3 u3 HG3 HM) | (have q:dV HM = 3:=rfl;clear q HM;intro g4 u4 HG4 HM) | (have q:dV HM = 4:=rfl;clear q HM;intro g5 u5 HG5 HM) | (have q:dV HM = 5:=rfl;clear q HM;intro g6 u6 HG6 HM) | (have q:dV HM = 6:=rfl;clear q HM;intro g7 u7 HG7 HM) | (have q:dV HM = 7:=rfl;clear q HM;intro g8 u8 HG8 HM) | (have q:dV HM = 8:=rfl;clear q HM;intro g9 u9 HG9 HM) | (have q:dV HM = 9:=rfl;clear q HM;intro g10 u10 HG10 HM)) | (first | (refine aQl ?_) | (refine aQs ?_; clear HM; intro us HM; dsimp only [List.set] at HM) | (refine aQt ?_; clear HM HSW; intro us HM HSW; dsimp only [List.set] at HM HSW) | (refine aQv ?_; clear HM; intro us HM; dsimp only [List.set] at HM) | (refine aQb ?_) | (refine aQn ?_; first | (have q:dV HM = 0:=rfl;clear q HM;intro g1 u1 HG1 HM) | (have q:dV HM = 1:=rfl;clear q HM;intro g2 u2 HG2 HM) | (have q:dV HM = 2:=rfl;clear q HM;intro g3 u3 HG3 HM) | (have q:dV HM = 3:=rfl;clear q HM;intro g4 u4 HG4 HM) | (have q:dV HM = 4:=rfl;clear q HM;intro g5 u5 HG5 HM) | (have q:dV HM = 5:=rfl;clear q HM;intro g6 u6 HG6 HM) | (have q:dV HM = 6:=rfl;clear q HM;intro g7 u7 HG7 HM) | (have q:dV HM = 7:=rfl;clear q HM;intro g8 u8 HG8 HM) | (have q:dV HM = 8:=rfl;clear q HM;intro g9 u9 HG9 HM) | (have q:dV HM = 9:=rfl;clear q HM;intro g10 u10 HG10 HM))))
 refine (HS1.out _ (HE.out.below HM.out.1)).mono ?_
 rintro e w3 ⟨A, n, c, rfl, hn, hr, hb⟩
 have HR := Lib.hid hr
 have HAL := Lib.hid (rd_lt hr)
 have HM2 := Lib.hid (HM.out.below hb)
 clear hb HM hr hn HS1
 have HM := Lib.hid HM2.out.base
 clear HM2
 go_wp2_with (first | (refine tQl ?_) | (refine tQs ?_; clear HM; intro us HM; dsimp only [List.set] at HM) | (refine tQt ?_; clear HM HTW; intro us HM HTW; dsimp only [List.set] at HM HTW) | (refine tQb ?_) | (refine tQn ?_; first | (have q:dV HM = 0:=rfl;clear q HM;intro g1 u1 HG1 HM) | (have q:dV HM = 1:=rfl;clear q HM;intro g2 u2 HG2 HM) | (have q:dV HM = 2:=rfl;clear q HM;intro g3 u3 HG3 HM) | (have q:dV HM = 3:=rfl;clear q HM;intro g4 u4 HG4 HM) | (have q:dV HM = 4:=rfl;clear q HM;intro g5 u5 HG5 HM) | (have q:dV HM = 5:=rfl;clear q HM;intro g6 u6 HG6 HM) | (have q:dV HM = 6:=rfl;clear q HM;intro g7 u7 HG7 HM) | (have q:dV HM = 7:=rfl;clear q HM;intro g8 u8 HG8 HM) | (have q:dV HM = 8:=rfl;clear q HM;intro g9 u9 HG9 HM) | (have q:dV HM = 9:=rfl;clear q HM;intro g10 u10 HG10 HM)) | (first | (refine aQl ?_) | (refine aQs ?_; clear HM; intro us HM; dsimp only [List.set] at HM) | (refine aQt ?_; clear HM HSW; intro us HM HSW; dsimp only [List.set] at HM HSW) | (refine aQv ?_; clear HM; intro us HM; dsimp only [List.set] at HM) | (refine aQb ?_) | (refine aQn ?_; first | (have q:dV HM = 0:=rfl;clear q HM;intro g1 u1 HG1 HM) | (have q:dV HM = 1:=rfl;clear q HM;intro g2 u2 HG2 HM) | (have q:dV HM = 2:=rfl;clear q HM;intro g3 u3 HG3 HM) | (have q:dV HM = 3:=rfl;clear q HM;intro g4 u4 HG4 HM) | (have q:dV HM = 4:=rfl;clear q HM;intro g5 u5 HG5 HM) | (have q:dV HM = 5:=rfl;clear q HM;intro g6 u6 HG6 HM) | (have q:dV HM = 6:=rfl;clear q HM;intro g7 u7 HG7 HM) | (have q:dV HM = 7:=rfl;clear q HM;intro g8 u8 HG8 HM) | (have q:dV HM = 8:=rfl;clear q HM;intro g9 u9 HG9 HM) | (have q:dV HM = 9:=rfl;clear q HM;intro g10 u10 HG10 HM))))
 refine (HKD.out A n c _ (Lib.hid (HM.out.rdA HR.out (fun ad e hn g hg => by
  have h1 := HAL.out ad e hn
  have h2 := HG1.out
  simp only [List.map_cons, List.map_nil, List.mem_cons, List.not_mem_nil, or_false] at hg
  subst hg
  omega)))).mono ?_
 rintro e w4 ⟨rfl, hb⟩
 replace HM := Lib.hid (HM.out.below hb)
 clear hb HKD
 go_wp2_with (first | (refine tQl ?_) | (refine tQs ?_; clear HM; intro us HM; dsimp only [List.set] at HM) | (refine tQt ?_; clear HM HTW; intro us HM HTW; dsimp only [List.set] at HM HTW) | (refine tQb ?_) | (refine tQn ?_; first | (have q:dV HM = 0:=rfl;clear q HM;intro g1 u1 HG1 HM) | (have q:dV HM = 1:=rfl;clear q HM;intro g2 u2 HG2 HM) | (have q:dV HM = 2:=rfl;clear q HM;intro g3 u3 HG3 HM) | (have q:dV HM = 3:=rfl;clear q HM;intro g4 u4 HG4 HM) | (have q:dV HM = 4:=rfl;clear q HM;intro g5 u5 HG5 HM) | (have q:dV HM = 5:=rfl;clear q HM;intro g6 u6 HG6 HM) | (have q:dV HM = 6:=rfl;clear q HM;intro g7 u7 HG7 HM) | (have q:dV HM = 7:=rfl;clear q HM;intro g8 u8 HG8 HM) | (have q:dV HM = 8:=rfl;clear q HM;intro g9 u9 HG9 HM) | (have q:dV HM = 9:=rfl;clear q HM;intro g10 u10 HG10 HM)) | (first | (refine aQl ?_) | (refine aQs ?_; clear HM; intro us HM; dsimp only [List.set] at HM) | (refine aQt ?_; clear HM HSW; intro us HM HSW; dsimp only [List.set] at HM HSW) | (refine aQv ?_; clear HM; intro us HM; dsimp only [List.set] at HM) | (refine aQb ?_) | (refine aQn ?_; first | (have q:dV HM = 0:=rfl;clear q HM;intro g1 u1 HG1 HM) | (have q:dV HM = 1:=rfl;clear q HM;intro g2 u2 HG2 HM) | (have q:dV HM = 2:=rfl;clear q HM;intro g3 u3 HG3 HM) | (have q:dV HM = 3:=rfl;clear q HM;intro g4 u4 HG4 HM) | (have q:dV HM = 4:=rfl;clear q HM;intro g5 u5 HG5 HM) | (have q:dV HM = 5:=rfl;clear q HM;intro g6 u6 HG6 HM) | (have q:dV HM = 6:=rfl;clear q HM;intro g7 u7 HG7 HM) | (have q:dV HM = 7:=rfl;clear q HM;intro g8 u8 HG8 HM) | (have q:dV HM = 8:=rfl;clear q HM;intro g9 u9 HG9 HM) | (have q:dV HM = 9:=rfl;clear q HM;intro g10 u10 HG10 HM))))
 refine (HS2.out _ (HE.out.below HM.out.1)).mono ?_
 rintro e w5 ⟨A2, n2, c2, rfl, hn, hr, hb⟩
 obtain rfl : n2 = 0 := hr.1.symm
 replace HM := Lib.hid (HM.out.below hb)
 clear hb hr hn HS2
 go_wp2_with (first | (refine tQl ?_) | (refine tQs ?_; clear HM; intro us HM; dsimp only [List.set] at HM) | (refine tQt ?_; clear HM HTW; intro us HM HTW; dsimp only [List.set] at HM HTW) | (refine tQb ?_) | (refine tQn ?_; first | (have q:dV HM = 0:=rfl;clear q HM;intro g1 u1 HG1 HM) | (have q:dV HM = 1:=rfl;clear q HM;intro g2 u2 HG2 HM) | (have q:dV HM = 2:=rfl;clear q HM;intro g3 u3 HG3 HM) | (have q:dV HM = 3:=rfl;clear q HM;intro g4 u4 HG4 HM) | (have q:dV HM = 4:=rfl;clear q HM;intro g5 u5 HG5 HM) | (have q:dV HM = 5:=rfl;clear q HM;intro g6 u6 HG6 HM) | (have q:dV HM = 6:=rfl;clear q HM;intro g7 u7 HG7 HM) | (have q:dV HM = 7:=rfl;clear q HM;intro g8 u8 HG8 HM) | (have q:dV HM = 8:=rfl;clear q HM;intro g9 u9 HG9 HM) | (have q:dV HM = 9:=rfl;clear q HM;intro g10 u10 HG10 HM)) | (first | (refine aQl ?_) | (refine aQs ?_; clear HM; intro us HM; dsimp only [List.set] at HM) | (refine aQt ?_; clear HM HSW; intro us HM HSW; dsimp only [List.set] at HM HSW) | (refine aQv ?_; clear HM; intro us HM; dsimp only [List.set] at HM) | (refine aQb ?_) | (refine aQn ?_; first | (have q:dV HM = 0:=rfl;clear q HM;intro g1 u1 HG1 HM) | (have q:dV HM = 1:=rfl;clear q HM;intro g2 u2 HG2 HM) | (have q:dV HM = 2:=rfl;clear q HM;intro g3 u3 HG3 HM) | (have q:dV HM = 3:=rfl;clear q HM;intro g4 u4 HG4 HM) | (have q:dV HM = 4:=rfl;clear q HM;intro g5 u5 HG5 HM) | (have q:dV HM = 5:=rfl;clear q HM;intro g6 u6 HG6 HM) | (have q:dV HM = 6:=rfl;clear q HM;intro g7 u7 HG7 HM) | (have q:dV HM = 7:=rfl;clear q HM;intro g8 u8 HG8 HM) | (have q:dV HM = 8:=rfl;clear q HM;intro g9 u9 HG9 HM) | (have q:dV HM = 9:=rfl;clear q HM;intro g10 u10 HG10 HM))))
 go_ret
 exact ⟨rfl, HM.out.1⟩
structure SilT (k : Nat) (t : Ty) : Prop where
 n : TyN k t
 p : t.p = zr 16
 h : t.hang = 0
 s : t.sent = 0
 q : t.quiet = k
theorem silT_one : SilT 0 Ty.one := ⟨tyN_one, rfl, rfl, rfl, rfl⟩
theorem SilT.next {k : Nat} {t : Ty} (h : SilT k t) (hk : k ≤ 1000) : SilT (k + 1) (nexT t (zr 16)) := by
 obtain ⟨a, b, c, d⟩ := sil_next h.p h.h
 exact ⟨h.n.next hk (zr_length 16) okP_zr, a, b, c, by rw [d, h.q]; rfl⟩
theorem SilT.len {k : Nat} {t : Ty} (h : SilT k t) : ((byT t (zr 16)).length = 0) ↔ ¬ (k : Int) % 8 = 0 := by
 rw [List.length_eq_zero_iff, byT_nil h.n.oks, h.q]
 exact ⟨fun x => x.2, fun x => ⟨(sil_no h.p h.h).2, x⟩⟩
theorem quiet_law (v : Int) (w : World) (hv : -9223372036854775808 ≤ v ∧ v ≤ 9223372036854775807) (he : Edg w) :
  Calls Tryz.prog 8 #[.int .i64 v] w (ValQ w (.bool true)) := by
 have HM := Lib.hid (MV.start w)
 have HE := Lib.hid he
 have LZ := Lib.hid (zr_length 16)
 obtain ⟨a, ha⟩ : ∃ a, v.tmod 60 = a := ⟨_, rfl⟩
 have a1 : -60 < a ∧ a < 60 := by
  rw [← ha]
  have := Int.tmod_lt_of_pos v (b := 60) (by omega)
  have := Int.lt_tmod_of_pos v (b := 60) (by omega)
  omega
 have w1' : IntKind.i64.wrap a = a := i64_w (by omega) (by omega)
 have w2' : IntKind.i64.wrap (a + 60) = a + 60 := i64_w (by omega) (by omega)
 obtain ⟨M, hM⟩ : ∃ M : Nat, (a + 60).tmod 60 = (M : Int) := ⟨((a + 60).tmod 60).toNat, by rw [Int.tmod_eq_emod_of_nonneg (by omega)]; omega⟩
 have m1 : M < 60 := by rw [Int.tmod_eq_emod_of_nonneg (by omega)] at hM; omega
 have w3' : IntKind.i64.wrap (M : Int) = (M : Int) := i64_w (by omega) (by omega)
 clear he
 go_enter Tryz.func8, Tryz.ntmps8
 go_wp2_with (first | (refine tQl ?_) | (refine tQs ?_; clear HM; intro us HM; dsimp only [List.set] at HM) | (refine tQt ?_; clear HM HTW; intro us HM HTW; dsimp only [List.set] at HM HTW) | (refine tQb ?_) | (refine tQn ?_; first | (have q:dV HM = 0:=rfl;clear q HM;intro g1 u1 HG1 HM) | (have q:dV HM = 1:=rfl;clear q HM;intro g2 u2 HG2 HM) | (have q:dV HM = 2:=rfl;clear q HM;intro g3 u3 HG3 HM) | (have q:dV HM = 3:=rfl;clear q HM;intro g4 u4 HG4 HM) | (have q:dV HM = 4:=rfl;clear q HM;intro g5 u5 HG5 HM) | (have q:dV HM = 5:=rfl;clear q HM;intro g6 u6 HG6 HM) | (have q:dV HM = 6:=rfl;clear q HM;intro g7 u7 HG7 HM) | (have q:dV HM = 7:=rfl;clear q HM;intro g8 u8 HG8 HM) | (have q:dV HM = 8:=rfl;clear q HM;intro g9 u9 HG9 HM) | (have q:dV HM = 9:=rfl;clear q HM;intro g10 u10 HG10 HM)) | (first | (refine aQl ?_) | (refine aQs ?_; clear HM; intro us HM; dsimp only [List.set] at HM) | (refine aQt ?_; clear HM HSW; intro us HM HSW; dsimp only [List.set] at HM HSW) | (refine aQv ?_; clear HM; intro us HM; dsimp only [List.set] at HM) | (refine aQb ?_) | (refine aQn ?_; first | (have q:dV HM = 0:=rfl;clear q HM;intro g1 u1 HG1 HM) | (have q:dV HM = 1:=rfl;clear q HM;intro g2 u2 HG2 HM) | (have q:dV HM = 2:=rfl;clear q HM;intro g3 u3 HG3 HM) | (have q:dV HM = 3:=rfl;clear q HM;intro g4 u4 HG4 HM) | (have q:dV HM = 4:=rfl;clear q HM;intro g5 u5 HG5 HM) | (have q:dV HM = 5:=rfl;clear q HM;intro g6 u6 HG6 HM) | (have q:dV HM = 6:=rfl;clear q HM;intro g7 u7 HG7 HM) | (have q:dV HM = 7:=rfl;clear q HM;intro g8 u8 HG8 HM) | (have q:dV HM = 8:=rfl;clear q HM;intro g9 u9 HG9 HM) | (have q:dV HM = 9:=rfl;clear q HM;intro g10 u10 HG10 HM))))
 refine (elive_any _ (HE.out.below HM.out.1)).mono ?_
 rintro e w2 ⟨rfl, hb⟩
 replace HM := Lib.hid (HM.out.below hb)
 clear hb
 go_wp2_with (first | (refine tQl ?_) | (refine tQs ?_; clear HM; intro us HM; dsimp only [List.set] at HM) | (refine tQt ?_; clear HM HTW; intro us HM HTW; dsimp only [List.set] at HM HTW) | (refine tQb ?_) | (refine tQn ?_; first | (have q:dV HM = 0:=rfl;clear q HM;intro g1 u1 HG1 HM) | (have q:dV HM = 1:=rfl;clear q HM;intro g2 u2 HG2 HM) | (have q:dV HM = 2:=rfl;clear q HM;intro g3 u3 HG3 HM) | (have q:dV HM = 3:=rfl;clear q HM;intro g4 u4 HG4 HM) | (have q:dV HM = 4:=rfl;clear q HM;intro g5 u5 HG5 HM) | (have q:dV HM = 5:=rfl;clear q HM;intro g6 u6 HG6 HM) | (have q:dV HM = 6:=rfl;clear q HM;intro g7 u7 HG7 HM) | (have q:dV HM = 7:=rfl;clear q HM;intro g8 u8 HG8 HM) | (have q:dV HM = 8:=rfl;clear q HM;intro g9 u9 HG9 HM) | (have q:dV HM = 9:=rfl;clear q HM;intro g10 u10 HG10 HM)) | (first | (refine aQl ?_) | (refine aQs ?_; clear HM; intro us HM; dsimp only [List.set] at HM) | (refine aQt ?_; clear HM HSW; intro us HM HSW; dsimp only [List.set] at HM HSW) | (refine aQv ?_; clear HM; intro us HM; dsimp only [List.set] at HM) | (refine aQb ?_) | (refine aQn ?_; first | (have q:dV HM = 0:=rfl;clear q HM;intro g1 u1 HG1 HM) | (have q:dV HM = 1:=rfl;clear q HM;intro g2 u2 HG2 HM) | (have q:dV HM = 2:=rfl;clear q HM;intro g3 u3 HG3 HM) | (have q:dV HM = 3:=rfl;clear q HM;intro g4 u4 HG4 HM) | (have q:dV HM = 4:=rfl;clear q HM;intro g5 u5 HG5 HM) | (have q:dV HM = 5:=rfl;clear q HM;intro g6 u6 HG6 HM) | (have q:dV HM = 6:=rfl;clear q HM;intro g7 u7 HG7 HM) | (have q:dV HM = 7:=rfl;clear q HM;intro g8 u8 HG8 HM) | (have q:dV HM = 8:=rfl;clear q HM;intro g9 u9 HG9 HM) | (have q:dV HM = 9:=rfl;clear q HM;intro g10 u10 HG10 HM))))
 refine (estart_any _).mono ?_
 rintro e w3 ⟨rfl, hb⟩
 replace HM := Lib.hid (HM.out.below hb)
 clear hb
 have HTW := Lib.hid tyW_one
 go_wp2_with (first | (refine tQl ?_) | (refine tQs ?_; clear HM; intro us HM; dsimp only [List.set] at HM) | (refine tQt ?_; clear HM HTW; intro us HM HTW; dsimp only [List.set] at HM HTW) | (refine tQb ?_) | (refine tQn ?_; first | (have q:dV HM = 0:=rfl;clear q HM;intro g1 u1 HG1 HM) | (have q:dV HM = 1:=rfl;clear q HM;intro g2 u2 HG2 HM) | (have q:dV HM = 2:=rfl;clear q HM;intro g3 u3 HG3 HM) | (have q:dV HM = 3:=rfl;clear q HM;intro g4 u4 HG4 HM) | (have q:dV HM = 4:=rfl;clear q HM;intro g5 u5 HG5 HM) | (have q:dV HM = 5:=rfl;clear q HM;intro g6 u6 HG6 HM) | (have q:dV HM = 6:=rfl;clear q HM;intro g7 u7 HG7 HM) | (have q:dV HM = 7:=rfl;clear q HM;intro g8 u8 HG8 HM) | (have q:dV HM = 8:=rfl;clear q HM;intro g9 u9 HG9 HM) | (have q:dV HM = 9:=rfl;clear q HM;intro g10 u10 HG10 HM)) | (first | (refine aQl ?_) | (refine aQs ?_; clear HM; intro us HM; dsimp only [List.set] at HM) | (refine aQt ?_; clear HM HSW; intro us HM HSW; dsimp only [List.set] at HM HSW) | (refine aQv ?_; clear HM; intro us HM; dsimp only [List.set] at HM) | (refine aQb ?_) | (refine aQn ?_; first | (have q:dV HM = 0:=rfl;clear q HM;intro g1 u1 HG1 HM) | (have q:dV HM = 1:=rfl;clear q HM;intro g2 u2 HG2 HM) | (have q:dV HM = 2:=rfl;clear q HM;intro g3 u3 HG3 HM) | (have q:dV HM = 3:=rfl;clear q HM;intro g4 u4 HG4 HM) | (have q:dV HM = 4:=rfl;clear q HM;intro g5 u5 HG5 HM) | (have q:dV HM = 5:=rfl;clear q HM;intro g6 u6 HG6 HM) | (have q:dV HM = 6:=rfl;clear q HM;intro g7 u7 HG7 HM) | (have q:dV HM = 7:=rfl;clear q HM;intro g8 u8 HG8 HM) | (have q:dV HM = 8:=rfl;clear q HM;intro g9 u9 HG9 HM) | (have q:dV HM = 9:=rfl;clear q HM;intro g10 u10 HG10 HM))))
 have HS0 := HM
 clear HM HTW ha hM a1 w1' w2' w3' HG1
 go_loopw [18] (fun vi wr => ∃ (k : Nat) (t : Ty), k ≤ M ∧ vi = .int .i64 (k : Int) ∧ Hid (SilT k t) ∧ Hid (MV w w [(g1, 52, tyC t)] wr)) (fun vi _ => M - (intOf vi).toNat)
 case atStart => exact ⟨0, Ty.one, by omega, rfl, Lib.hid silT_one, HS0⟩
 case round =>
  clear HS0
  obtain ⟨k, t, hk, rfl, HT, HM⟩ := hrel
  have HTW := Lib.hid HT.out.n.w
  by_cases hlt : k < M
  ·have k6 : (k : Int) < (M : Int) := by omega
   have HST := Lib.hid (fun u h => estep_any t (zr 16) u (Lib.hid HT.out.n.w) (HT.out.n.ok (by omega)) (zr_length 16) okP_zr h)
   have HNX := Lib.hid (HT.out.next (by omega))
   have HLN := Lib.hid HT.out.len
   unfold EsQ at HST
   generalize nexT t (zr 16) = T at HST HNX
   generalize byT t (zr 16) = bs at HST HLN
   have HTW2 := Lib.hid HNX.out.n.w
   have e1 : (k : Int).tmod 8 = (k : Int) % 8 := Int.tmod_eq_emod_of_nonneg (by omega)
   have w4' : IntKind.i64.wrap ((k : Int) % 8) = (k : Int) % 8 := i64_w (by omega) (by omega)
   have w5' : IntKind.i64.wrap ((k : Int) + 1) = (k : Int) + 1 := i64_w (by omega) (by omega)
   have HQ := Lib.hid HNX.out.q
   have HS := Lib.hid HNX.out.s
   go_wp2_with (first | (refine tQl ?_) | (refine tQs ?_; clear HM; intro us HM; dsimp only [List.set] at HM) | (refine tQt ?_; clear HM HTW; intro us HM HTW; dsimp only [List.set] at HM HTW) | (refine tQb ?_) | (refine tQn ?_; first | (have q:dV HM = 0:=rfl;clear q HM;intro g1 u1 HG1 HM) | (have q:dV HM = 1:=rfl;clear q HM;intro g2 u2 HG2 HM) | (have q:dV HM = 2:=rfl;clear q HM;intro g3 u3 HG3 HM) | (have q:dV HM = 3:=rfl;clear q HM;intro g4 u4 HG4 HM) | (have q:dV HM = 4:=rfl;clear q HM;intro g5 u5 HG5 HM) | (have q:dV HM = 5:=rfl;clear q HM;intro g6 u6 HG6 HM) | (have q:dV HM = 6:=rfl;clear q HM;intro g7 u7 HG7 HM) | (have q:dV HM = 7:=rfl;clear q HM;intro g8 u8 HG8 HM) | (have q:dV HM = 8:=rfl;clear q HM;intro g9 u9 HG9 HM) | (have q:dV HM = 9:=rfl;clear q HM;intro g10 u10 HG10 HM)) | (first | (refine aQl ?_) | (refine aQs ?_; clear HM; intro us HM; dsimp only [List.set] at HM) | (refine aQt ?_; clear HM HSW; intro us HM HSW; dsimp only [List.set] at HM HSW) | (refine aQv ?_; clear HM; intro us HM; dsimp only [List.set] at HM) | (refine aQb ?_) | (refine aQn ?_; first | (have q:dV HM = 0:=rfl;clear q HM;intro g1 u1 HG1 HM) | (have q:dV HM = 1:=rfl;clear q HM;intro g2 u2 HG2 HM) | (have q:dV HM = 2:=rfl;clear q HM;intro g3 u3 HG3 HM) | (have q:dV HM = 3:=rfl;clear q HM;intro g4 u4 HG4 HM) | (have q:dV HM = 4:=rfl;clear q HM;intro g5 u5 HG5 HM) | (have q:dV HM = 5:=rfl;clear q HM;intro g6 u6 HG6 HM) | (have q:dV HM = 6:=rfl;clear q HM;intro g7 u7 HG7 HM) | (have q:dV HM = 7:=rfl;clear q HM;intro g8 u8 HG8 HM) | (have q:dV HM = 8:=rfl;clear q HM;intro g9 u9 HG9 HM) | (have q:dV HM = 9:=rfl;clear q HM;intro g10 u10 HG10 HM))))
   refine (HST.out _ (HE.out.below HM.out.1)).mono ?_
   rintro e w5 ⟨A2, n2, c2, rfl, hn, hr, hb⟩
   have hl : n2 = 0 ↔ ¬ (k : Int) % 8 = 0 := by rw [← HLN.out, hr.1]
   have dl : decide (0 < n2) = ((k : Int) % 8 == 0) := by
    by_cases h : (k : Int) % 8 = 0
    ·have : n2 ≠ 0 := fun e => hl.1 e h
     rw [decide_eq_true (by omega), h]
     rfl
    ·rw [decide_eq_false (by have := hl.2 h; omega), beq_eq_false_iff_ne.2 h]
   have dq : (T.quiet != (k : Int) + 1) = false := by rw [HQ.out]; simp
   have ds : (T.sent != 0) = false := by rw [HS.out]; rfl
   replace HM := Lib.hid (HM.out.below hb)
   clear hb hr hn HST hl HLN
   go_wp2_with (first | (refine q9g ?_; refine q8w (by rfl) ?_) | (first | (refine tQl ?_) | (refine tQs ?_; clear HM; intro us HM; dsimp only [List.set] at HM) | (refine tQt ?_; clear HM HTW; intro us HM HTW; dsimp only [List.set] at HM HTW) | (refine tQb ?_) | (refine tQn ?_; first | (have q:dV HM = 0:=rfl;clear q HM;intro g1 u1 HG1 HM) | (have q:dV HM = 1:=rfl;clear q HM;intro g2 u2 HG2 HM) | (have q:dV HM = 2:=rfl;clear q HM;intro g3 u3 HG3 HM) | (have q:dV HM = 3:=rfl;clear q HM;intro g4 u4 HG4 HM) | (have q:dV HM = 4:=rfl;clear q HM;intro g5 u5 HG5 HM) | (have q:dV HM = 5:=rfl;clear q HM;intro g6 u6 HG6 HM) | (have q:dV HM = 6:=rfl;clear q HM;intro g7 u7 HG7 HM) | (have q:dV HM = 7:=rfl;clear q HM;intro g8 u8 HG8 HM) | (have q:dV HM = 8:=rfl;clear q HM;intro g9 u9 HG9 HM) | (have q:dV HM = 9:=rfl;clear q HM;intro g10 u10 HG10 HM)) | (first | (refine aQl ?_) | (refine aQs ?_; clear HM; intro us HM; dsimp only [List.set] at HM) | (refine aQt ?_; clear HM HSW; intro us HM HSW; dsimp only [List.set] at HM HSW) | (refine aQv ?_; clear HM; intro us HM; dsimp only [List.set] at HM) | (refine aQb ?_) | (refine aQn ?_; first | (have q:dV HM = 0:=rfl;clear q HM;intro g1 u1 HG1 HM) | (have q:dV HM = 1:=rfl;clear q HM;intro g2 u2 HG2 HM) | (have q:dV HM = 2:=rfl;clear q HM;intro g3 u3 HG3 HM) | (have q:dV HM = 3:=rfl;clear q HM;intro g4 u4 HG4 HM) | (have q:dV HM = 4:=rfl;clear q HM;intro g5 u5 HG5 HM) | (have q:dV HM = 5:=rfl;clear q HM;intro g6 u6 HG6 HM) | (have q:dV HM = 6:=rfl;clear q HM;intro g7 u7 HG7 HM) | (have q:dV HM = 7:=rfl;clear q HM;intro g8 u8 HG8 HM) | (have q:dV HM = 8:=rfl;clear q HM;intro g9 u9 HG9 HM) | (have q:dV HM = 9:=rfl;clear q HM;intro g10 u10 HG10 HM)))))
   go_roundw
   case rel => exact ⟨k + 1, T, by omega, by go_num, HNX, (by have HP := HM.out; (repeat (replace HP := HP.popH (by with_reducible assumption))); exact HP)⟩
   case measure => simp [intOf]; omega
  ·obtain rfl : k = M := by omega
   have HCK := Lib.hid (fun u => tcheck_any t u (Lib.hid HT.out.n.w) (HT.out.n.ok (by omega)))
   go_wp2_with (first | (refine tQl ?_) | (refine tQs ?_; clear HM; intro us HM; dsimp only [List.set] at HM) | (refine tQt ?_; clear HM HTW; intro us HM HTW; dsimp only [List.set] at HM HTW) | (refine tQb ?_) | (refine tQn ?_; first | (have q:dV HM = 0:=rfl;clear q HM;intro g1 u1 HG1 HM) | (have q:dV HM = 1:=rfl;clear q HM;intro g2 u2 HG2 HM) | (have q:dV HM = 2:=rfl;clear q HM;intro g3 u3 HG3 HM) | (have q:dV HM = 3:=rfl;clear q HM;intro g4 u4 HG4 HM) | (have q:dV HM = 4:=rfl;clear q HM;intro g5 u5 HG5 HM) | (have q:dV HM = 5:=rfl;clear q HM;intro g6 u6 HG6 HM) | (have q:dV HM = 6:=rfl;clear q HM;intro g7 u7 HG7 HM) | (have q:dV HM = 7:=rfl;clear q HM;intro g8 u8 HG8 HM) | (have q:dV HM = 8:=rfl;clear q HM;intro g9 u9 HG9 HM) | (have q:dV HM = 9:=rfl;clear q HM;intro g10 u10 HG10 HM)) | (first | (refine aQl ?_) | (refine aQs ?_; clear HM; intro us HM; dsimp only [List.set] at HM) | (refine aQt ?_; clear HM HSW; intro us HM HSW; dsimp only [List.set] at HM HSW) | (refine aQv ?_; clear HM; intro us HM; dsimp only [List.set] at HM) | (refine aQb ?_) | (refine aQn ?_; first | (have q:dV HM = 0:=rfl;clear q HM;intro g1 u1 HG1 HM) | (have q:dV HM = 1:=rfl;clear q HM;intro g2 u2 HG2 HM) | (have q:dV HM = 2:=rfl;clear q HM;intro g3 u3 HG3 HM) | (have q:dV HM = 3:=rfl;clear q HM;intro g4 u4 HG4 HM) | (have q:dV HM = 4:=rfl;clear q HM;intro g5 u5 HG5 HM) | (have q:dV HM = 5:=rfl;clear q HM;intro g6 u6 HG6 HM) | (have q:dV HM = 6:=rfl;clear q HM;intro g7 u7 HG7 HM) | (have q:dV HM = 7:=rfl;clear q HM;intro g8 u8 HG8 HM) | (have q:dV HM = 8:=rfl;clear q HM;intro g9 u9 HG9 HM) | (have q:dV HM = 9:=rfl;clear q HM;intro g10 u10 HG10 HM))))
   refine (HCK.out _).mono ?_
   rintro e w5 ⟨rfl, hb⟩
   replace HM := Lib.hid (HM.out.below hb)
   clear hb HCK
   go_wp2_with (first | (refine tQl ?_) | (refine tQs ?_; clear HM; intro us HM; dsimp only [List.set] at HM) | (refine tQt ?_; clear HM HTW; intro us HM HTW; dsimp only [List.set] at HM HTW) | (refine tQb ?_) | (refine tQn ?_; first | (have q:dV HM = 0:=rfl;clear q HM;intro g1 u1 HG1 HM) | (have q:dV HM = 1:=rfl;clear q HM;intro g2 u2 HG2 HM) | (have q:dV HM = 2:=rfl;clear q HM;intro g3 u3 HG3 HM) | (have q:dV HM = 3:=rfl;clear q HM;intro g4 u4 HG4 HM) | (have q:dV HM = 4:=rfl;clear q HM;intro g5 u5 HG5 HM) | (have q:dV HM = 5:=rfl;clear q HM;intro g6 u6 HG6 HM) | (have q:dV HM = 6:=rfl;clear q HM;intro g7 u7 HG7 HM) | (have q:dV HM = 7:=rfl;clear q HM;intro g8 u8 HG8 HM) | (have q:dV HM = 8:=rfl;clear q HM;intro g9 u9 HG9 HM) | (have q:dV HM = 9:=rfl;clear q HM;intro g10 u10 HG10 HM)) | (first | (refine aQl ?_) | (refine aQs ?_; clear HM; intro us HM; dsimp only [List.set] at HM) | (refine aQt ?_; clear HM HSW; intro us HM HSW; dsimp only [List.set] at HM HSW) | (refine aQv ?_; clear HM; intro us HM; dsimp only [List.set] at HM) | (refine aQb ?_) | (refine aQn ?_; first | (have q:dV HM = 0:=rfl;clear q HM;intro g1 u1 HG1 HM) | (have q:dV HM = 1:=rfl;clear q HM;intro g2 u2 HG2 HM) | (have q:dV HM = 2:=rfl;clear q HM;intro g3 u3 HG3 HM) | (have q:dV HM = 3:=rfl;clear q HM;intro g4 u4 HG4 HM) | (have q:dV HM = 4:=rfl;clear q HM;intro g5 u5 HG5 HM) | (have q:dV HM = 5:=rfl;clear q HM;intro g6 u6 HG6 HM) | (have q:dV HM = 6:=rfl;clear q HM;intro g7 u7 HG7 HM) | (have q:dV HM = 7:=rfl;clear q HM;intro g8 u8 HG8 HM) | (have q:dV HM = 8:=rfl;clear q HM;intro g9 u9 HG9 HM) | (have q:dV HM = 9:=rfl;clear q HM;intro g10 u10 HG10 HM))))
   go_ret
   exact ⟨rfl, HM.out.1⟩
end Go.Proofs.YtkdbhndegkldcaaGreatDoor.Lp
namespace Go.Proofs.YtkdbhndegkldcaaGreatDoor
open Go.ChangeShapes Go.WideShapes Go.ChangeAt Go.RowKit Go.Joins Go.Deep
theorem laidOut : laidOutB Tryz.prog = true := by kernel_rfl
theorem own : ownKnob Tryz.prog.godebug = none := by kernel_rfl
section
variable {H : Type} {enc : TypeId × Value → H} {W : World} {base : Nat} {spare : Nat → Bool} {held : Bool}
end
end Go.Proofs.YtkdbhndegkldcaaGreatDoor
namespace Go.Proofs.YtkdbhndegkldcaaGreatDoor.Lp
open Go.RowKit Fx Fq Tb
theorem aggBl (w : World) : (isAgg 4).run Tryz.prog w = .ok false w := by kernel_rfl
theorem aggUl (w : World) : (isAgg 30).run Tryz.prog w = .ok false w := by kernel_rfl
theorem part_cell {T : TypeId} (hg : ∀ w, (isAgg T).run Tryz.prog w = .ok false w) {xs : Array Value} {o : Nat} {v : Value} {w : World} (h : xs[o]? = some v) : (part T xs o).run Tryz.prog w = .ok v w := by
 simp only [part, Sem.run_bind, hg, Result.andThen_ok, Bool.false_eq_true, if_false, h, Sem.run_pure]
theorem extract_at {xs : Array Value} {o n : Nat} {ds : List Value} (hl : ds.length = n) (h : ∀ j v, ds[j]? = some v → xs[o + j]? = some v) : xs.extract o (o + n) = ds.toArray := by
 have hfit : o + n ≤ xs.size ∨ n = 0 := by
  rcases Nat.eq_zero_or_pos n with hn | hn
  ·exact .inr hn
  ·have h1 : ds[n - 1]? = some ds[n - 1] := List.getElem?_eq_getElem (by omega)
   have := (Array.getElem?_eq_some_iff.1 (h _ _ h1)).1
   exact .inl (by omega)
 refine Array.ext_getElem? fun j => ?_
 have hd : ds.toArray[j]? = ds[j]? := by simp
 rw [Array.getElem?_extract, hd]
 have hm := Nat.min_le_left (o + n) xs.size
 by_cases hj : j < n
 ·have h1 : ds[j]? = some ds[j] := List.getElem?_eq_getElem (by omega)
  rcases hfit with hf | hf
  ·have hq : j < min (o + n) xs.size - o := by rw [Nat.min_eq_left hf]; omega
   rw [if_pos hq, h _ _ h1, h1]
  ·omega
 ·rw [List.getElem?_eq_none (by omega)]
  split
  ·rename_i h2; omega
  ·rfl
theorem part_mid {T : TypeId} {n : Nat} (hT : Arr T n) {xs : Array Value} {ys : List Int} {o : Nat} {w : World} (hl : ys.length = n) (h : ∀ j v, (icl ys)[j]? = some v → xs[o + j]? = some v) : (part T xs o).run Tryz.prog w = .ok (.agg (icells ys)) w := by
 obtain ⟨d, h1, h2⟩ := hT.1
 have ha : (isAgg T).run Tryz.prog w = .ok true w := by
  simp only [isAgg, Sem.run_bind, run_underlying h1, Result.andThen_ok]
  cases d <;> first | rfl | cases h2
 have hs : (sizeOf T).run Tryz.prog w = .ok n w := by
  have hz := hT.size
  cases hq : Tryz.prog.info? T with
  | none => rw [hq] at hz; cases hz
  | some i =>
   rw [hq] at hz
   injection hz with hz
   rw [run_sizeOf w hq]
   unfold Program.cellsOf
   rw [hq]
   simp [hz]
 have he : xs.extract o (o + n) = icells ys := extract_at (ds := icl ys) ((icl_length ys).trans hl) h
 simp only [part, Sem.run_bind, ha, Result.andThen_ok, if_true, hs, Sem.run_pure, he]
theorem flds_syn : (Tryz.prog.fieldsOf 32).toList.map (fun f => (f.name, f.type, f.offset)) = [("T", 27, 0), ("L", 29, 16), ("Live", 4, 22), ("Hush", 4, 23), ("Seed", 30, 24)] := by kernel_rfl
theorem und_syn : Tryz.prog.underlying 32 = some (.struct (Tryz.prog.fieldsOf 32)) := by kernel_rfl
theorem held_syn : Tryz.prog.stoodInHeld 32 = false := by kernel_rfl
theorem grdSyn : Tryz.prog.eqGuardType Tryz.prog.depth 32 = false := by kernel_rfl
theorem run_eq_sy {s t : Sy} (hs : SyW s) (ht : SyW t) (w : World) :
  (Op.equalIn 10000 32 (.agg (syC s)) (.agg (syC t))).run Tryz.prog w = .ok (decide (s.t = t.t) && (decide (s.l = t.l) && (decide (s.live = t.live) && (decide (s.hush = t.hush) && decide (s.seed = t.seed))))) w := by
 have hU : Tryz.prog.underlying 30 = some (.int .u32) := by kernel_rfl
 have hB : Tryz.prog.underlying 4 = some .bool := by kernel_rfl
 have h5 := run_equalIn_int (P := Tryz.prog) w 9998 30 .u32 .u32 s.seed t.seed hU
 rw [show (s.seed == t.seed) = decide (s.seed = t.seed) from rfl] at h5
 have hbb : ∀ a b : Bool, (Op.equalIn 9999 4 (.bool a) (.bool b)).run Tryz.prog w = .ok (decide (a = b)) w := fun a b => by cases a <;> cases b <;> kernel_rfl
 rw [run_equalIn_struct w 9999 32 (syC s) (syC t) und_syn held_syn]
 exact eq_five flds_syn (part_mid arrTail hs.lt (syC_t s)) (part_mid arrTail ht.lt (syC_t t)) (run_eqL 9997 27 (n := 16) (by kernel_rfl) s.t t.t hs.lt ht.lt w)
  (part_mid arrLev hs.ll (syC_l hs)) (part_mid arrLev ht.ll (syC_l ht)) (run_eqL 9997 29 (n := 6) (by kernel_rfl) s.l t.l hs.ll ht.ll w)
  (part_cell aggBl (syC_e hs (k := 0) rfl)) (part_cell aggBl (syC_e ht (k := 0) rfl)) (hbb _ _)
  (part_cell aggBl (syC_e hs (k := 1) rfl)) (part_cell aggBl (syC_e ht (k := 1) rfl)) (hbb _ _)
  (part_cell aggUl (syC_e hs (k := 2) rfl)) (part_cell aggUl (syC_e ht (k := 2) rfl)) h5
theorem run_same_sy {s : Sy} (hs : SyW s) (w : World) : (Op.equalIn 10000 32 (.agg (syC s)) (.agg (syC s))).run Tryz.prog w = .ok true w := by
 have h := run_eq_sy hs hs w
 simp only [decide_true, Bool.and_self] at h
 exact h
theorem ex_ne {o : Oper} {a : Act} {u : World} (T t2 : TypeId) (x y : Operand) (ho : o.op = .binOp .neq T x y t2) {c1 c2 : Array Value} (hx : a.eval x = .agg c1) (hy : a.eval y = .agg c2) (hg : Tryz.prog.eqGuardType Tryz.prog.depth T = false) {b : Bool} (he : (Op.equalIn 10000 T (.agg c1) (.agg c2)).run Tryz.prog u = .ok b u) :
  (execOp a.eval o).run Tryz.prog u = .ok (.value (.bool (!b))) u := by
 unfold execOp
 simp only [ho, hx, hy]
 simp [go_sem, eqGuard, binOp, Op.equal, Op.maxDepth, hg, he]
theorem ex_eq {o : Oper} {a : Act} {u : World} (T t2 : TypeId) (x y : Operand) (ho : o.op = .binOp .eql T x y t2) {c1 c2 : Array Value} (hx : a.eval x = .agg c1) (hy : a.eval y = .agg c2) (hg : Tryz.prog.eqGuardType Tryz.prog.depth T = false) {b : Bool} (he : (Op.equalIn 10000 T (.agg c1) (.agg c2)).run Tryz.prog u = .ok b u) :
  (execOp a.eval o).run Tryz.prog u = .ok (.value (.bool b)) u := by
 unfold execOp
 simp only [ho, hx, hy]
 simp [go_sem, eqGuard, binOp, Op.equal, Op.maxDepth, hg, he]
theorem wl_val {ops : Array Oper} {rest : List Oper} {o : Oper} {a : Act} {w : World} {Q : Exit → Act → World → Prop} (hgd : Region.wanted o (yielded ops a.tmps) = true) {v : Value} (hv : (execOp a.eval o).run Tryz.prog w = .ok (.value v) w) (h : wpList Tryz.prog ops Q rest (a.put o.dst v) w) : wpList Tryz.prog ops Q (o :: rest) a w :=
 wl_step hgd fun K hK => by
  have := hK _ _ h
  unfold Oper.wp
  simp only [hv]
  exact this
def All16 (fs : List (List Int)) : Prop := ∀ f ∈ fs, f.length = 16
def RdA (w : World) (A : Option Addr) (n : Nat) (fs : List (List Int)) : Prop :=
 fs.length = n ∧ All16 fs ∧ (0 < n → ∃ ad, A = some ad ∧ ∀ i f, fs[i]? = some f → ∀ j v, (ic f)[j]? = some v → w.cell? ((ad.add (i * 16)).add j) = some v)
section
variable {w w' w0 : World} {A : Option Addr} {n : Nat} {fs : List (List Int)} {L : List (Nat × TypeId × List Int)}
theorem RdA.keep (h : RdA w A n fs) (hk : ∀ p : Addr, p.block < w.heap.size → w'.cell? p = w.cell? p) : RdA w' A n fs :=
 ⟨h.1, h.2.1, fun hn => by
  obtain ⟨ad, e, hc⟩ := h.2.2 hn
  refine ⟨ad, e, fun i f hf j v hv => ?_⟩
  have hcell := hc i f hf j v hv
  exact (hk _ (World.block_lt_of_cell? _ _ hcell)).trans hcell⟩
theorem RdA.below (h : RdA w A n fs) (hb : Below w.heap.size w w') : RdA w' A n fs := h.keep fun _ hp => hb.cell hp
theorem RdA.drew (h : RdA w A n fs) : RdA w.drew A n fs := h
theorem RdA.at_ {k : Nat} (h : RdA w A n fs) (hk : k < n) : ∃ ad f, A = some ad ∧ fs[k]? = some f ∧ f.length = 16 ∧ ∀ j v, (ic f)[j]? = some v → w.cell? ((ad.add (k * 16)).add j) = some v := by
 obtain ⟨ad, e, hc⟩ := h.2.2 (by omega)
 have hl : k < fs.length := by have := h.1; omega
 have hg : fs[k]? = some fs[k] := List.getElem?_eq_getElem hl
 exact ⟨ad, fs[k], e, hg, h.2.1 _ (List.getElem_mem hl), hc k _ hg⟩
end
section
variable {ops : Array Oper} {rest : List Oper} {o : Oper} {a : Act} {w w0 : World} {Q : Exit → Act → World → Prop} {L : List (Nat × TypeId × List Int)}
theorem run_load_any {n : Nat} {T : TypeId} {xs : List Int} (ha : Arr T n) (ad : Addr) (hl : xs.length = n) (hc : ∀ j v, (ic xs)[j]? = some v → w.cell? (ad.add j) = some v) : (loadVar T ad).run Tryz.prog w = .ok (.agg (icells xs)) w := by
 obtain ⟨d, h1, h2⟩ := ha.1
 have hld : (loadCells ad (ic xs).length).run Tryz.prog w = .ok (ic xs).toArray w := run_loadCells_list (P := Tryz.prog) w ad (ic xs) hc
 rw [ic_length, hl] at hld
 have hsz := ha.size
 cases hq : Tryz.prog.info? T with
 | none => simp [hq] at hsz
 | some i =>
  have hs : i.size = n := by simpa [hq] using hsz
  have hagg : (isAgg T).run Tryz.prog w = .ok true w := by
   unfold isAgg
   rw [Sem.run_bind, run_underlying h1 w]
   cases d <;> first | rfl | cases h2
  simp only [loadVar, Sem.run_bind, hagg, Result.andThen_ok, if_true, sizeOf, typeInfo, run_program, hq, Sem.run_pure, hs, hld]
  rfl
end
open Yr (Fr chkB chkB_iff nearB nearN wrB wrB_len kindR inB kind_back rd_back)
theorem MV.down {w0 w1 w : World} {L L' : List Ent} (h : MV w0 w1 L w) (hs : L'.Sublist L) : MV w0 w0 L' w :=
 ⟨h.1, fun e he => h.2.1 e (hs.mem he), fun e he => h.2.2.1 e (hs.mem he), h.2.2.2.1.sublist hs, h.1.size, fun b hb _ => h.1.block b hb⟩
def goodB (fs : List (List Int)) : Bool := fs.all okP && decide (fs.length ≤ 40)
theorem goodB_iff {fs : List (List Int)} (h : goodB fs = true) : fs.length ≤ 40 ∧ ∀ (k : Nat) p, fs[k]? = some p → okP p = true := by
 unfold goodB at h
 rw [Bool.and_eq_true, List.all_eq_true] at h
 exact ⟨of_decide_eq_true h.2, fun k p hp => h.1 p (List.mem_of_getElem? hp)⟩
theorem goodB_no {fs : List (List Int)} {k : Nat} {p : List Int} (hp : fs[k]? = some p) (h : okP p = false) : goodB fs = false := by
 unfold goodB
 rw [Bool.and_eq_false_iff]
 refine .inl ?_
 rw [Bool.eq_false_iff]
 intro ha
 rw [List.all_eq_true] at ha
 have := ha p (List.mem_of_getElem? hp)
 rw [h] at this
 cases this
theorem goodB_all {fs : List (List Int)} (h : ∀ (k : Nat) p, k < fs.length → fs[k]? = some p → okP p = true) : goodB fs = decide (fs.length ≤ 40) := by
 unfold goodB
 rw [show fs.all okP = true by
  rw [List.all_eq_true]
  intro x hx
  obtain ⟨j, hj⟩ := List.mem_iff_getElem?.1 hx
  exact h j x (List.getElem?_eq_some_iff.1 hj).1 hj, Bool.true_and]
theorem egood_any (A : Option Addr) (n c : Nat) (fs : List (List Int)) (b : Bool) (w : World) (h : Hid (RdA w A n fs)) (hn : n ≤ maxLen) (hb : goodB fs = b) :
  Calls Tryz.prog 20 #[.slice A n c] w (ValQ w (.bool b)) := by
 have HB := Lib.hid hb
 have HM := Lib.hid (MV.start w)
 have h1 : n ≤ 9223372036854775807 := by unfold maxLen at hn; omega
 have LZ := Lib.hid (zr_length 16)
 clear hb hn
 go_enter Tryz.func20, Tryz.ntmps20
 go_wp2_with fail
 go_loopw [7] (fun vi wr => ∃ k : Nat, vi = .int .i64 (k : Int) ∧ k ≤ n ∧ Hid (∀ (j : Nat) p, j < k → fs[j]? = some p → okP p = true) ∧ Hid (MV w w [] wr)) (fun vi _ => n - (intOf vi).toNat)
 case atStart => exact ⟨0, rfl, by omega, Lib.hid (fun j p hj => by omega), HM⟩
 case round =>
  clear HM
  obtain ⟨k, rfl, hk, HK, HM⟩ := hrel
  by_cases hlt : k < n
  ·have kn : (k : Int) < (n : Int) := by omega
   obtain ⟨ad, p, rfl, hp, lp, hc⟩ := (h.out.below HM.out.1).at_ hlt
   have LP := Lib.hid lp
   have HLD := Lib.hid (run_load_any arrPcm (ad.add (k * 16)) lp hc)
   have HP := Lib.hid hp
   cases hok : okP p with
   | true =>
    have HCK := Lib.hid (fun u => Lp.rcheck_any p true 0 u lp hok rfl)
    have HO := Lib.hid hok
    clear hp lp hc hok
    go_wp2_with (first | (refine wv_loadE rfl _ _ rfl rfl HLD ?_) | (first | (refine aQl ?_) | (refine aQs ?_; clear HM; intro us HM; dsimp only [List.set] at HM) | (refine aQt ?_; clear HM HSW; intro us HM HSW; dsimp only [List.set] at HM HSW) | (refine aQv ?_; clear HM; intro us HM; dsimp only [List.set] at HM) | (refine aQb ?_) | (refine aQn ?_; first | (have q:dV HM = 0:=rfl;clear q HM;intro g1 u1 HG1 HM) | (have q:dV HM = 1:=rfl;clear q HM;intro g2 u2 HG2 HM) | (have q:dV HM = 2:=rfl;clear q HM;intro g3 u3 HG3 HM) | (have q:dV HM = 3:=rfl;clear q HM;intro g4 u4 HG4 HM) | (have q:dV HM = 4:=rfl;clear q HM;intro g5 u5 HG5 HM) | (have q:dV HM = 5:=rfl;clear q HM;intro g6 u6 HG6 HM) | (have q:dV HM = 6:=rfl;clear q HM;intro g7 u7 HG7 HM) | (have q:dV HM = 7:=rfl;clear q HM;intro g8 u8 HG8 HM) | (have q:dV HM = 8:=rfl;clear q HM;intro g9 u9 HG9 HM) | (have q:dV HM = 9:=rfl;clear q HM;intro g10 u10 HG10 HM))))
    refine (HCK.out _).mono ?_
    rintro e w2 ⟨rfl, hb⟩
    replace HM := Lib.hid (HM.out.below hb)
    clear hb HCK HLD
    go_wp2_with (first | (refine aQl ?_) | (refine aQs ?_; clear HM; intro us HM; dsimp only [List.set] at HM) | (refine aQt ?_; clear HM HSW; intro us HM HSW; dsimp only [List.set] at HM HSW) | (refine aQv ?_; clear HM; intro us HM; dsimp only [List.set] at HM) | (refine aQb ?_) | (refine aQn ?_; first | (have q:dV HM = 0:=rfl;clear q HM;intro g1 u1 HG1 HM) | (have q:dV HM = 1:=rfl;clear q HM;intro g2 u2 HG2 HM) | (have q:dV HM = 2:=rfl;clear q HM;intro g3 u3 HG3 HM) | (have q:dV HM = 3:=rfl;clear q HM;intro g4 u4 HG4 HM) | (have q:dV HM = 4:=rfl;clear q HM;intro g5 u5 HG5 HM) | (have q:dV HM = 5:=rfl;clear q HM;intro g6 u6 HG6 HM) | (have q:dV HM = 6:=rfl;clear q HM;intro g7 u7 HG7 HM) | (have q:dV HM = 7:=rfl;clear q HM;intro g8 u8 HG8 HM) | (have q:dV HM = 8:=rfl;clear q HM;intro g9 u9 HG9 HM) | (have q:dV HM = 9:=rfl;clear q HM;intro g10 u10 HG10 HM)))
    go_roundw
    case rel => exact ⟨k + 1, by go_num, by omega, Lib.hid (fun j q hj hq => by
     by_cases hjk : j < k
     ·exact HK.out j q hjk hq
     ·obtain rfl : j = k := by omega
      rw [HP.out] at hq
      injection hq with hq
      subst hq
      exact HO.out), Lib.hid (HM.out.down (by exact q7v))⟩
    case measure => simp [intOf]; omega
   | false =>
    have HCK := Lib.hid (fun u => Lp.rcheck_any p false 1 u lp hok rfl)
    obtain rfl : b = false := by rw [← HB.out]; exact goodB_no hp hok
    clear hp lp hc hok
    go_wp2_with (first | (refine wv_loadE rfl _ _ rfl rfl HLD ?_) | (first | (refine aQl ?_) | (refine aQs ?_; clear HM; intro us HM; dsimp only [List.set] at HM) | (refine aQt ?_; clear HM HSW; intro us HM HSW; dsimp only [List.set] at HM HSW) | (refine aQv ?_; clear HM; intro us HM; dsimp only [List.set] at HM) | (refine aQb ?_) | (refine aQn ?_; first | (have q:dV HM = 0:=rfl;clear q HM;intro g1 u1 HG1 HM) | (have q:dV HM = 1:=rfl;clear q HM;intro g2 u2 HG2 HM) | (have q:dV HM = 2:=rfl;clear q HM;intro g3 u3 HG3 HM) | (have q:dV HM = 3:=rfl;clear q HM;intro g4 u4 HG4 HM) | (have q:dV HM = 4:=rfl;clear q HM;intro g5 u5 HG5 HM) | (have q:dV HM = 5:=rfl;clear q HM;intro g6 u6 HG6 HM) | (have q:dV HM = 6:=rfl;clear q HM;intro g7 u7 HG7 HM) | (have q:dV HM = 7:=rfl;clear q HM;intro g8 u8 HG8 HM) | (have q:dV HM = 8:=rfl;clear q HM;intro g9 u9 HG9 HM) | (have q:dV HM = 9:=rfl;clear q HM;intro g10 u10 HG10 HM))))
    refine (HCK.out _).mono ?_
    rintro e w2 ⟨rfl, hb⟩
    replace HM := Lib.hid (HM.out.below hb)
    clear hb HCK HLD
    go_wp2_with (first | (refine aQl ?_) | (refine aQs ?_; clear HM; intro us HM; dsimp only [List.set] at HM) | (refine aQt ?_; clear HM HSW; intro us HM HSW; dsimp only [List.set] at HM HSW) | (refine aQv ?_; clear HM; intro us HM; dsimp only [List.set] at HM) | (refine aQb ?_) | (refine aQn ?_; first | (have q:dV HM = 0:=rfl;clear q HM;intro g1 u1 HG1 HM) | (have q:dV HM = 1:=rfl;clear q HM;intro g2 u2 HG2 HM) | (have q:dV HM = 2:=rfl;clear q HM;intro g3 u3 HG3 HM) | (have q:dV HM = 3:=rfl;clear q HM;intro g4 u4 HG4 HM) | (have q:dV HM = 4:=rfl;clear q HM;intro g5 u5 HG5 HM) | (have q:dV HM = 5:=rfl;clear q HM;intro g6 u6 HG6 HM) | (have q:dV HM = 6:=rfl;clear q HM;intro g7 u7 HG7 HM) | (have q:dV HM = 7:=rfl;clear q HM;intro g8 u8 HG8 HM) | (have q:dV HM = 8:=rfl;clear q HM;intro g9 u9 HG9 HM) | (have q:dV HM = 9:=rfl;clear q HM;intro g10 u10 HG10 HM)))
    go_ret
    exact ⟨rfl, HM.out.1⟩
  ·obtain rfl : k = n := by omega
   have hl : fs.length = k := h.out.1
   have e : b = decide (k ≤ 40) := by rw [← HB.out, ← hl]; exact goodB_all fun j p hj hp => HK.out j p (by omega) hp
   clear HK HB
   by_cases h4 : k ≤ 40
   ·obtain rfl : b = true := e.trans (decide_eq_true h4)
    have h5 : (k : Int) ≤ 40 := by omega
    clear e
    go_wp2_with fail
    go_ret
    exact ⟨rfl, HM.out.1⟩
   ·obtain rfl : b = false := e.trans (decide_eq_false h4)
    have h5 : ¬ (k : Int) ≤ 40 := by omega
    have h6 : decide ((k : Int) ≤ 40) = false := decide_eq_false h5
    clear e
    go_wp2_with fail
    go_ret
    exact ⟨by simp [h4, h5], HM.out.1⟩
theorem psame_any (s : Sy) (w : World) (hs : Hid (SyW s)) (hk : okSy s = true) : Calls Tryz.prog 24 #[.agg (syC s), .agg (syC s)] w (ValQ w (.bool true)) := by
 have HM := Lib.hid (MV.start w)
 have HSW := hs
 have HCK := Lib.hid (fun u => pcheck_any s 0 u hs (by rw [if_pos hk]))
 have HQ1 := Lib.hid (fun u => run_same_sy hs.out u)
 clear hs hk
 go_enter Tryz.func24, Tryz.ntmps24
 go_wp2_with (first | (first | (refine aQl ?_) | (refine aQs ?_; clear HM; intro us HM; dsimp only [List.set] at HM) | (refine aQt ?_; clear HM HSW; intro us HM HSW; dsimp only [List.set] at HM HSW) | (refine aQv ?_; clear HM; intro us HM; dsimp only [List.set] at HM) | (refine aQb ?_) | (refine aQn ?_; first | (have q:dV HM = 0:=rfl;clear q HM;intro g1 u1 HG1 HM) | (have q:dV HM = 1:=rfl;clear q HM;intro g2 u2 HG2 HM) | (have q:dV HM = 2:=rfl;clear q HM;intro g3 u3 HG3 HM) | (have q:dV HM = 3:=rfl;clear q HM;intro g4 u4 HG4 HM) | (have q:dV HM = 4:=rfl;clear q HM;intro g5 u5 HG5 HM) | (have q:dV HM = 5:=rfl;clear q HM;intro g6 u6 HG6 HM) | (have q:dV HM = 6:=rfl;clear q HM;intro g7 u7 HG7 HM) | (have q:dV HM = 7:=rfl;clear q HM;intro g8 u8 HG8 HM) | (have q:dV HM = 8:=rfl;clear q HM;intro g9 u9 HG9 HM) | (have q:dV HM = 9:=rfl;clear q HM;intro g10 u10 HG10 HM))) | (show wpList _ _ _ ({ dst := _, op := Op.binOp _ _ _ _ _, type := _, pos := _, after := _, guard := _ } :: _) _ _; (refine aCe ?_)))
 refine (HCK.out _).mono ?_
 rintro e w2 ⟨rfl, hb⟩
 replace HM := Lib.hid (HM.out.below hb)
 clear hb HCK
 go_wp2_with (first | (refine aQl ?_) | (refine aQs ?_; clear HM; intro us HM; dsimp only [List.set] at HM) | (refine aQt ?_; clear HM HSW; intro us HM HSW; dsimp only [List.set] at HM HSW) | (refine aQv ?_; clear HM; intro us HM; dsimp only [List.set] at HM) | (refine aQb ?_) | (refine aQn ?_; first | (have q:dV HM = 0:=rfl;clear q HM;intro g1 u1 HG1 HM) | (have q:dV HM = 1:=rfl;clear q HM;intro g2 u2 HG2 HM) | (have q:dV HM = 2:=rfl;clear q HM;intro g3 u3 HG3 HM) | (have q:dV HM = 3:=rfl;clear q HM;intro g4 u4 HG4 HM) | (have q:dV HM = 4:=rfl;clear q HM;intro g5 u5 HG5 HM) | (have q:dV HM = 5:=rfl;clear q HM;intro g6 u6 HG6 HM) | (have q:dV HM = 6:=rfl;clear q HM;intro g7 u7 HG7 HM) | (have q:dV HM = 7:=rfl;clear q HM;intro g8 u8 HG8 HM) | (have q:dV HM = 8:=rfl;clear q HM;intro g9 u9 HG9 HM) | (have q:dV HM = 9:=rfl;clear q HM;intro g10 u10 HG10 HM)))
 go_ret
 exact ⟨rfl, HM.out.1⟩
open Go.ChangeShapes Go.WideShapes Go.ChangeAt Go.RowKit Go.Joins Go.Deep Fx Fq Tb
section
variable {H : Type} {enc : TypeId × Value → H} {W : World} {base : Nat} {spare : Nat → Bool} {held : Bool}
theorem cells_pcm : Tryz.prog.cellsOf 35 = 16 := by kernel_rfl
theorem list_pcm {P : Nat → List Int → Prop} : ∀ n : Nat, (∀ i, i < n → ∃ x, P i x) → ∃ xs : List (List Int), xs.length = n ∧ ∀ i x, xs[i]? = some x → P i x
 | 0, _ => ⟨[], rfl, fun i x h => by simp at h⟩
 | n + 1, h => by
  obtain ⟨xs, hl, hp⟩ := list_pcm n fun i hi => h i (by omega)
  obtain ⟨y, hy⟩ := h n (by omega)
  refine ⟨xs ++ [y], by simp [hl], fun i x hx => ?_⟩
  rcases Nat.lt_or_ge i xs.length with hi | hi
  ·rw [List.getElem?_append_left hi] at hx
   exact hp i x hx
  ·have hi2 := (List.getElem?_eq_some_iff.1 hx).1
   rw [List.length_append, List.length_singleton] at hi2
   obtain rfl : i = n := by omega
   rw [List.getElem?_append_right hi, show i - xs.length = 0 by omega] at hx
   simp only [List.getElem?_cons_zero, Option.some.injEq] at hx
   subst hx
   exact hy
theorem open_pcms {fuel : Nat} {cs : List Value} {y : DataW H × List MemPlace} (h : DataW.trod enc Tryz.prog W base spare held fuel 43 cs = some y) :
  ∃ A n c xs, cs = [.slice A n c] ∧ RdA W A n xs ∧ n ≤ maxLen := by
 rcases open_slice Tryz.underlying43 h with ⟨rfl, _⟩ | ⟨a, len, cap, m, k, D, Pl, rfl, _, hl, hm, hmm, _, hi⟩
 ·exact ⟨none, 0, 0, [], rfl, ⟨rfl, fun f hf => (by cases hf), fun h => by omega⟩, by unfold maxLen; omega⟩
 ·have hlm : len ≤ m := by rw [hmm]; split <;> omega
  rw [cells_pcm] at hi
  obtain ⟨xs, hxl, hxs⟩ := list_pcm (P := fun i f => f.length = 16 ∧ ∀ j v, (ic f)[j]? = some v → W.cell? ((a.add (i * 16)).add j) = some v) len (fun i hi' => by
   obtain ⟨cs', hc, ht⟩ := hi i (by omega)
   obtain ⟨hsz, _, hat⟩ := World.cells?_some hc
   obtain ⟨es, m', rfl, _, hcl, hn, hel⟩ := DataW.trod_array (n := 16) (e := 3) (by kernel_rfl) ht
   rw [cells_pcm] at hcl
   obtain ⟨zs, hz, e⟩ := ints_of 16 cs' hcl fun i hi => by
    have hi' := hel i hi
    rw [cells_int, Nat.mul_one] at hi'
    have hx : es[i]? = some es[i] := List.getElem?_eq_getElem (by omega)
    rw [hx] at hi'
    obtain ⟨z, hz, _⟩ := DataW.trod_int Tryz.underlying3 hi'
    exact ⟨z, hz⟩
   refine ⟨zs, hz, fun j v hv => ?_⟩
   have hj : j < 16 := by
    have := (List.getElem?_eq_some_iff.1 hv).1
    rw [ic_length] at this; omega
   rw [hat j hj]
   rw [← hv, e]; rfl)
  exact ⟨some a, len, cap, xs, rfl, ⟨hxl, fun f hf => by
   obtain ⟨i, hi⟩ := List.mem_iff_getElem?.1 hf
   exact (hxs i f hi).1, fun _ => ⟨a, rfl, fun i f hf => (hxs i f hf).2⟩⟩, by omega⟩
theorem open_pcmsV {b0 : Nat} {r : Reach} {v : Value} {d : DataW H} {p : List MemPlace} (hv : Value.okWide Tryz.prog W r b0 43 v) (h : DataW.Trod enc Tryz.prog W base spare held 43 v d p) :
  ∃ A n c xs, v = .slice A n c ∧ RdA W A n xs ∧ n ≤ maxLen := by
 obtain ⟨a0, len0, cap0, rfl⟩ := okWide_slice Tryz.underlying43 hv
 obtain ⟨fuel, hf⟩ := h
 obtain ⟨A, n, c, xs, e, h1, h2⟩ := open_pcms hf
 simp only [Value.cells, List.cons.injEq, and_true] at e
 exact ⟨A, n, c, xs, by simpa using e, h1, h2⟩
end
end Go.Proofs.YtkdbhndegkldcaaGreatDoor.Lp
