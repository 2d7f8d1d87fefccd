/-
  Own texts, laid together: Ei, Ej, Em, En, Eb, Ed, Ek, El, Eo, Ep, Nd, Ia, Ib, Eq, Pa, Er, Es, Et, Eu, Df.
-/
import Derived.Test.YtkdbhndegkldcaaGreatDoorK4
set_option maxHeartbeats 8000000
set_option linter.unusedSimpArgs false
set_option linter.unusedVariables false
set_option maxRecDepth 100000
namespace Go.Proofs.YtkdbhndegkldcaaGreatDoor.Lp
open Go.RowKit Fx Fq Tb
open Yr (Stp kT cT lT smT smN smN_ok smN_length smT_length smT_ok tabK lvT lvA nmT nmA numA thru nmT_step nmT_no nmT_skip lvO lvO_length ms_cases mostN_pos')
section
variable {S : Type} {w0 : World} {g : Nat} {fs lb : Array Value} {gF N : Nat} {TF : TypeId} {st : Stp S} {fr : S → List Int} {pos : S → Nat} {Inv : S → List Ent → World → Prop}
theorem tnum_any (s : S) (KK : List Ent) (w : World) (i M : Nat) (hT : Hid (TelOk w0 g fs lb gF N TF st fr pos Inv)) (hi : Hid (Inv s KK w)) (hN : i < N) (h1 : 1 ≤ M) (hM : M ≤ 127) (hok : okN (smN M) = true) (hpo : pos s ≤ i) :
  Calls Tryz.prog 95 #[.pointer (some ⟨gF, i, none⟩), .int .i64 (M : Int), .func (.func g) fs lb] w (TelR w0 Inv KK (st s (smT M) i (-(M : Int)))) := by
 have eg := hT.out.enters
 have HM := Lib.hid (MV.start w)
 have hl : (smT M).length = 2 * M + 2 := smT_length M
 have HOK := Lib.hid hok
 have hokF : okF (smT M) = true := okF_acc hok
 have w1 : IntKind.i64.wrap (-(M : Int)) = -(M : Int) := i64_w (by omega) (by omega)
 have HC := Lib.hid (fun (L : List Ent) (w1 u : World) (gt : Nat) (hm : MV w w1 L u) (hin : (gt, 3, icells (smT M)) ∈ L) => hT.out.go hi.out hm hin hl hokF (by omega) i (-(M : Int)) hN (by omega) (by omega) hpo)
 generalize st s (smT M) i (-(M : Int)) = o at HC ⊢
 have HL := Lib.hid hl
 clear hokF hok hl
 go_enter Tryz.func95, Tryz.ntmps95
 go_wp2_with (first | (refine aVn ?_; first | (have q:dV HM = 0:=rfl;clear q HM;intro g1 u1 HG1 HM) | (have q:dV HM = 1:=rfl;clear q HM;intro g2 u2 HG2 HM) | (have q:dV HM = 2:=rfl;clear q HM;intro g3 u3 HG3 HM) | (have q:dV HM = 3:=rfl;clear q HM;intro g4 u4 HG4 HM)) | (refine aVl ?_) | (refine aVs ?_; clear HM; intro us HM; dsimp only [List.set] at HM) | (refine aZe ?_))
 refine (hill_any M w h1 hM).mono ?_
 rintro e w1 ⟨A, c, rfl, hr, hb⟩
 have HM1 := Lib.hid (HM.out.below hb)
 have HR1 := Lib.hid hr
 clear HM hr hb
 go_wp2_with fail
 refine (new_ok A (2 * M + 1) c (smN M) w1 HR1 HOK.out).mono ?_
 rintro e w2 ⟨gt, rfl, hg, hx, hb⟩
 have HM := Lib.hid (new_tab HM1.out hg hb hx)
 rw [show acc (smN M) = smT M from rfl] at HM ⊢
 rw [HL.out]
 unfold freqV
 clear HM1 HR1 HOK hg hb hx
 go_wp2_with (first | (refine aVn ?_; first | (have q:dV HM = 0:=rfl;clear q HM;intro g1 u1 HG1 HM) | (have q:dV HM = 1:=rfl;clear q HM;intro g2 u2 HG2 HM) | (have q:dV HM = 2:=rfl;clear q HM;intro g3 u3 HG3 HM) | (have q:dV HM = 3:=rfl;clear q HM;intro g4 u4 HG4 HM)) | (refine aVl ?_) | (refine aVs ?_; clear HM; intro us HM; dsimp only [List.set] at HM) | (refine aZe ?_))
 have HC2 := Lib.hid (HC.out _ _ us gt HM.out (.tail _ (.head _)))
 clear HM HC
 cases o with
 | some s' =>
  refine HC2.out.mono ?_
  intro e u hr
  have HR := Lib.hid hr
  obtain ⟨rfl, -⟩ := hr
  clear HC2
  go_wp2
  go_ret
  exact HR.out
 | none =>
  refine HC2.out.mono ?_
  intro e u hr
  have HR := Lib.hid hr
  obtain ⟨E, -, rfl, -⟩ := hr
  clear HC2
  go_wp2
  go_ret
  exact HR.out
end
theorem load_lvO {u : World} {gF : Nat} {T : TypeId} {F : List Int} (h : Blk u gF T (icells F)) (hl : F.length = 23) : (loadVar 29 ⟨gF, 1, none⟩).run Tryz.prog u = .ok (.agg (icells (lvO F))) u :=
 run_load_part (z := icells (zr 6)) arrLev.row h (o := 1) (ys := lvO F) (fun j hj => by
  have e := Yr.lvO_get (F := F) hj
  rw [e]
  unfold icells
  rw [List.getElem?_toArray, List.getElem?_map, List.getElem?_eq_getElem (by omega), List.getD_eq_getElem?_getD, List.getElem?_eq_getElem (by omega)]
  rfl) (lvO_length hl)
section
variable {S : Type} {w0 : World} {g : Nat} {fs lb : Array Value} {gF : Nat} {st : Stp S} {fr : S → List Int} {pos : S → Nat} {Inv : S → List Ent → World → Prop}
theorem TelOk.edg {N : Nat} {TF : TypeId} (h : TelOk w0 g fs lb gF N TF st fr pos Inv) {s : S} {K : List Ent} {u : World} (he : Edg w0) (hi : Inv s K u) : Edg u := he.below (h.row hi).2.2
theorem tnums_any (s : S) (KK : List Ent) (w : World) (hT : Hid (TelOk w0 g fs lb gF 23 57 st fr pos Inv)) (hi : Hid (Inv s KK w)) (he : Hid (Edg w0)) (hpo : pos s ≤ 7) :
  Calls Tryz.prog 68 #[.pointer (some ⟨gF, 0, none⟩), .func (.func g) fs lb] w (TelR w0 Inv KK (nmA st fr s)) := by
 have HLF := Lib.hid (hT.out.row hi.out).2.1
 have HLD := Lib.hid (load_lvO (hT.out.row hi.out).1 HLF.out)
 have HM := Lib.hid (MV.start w)
 have HSH := Lib.hid (bshare_any (lvO (fr s)) 120 w (lvO_length HLF.out) (hT.out.edg he.out hi.out))
 cases hc : chkL (lvO (fr s)) with
 | false =>
  rw [show nmA st fr s = none by unfold nmA; rw [hc]; rfl]
  rw [share_vno _ hc] at HSH
  have HW := Lib.hid (hT.out.row hi.out).2.2
  have LZ := Lib.hid (zr_length 6)
  generalize lvO (fr s) = l at HLD HSH
  clear hc hi HLF
  go_enter Tryz.func68, Tryz.ntmps68
  go_wp2_with (first | (refine wv_loadE rfl _ _ rfl rfl HLD ?_) | (first | (refine aVn ?_; first | (have q:dV HM = 0:=rfl;clear q HM;intro g1 u1 HG1 HM) | (have q:dV HM = 1:=rfl;clear q HM;intro g2 u2 HG2 HM) | (have q:dV HM = 2:=rfl;clear q HM;intro g3 u3 HG3 HM) | (have q:dV HM = 3:=rfl;clear q HM;intro g4 u4 HG4 HM)) | (refine aVl ?_) | (refine aVs ?_; clear HM; intro us HM; dsimp only [List.set] at HM) | (refine aZe ?_)))
  refine HSH.out.mono ?_
  rintro e w2 ⟨rfl, hb⟩
  replace HM := Lib.hid (HM.out.below hb)
  clear hb HLD HSH
  go_wp2_with (first | (refine aVn ?_; first | (have q:dV HM = 0:=rfl;clear q HM;intro g1 u1 HG1 HM) | (have q:dV HM = 1:=rfl;clear q HM;intro g2 u2 HG2 HM) | (have q:dV HM = 2:=rfl;clear q HM;intro g3 u3 HG3 HM) | (have q:dV HM = 3:=rfl;clear q HM;intro g4 u4 HG4 HM)) | (refine aVl ?_) | (refine aVs ?_; clear HM; intro us HM; dsimp only [List.set] at HM) | (refine aZe ?_))
  go_ret
  exact ⟨1, rfl, rfl, HW.out.trans (HM.out.1.mono HW.out.size)⟩
 | true =>
  have eg := hT.out.enters
  rw [share_v _ hc] at HSH
  have HMS := Lib.hid (fun n (hn : n < 16) => ms_cases hc hn)
  have HRO := Lib.hid (show nmT st (msL (lvO (fr s))) (16 - 0) s = nmA st fr s by unfold nmA; rw [if_pos hc])
  have LA := Lib.hid (show (shareL (lvO (fr s)) 120).length = 6 from (share_ok (lvO (fr s)) (B := 120) (by decide)).1.1)
  generalize msL (lvO (fr s)) = ms at HMS HRO
  generalize shareL (lvO (fr s)) 120 = A at HSH HMS LA
  generalize nmA st fr s = o at HRO ⊢
  generalize lvO (fr s) = l at HLD HSH
  clear hc HLF
  go_enter Tryz.func68, Tryz.ntmps68
  go_wp2_with (first | (refine wv_loadE rfl _ _ rfl rfl HLD ?_) | (first | (refine aVn ?_; first | (have q:dV HM = 0:=rfl;clear q HM;intro g1 u1 HG1 HM) | (have q:dV HM = 1:=rfl;clear q HM;intro g2 u2 HG2 HM) | (have q:dV HM = 2:=rfl;clear q HM;intro g3 u3 HG3 HM) | (have q:dV HM = 3:=rfl;clear q HM;intro g4 u4 HG4 HM)) | (refine aVl ?_) | (refine aVs ?_; clear HM; intro us HM; dsimp only [List.set] at HM) | (refine aZe ?_)))
  refine HSH.out.mono ?_
  rintro e w2 ⟨rfl, hb⟩
  replace HM := Lib.hid (HM.out.below hb)
  clear hb HLD HSH
  go_wp2_with (first | (refine aVn ?_; first | (have q:dV HM = 0:=rfl;clear q HM;intro g1 u1 HG1 HM) | (have q:dV HM = 1:=rfl;clear q HM;intro g2 u2 HG2 HM) | (have q:dV HM = 2:=rfl;clear q HM;intro g3 u3 HG3 HM) | (have q:dV HM = 3:=rfl;clear q HM;intro g4 u4 HG4 HM)) | (refine aVl ?_) | (refine aVs ?_; clear HM; intro us HM; dsimp only [List.set] at HM) | (refine aZe ?_))
  obtain ⟨gA, hgA⟩ : ∃ gA, gA = g1 := ⟨_, rfl⟩
  subst hgA
  have HI0 := Lib.hid (hT.out.mv hi.out HM.out)
  clear HM hi
  go_loopw [22] (fun vi wr => ∃ (k : Nat) (s' : S), vi = .int .i64 (k : Int) ∧ k ≤ 16 ∧ pos s' ≤ 7 + k ∧ Hid (Inv s' ((gA, 165, icells A) :: KK) wr) ∧ Hid (nmT st ms (16 - k) s' = o)) (fun vi _ => 16 - (intOf vi).toNat)
  case atStart => exact ⟨0, s, rfl, by omega, hpo, HI0, HRO⟩
  case round =>
   clear HI0 HRO
   obtain ⟨k, s', rfl, hk, hpk, HI, HRO⟩ := hrel
   by_cases hlt : k < 16
   ·have k16 : (k : Int) < 16 := by omega
    have HE := Lib.hid (hT.out.edg he.out HI.out)
    go_wp2_with fail
    refine (of_good k wr hlt HE.out).mono ?_
    rintro e w2 ⟨rfl, rfl⟩
    obtain ⟨z, z7, hz, hzm⟩ := HMS.out k hlt
    have hb6 := (bnd_all k hlt).1
    have c1 := blk_at (hT.out.get HI.out (.head _)) (i := bnd k) (by rw [LA.out]; exact hb6)
    rw [hz] at c1
    generalize bnd k = b at hb6 c1
    have b6 : (b : Int) < 6 := by omega
    have HC1 := Lib.hid c1
    clear hz
    rcases hzm with ⟨rfl, hm0⟩ | ⟨hz1, hm1⟩
    ·have HRO2 := Lib.hid ((nmT_skip st (ms := ms) (k := k) (s := s') hlt (by rw [hm0]; omega)).symm.trans HRO.out)
     clear HRO
     go_wp2_with fail
     go_roundw
     case rel => exact ⟨k + 1, s', by go_num, by omega, by omega, HI, HRO2⟩
     case measure => simp [intOf]; omega
    ·have hM := mostN_bd z (by omega)
     have hMp := mostN_pos' hz1
     have HQM := Lib.hid (fun u => qmost_is (z : Int) u)
     rw [show mostV (z : Int) = mostN z by unfold mostV; congr 1; omega] at HQM
     have HOK := Lib.hid (smN_ok (k := z) (by omega))
     generalize mostN z = M at hM hMp HQM HOK hm1
     have z0 : ((z : Int) == 0) = false := by simp; omega
     have HM := Lib.hid ((MV.start wr).drew)
     have HPS := Lib.hid (fun s2 (h : st s' (smT M) (7 + k) (-(M : Int)) = some s2) => hT.out.fwd hpk h)
     have HST := Lib.hid (fun s2 (h : st s' (smT M) (7 + k) (-(M : Int)) = some s2) => (nmT_step st (ms := ms) (k := k) (s := s') (s' := s2) hlt (by rw [hm1]; exact hMp) (by rw [hm1, Int.toNat_natCast]; exact h)).symm.trans HRO.out)
     have HNO := Lib.hid (fun (h : st s' (smT M) (7 + k) (-(M : Int)) = none) => (nmT_no st (ms := ms) (k := k) (s := s') hlt (by rw [hm1]; exact hMp) (by rw [hm1, Int.toNat_natCast]; exact h)).symm.trans HRO.out)
     have HTN := Lib.hid (fun (u w1 : World) (hm : MV wr w1 [] u) => tnum_any (i := 7 + k) (M := M) s' ((gA, 165, icells A) :: KK) u hT (Lib.hid (hT.out.mv (L := []) HI.out hm)) (by omega) (by omega) (by omega) HOK.out hpk)
     generalize st s' (smT M) (7 + k) (-(M : Int)) = o2 at HTN HPS HST HNO
     clear HRO hm1 hMp hM HOK
     go_wp2_with fail
     refine wp_region_held_drew (S := fun _ => True) (by kernel_rfl) trivial (fun hHeld => ?_)
     have HLD := Lib.hid (run_load_int (w := wr.drew) HC1.out)
     clear HC1 c1
     generalize World.drew _ = wd at HM HLD hHeld ⊢
     (refine tk 0 rfl (yi_free rfl (fun u => rfl)) ?_)
     (refine tk 1 rfl (yi_free rfl (fun u => rfl)) ?_)
     (refine tk 2 rfl (yi_free rfl (fun u => rfl)) ?_)
     (refine tkg 3 (.pointer (some ⟨gF, 7, none⟩)) rfl ?_)
     (refine tkg 4 (.pointer (some ⟨gF, 7 + k, none⟩)) rfl ?_)
     (refine tk 5 rfl (yi_free rfl (fun u => rfl)) ?_)
     (refine tkg 6 (.pointer (some ⟨gA, b, none⟩)) rfl ?_)
     (refine tkv 9 (.func (.func g) fs lb) rfl ?_)
     refine wpAnyH_ready (rs := [7]) (by kernel_rfl) (by simp) ?_; refine AllReadyH.cons rfl (fun K hK => ?_) (AllReadyH.nil)
     rw [if_pos (by rfl)]; refine ov_load _ _ rfl rfl (HLD.out) ?_
     refine hK.out _ _ trivial (fun hHeld => ?_)
     clear hK K HLD
     (try simp only [Act.put, qz1, qz2, qz3])
     refine wpAnyH_ready (rs := [8]) (by kernel_rfl) (by simp) ?_; refine AllReadyH.cons rfl (fun K hK => ?_) (AllReadyH.nil)
     rw [if_pos (by rfl)]; go_simp
     refine (HQM.out _).mono ?_
     rintro e w3 ⟨rfl, rfl⟩
     go_wp2_with fail
     refine hK.out _ _ trivial (fun hHeld => ?_)
     clear hK K HQM
     (try simp only [Act.put, qz1, qz2, qz3])
     refine wpAnyH_ready (rs := [10]) (by kernel_rfl) (by simp) ?_; refine AllReadyH.cons rfl (fun K hK => ?_) (AllReadyH.nil)
     rw [if_pos (by rfl)]; go_simp
     cases o2 with
     | some s2 =>
      have HST2 := Lib.hid (HST.out s2 rfl)
      have HPS2 := Lib.hid (HPS.out s2 rfl)
      clear HST HNO HPS
      refine (HTN.out _ _ HM.out).mono ?_
      rintro e w5 ⟨rfl, hi5⟩
      have HI5 := Lib.hid hi5
      clear HTN hi5 hHeld HM
      go_wp2_with fail
      refine hK.out _ _ trivial (fun hHeld => ?_)
      clear hK K
      (try simp only [Act.put, qz1, qz2, qz3])
      (refine tkv 11 (.int .i64 0) rfl ?_)
      refine wpAnyH_done (by kernel_rfl) ?_ _
      go_wp2
      go_roundw
      case rel => exact ⟨k + 1, s2, by go_num, by omega, HPS2.out, HI5, HST2⟩
      case measure => simp [intOf]; omega
     | none =>
      have HNO2 := Lib.hid (HNO.out rfl)
      clear HST HNO HPS
      refine (HTN.out _ _ HM.out).mono ?_
      rintro e w5 ⟨E, hE, rfl, hb5⟩
      have HB5 := Lib.hid hb5
      clear HTN hb5 hHeld HM
      go_wp2_with fail
      refine hK.out _ _ trivial (fun hHeld => ?_)
      clear hK K
      (try simp only [Act.put, qz1, qz2, qz3])
      (refine tkv 11 (.int .i64 E) rfl ?_)
      refine wpAnyH_done (by kernel_rfl) ?_ _
      go_wp2
      go_ret
      rw [← HNO2.out]
      exact ⟨E, hE, rfl, HB5.out⟩
   ·obtain rfl : k = 16 := by omega
    have HRO2 := Lib.hid (show some s' = o from HRO.out)
    clear HRO
    go_wp2
    go_ret
    rw [← HRO2.out]
    exact ⟨rfl, hT.out.sub HI.out (List.sublist_cons_self _ _)⟩
end
open Yr (Stp kT lvA nmA numA thru lvO)
section
variable {S : Type} {w0 : World} {g : Nat} {fs lb : Array Value} {gF : Nat} {st : Stp S} {fr : S → List Int} {pos : S → Nat} {Inv : S → List Ent → World → Prop}
theorem thru_any (s : S) (KK : List Ent) (w : World) (p : List Int) (hT : Hid (TelOk w0 g fs lb gF 23 57 st fr pos Inv)) (hi : Hid (Inv s KK w)) (he : Hid (Edg w0)) (lp : p.length = 6) (hp : chkL p = true) (hpo : pos s = 0) :
  Calls Tryz.prog 44 #[.pointer (some ⟨gF, 0, none⟩), .agg (icells p), .func (.func g) fs lb] w (TelR w0 Inv KK (thru st fr p s)) := by
 have HM := Lib.hid (MV.start w)
 have LP := Lib.hid lp
 have HP := Lib.hid hp
 obtain ⟨o, ho⟩ : ∃ o, o = thru st fr p s := ⟨_, rfl⟩
 have HO := Lib.hid (show (st s kT 0 0).bind (fun s1 => (lvA st fr p s1).bind fun s2 => numA st fr s2) = o from ho.symm)
 rw [← ho]
 clear ho lp hp
 go_enter Tryz.func44, Tryz.ntmps44
 go_wp2_with (first | (refine aVn ?_; first | (have q:dV HM = 0:=rfl;clear q HM;intro g1 u1 HG1 HM) | (have q:dV HM = 1:=rfl;clear q HM;intro g2 u2 HG2 HM) | (have q:dV HM = 2:=rfl;clear q HM;intro g3 u3 HG3 HM) | (have q:dV HM = 3:=rfl;clear q HM;intro g4 u4 HG4 HM)) | (refine aVl ?_) | (refine aVs ?_; clear HM; intro us HM; dsimp only [List.set] at HM) | (refine aZe ?_))
 obtain ⟨gP, hgP⟩ : ∃ gP, gP = g1 := ⟨_, rfl⟩
 subst hgP
 have HI0 := Lib.hid (show Inv s ((gP, 29, icells p) :: KK) u1 from hT.out.mv hi.out HM.out)
 have HTK := Lib.hid (tkind_any s ((gP, 29, icells p) :: KK) u1 hT HI0 (by omega) (by omega))
 have HP1 := Lib.hid (fun s1 (h : st s kT 0 0 = some s1) => hT.out.fwd (by omega) h)
 generalize st s kT 0 0 = o1 at HTK HO HP1
 clear HM hi HI0
 cases o1 with
 | none =>
  have HN := Lib.hid (show none = o from HO.out)
  clear HO
  refine HTK.out.mono ?_
  rintro e w2 ⟨E, hE, rfl, hb⟩
  have HB := Lib.hid hb
  clear hb HTK
  go_wp2
  go_ret
  rw [← HN.out]
  exact ⟨E, hE, rfl, HB.out⟩
 | some s1 =>
  have HO1 := Lib.hid (show (lvA st fr p s1).bind (fun s2 => numA st fr s2) = o from HO.out)
  clear HO
  refine HTK.out.mono ?_
  rintro e w2 ⟨rfl, hi1⟩
  have HI1 := Lib.hid hi1
  have HLD := Lib.hid (run_load_blk arrLev.row (hT.out.get hi1 (.head _)) ((icells_size p).trans LP.out))
  have HTL := Lib.hid (tlev_any s1 ((gP, 29, icells p) :: KK) w2 p hT HI1 LP.out HP.out (HP1.out s1 rfl))
  have HP2 := Lib.hid (fun s2 (h : lvA st fr p s1 = some s2) => Yr.lvT_pos st (fun _ _ _ _ _ h1 h2 => hT.out.fwd h1 h2) 6 s1 s2 (by omega) (HP1.out s1 rfl) h)
  generalize lvA st fr p s1 = o2 at HTL HO1 HP2
  clear HTK hi1 HI1
  go_wp2_with (refine wv_loadE rfl _ _ rfl rfl HLD ?_)
  clear HLD
  cases o2 with
  | none =>
   have HN := Lib.hid (show none = o from HO1.out)
   clear HO1
   refine HTL.out.mono ?_
   rintro e w3 ⟨E, hE, rfl, hb⟩
   have HB := Lib.hid hb
   have hE2 : ¬ E = 0 := by simpa using hE
   clear hb HTL
   go_wp2
   go_ret
   rw [← HN.out]
   exact ⟨E, hE, rfl, HB.out⟩
  | some s2 =>
   have HO2 := Lib.hid (show numA st fr s2 = o from HO1.out)
   clear HO1
   refine HTL.out.mono ?_
   rintro e w3 ⟨rfl, hi2⟩
   have HI2 := Lib.hid hi2
   have c0 := blk_at (hT.out.row hi2).1 (i := 0) (by rw [(hT.out.row hi2).2.1]; decide)
   clear HTL hi2
   by_cases hK : (fr s2).getD 0 0 = 2
   ·have HN := Lib.hid (show some s2 = o by rw [← HO2.out]; unfold numA; rw [if_pos hK])
    generalize (fr s2).getD 0 0 = K2 at c0 hK
    have a2 : (K2 == 2) = true := by simpa using hK
    clear HO2 hK
    go_wp2
    go_ret
    rw [← HN.out]
    exact ⟨rfl, hT.out.sub HI2.out (List.sublist_cons_self _ _)⟩
   ·have HN := Lib.hid (show nmA st fr s2 = o by rw [← HO2.out]; unfold numA; rw [if_neg hK])
    have HTN := Lib.hid (tnums_any s2 ((gP, 29, icells p) :: KK) w3 hT HI2 he (HP2.out s2 rfl))
    rw [HN.out] at HTN
    generalize (fr s2).getD 0 0 = K2 at c0 hK
    have a2 : (K2 == 2) = false := by simpa using hK
    clear HO2 HN HI2 hK
    go_wp2_with fail
    cases o with
    | none =>
     refine HTN.out.mono ?_
     rintro e w4 ⟨E, hE, rfl, hb⟩
     have HB := Lib.hid hb
     clear hb HTN
     go_wp2
     go_ret
     exact ⟨E, hE, rfl, HB.out⟩
    | some s3 =>
     refine HTN.out.mono ?_
     rintro e w4 ⟨rfl, hi4⟩
     have HI4 := Lib.hid (hT.out.sub hi4 (List.sublist_cons_self _ _))
     clear hi4 HTN
     go_wp2
     go_ret
     exact ⟨rfl, HI4.out⟩
end
open Cd (Pr Tb RdT tbs own_far row_neC)
open Yr (stW)
theorem run_load_one {T : TypeId} (hg : ∀ w, (isAgg T).run Tryz.prog w = .ok false w) {w : World} {ad : Addr} {v : Value} (hc : w.cell? ad = some v) : (loadVar T ad).run Tryz.prog w = .ok v w := by
 simp only [loadVar, hg, Sem.run_bind, Result.andThen_ok, run_load, hc, Bool.false_eq_true, if_false]
theorem aggT (w : World) : (isAgg 96).run Tryz.prog w = .ok false w := by kernel_rfl
theorem aggS (w : World) : (isAgg 23).run Tryz.prog w = .ok false w := by kernel_rfl
theorem rdI_far1 {u : World} {ad : Addr} {m b : Nat} {xs : List Int} {t : TypeId} {v : Value} (hr : RdI u (some ad) m xs) (hm : 0 < m) (hb : Blk u b t #[v]) (hv : ∀ x, v ≠ .int .i64 x) : some b ≠ some ad.block := by
 obtain ⟨ad', e', -, hc⟩ := hr.at_ (k := 0) hm
 have e2 : ad = ad' := Option.some.inj e'
 subst e2
 intro hg
 have hg := Option.some.inj hg
 have h0 : ad.add 0 = ad := rfl
 rw [h0] at hc
 unfold Blk at hb
 unfold World.cell? at hc
 rw [← hg, hb] at hc
 cases hs : ad.spot.isSome with
 | true => simp [hs] at hc
 | false =>
  simp only [hs] at hc
  rw [if_neg Bool.false_ne_true] at hc
  rcases Nat.eq_zero_or_pos ad.off with hl | hl
  ·rw [hl] at hc
   injection hc with hc
   exact hv _ hc
  ·rw [Array.getElem?_eq_none (by simp; omega)] at hc
   cases hc
theorem own_notint {u : World} {B n : Nat} {e : TypeId} {v : Value} {xs : List Value} (h : u.ownsRow B e 1 v n xs) : ∀ x, v ≠ .int .i64 x := by
 intro x
 rcases h.2 with ⟨rfl, _⟩ | ⟨g, cap, cur, rfl, -⟩
 ·intro h; cases h
 ·intro h; cases h
section
variable {w : World} {gF gP gT gS B n6 n7 : Nat} {F p : List Int} {v6 v7 v' : Value} {ps6 ps7 : List Pr} {K : List Ent} {u u' : World}
theorem SyS.cell (h : SyS w gF gP B F p v6 v7 n6 n7 ps6 ps7 u) {b : Nat} (hB : b < B) (hF : b ≠ gF) (hP : b ≠ gP) (hw : w.heap.size ≤ b) {T : TypeId} {v : Value} (hb : Blk u b T #[v]) (hv : ∀ x, v ≠ .int .i64 x) (x : Value) : SyS w gF gP B F p v6 v7 n6 n7 ps6 ps7 (u.setCell ⟨b, 0, none⟩ x) := by
 have hg := grown_set u b 0 x
 obtain ⟨ts, t1, t2, t3⟩ := h.tabs
 refine ⟨h.fr.only hg hF.symm, h.pr.only hg hP.symm, World.ownsRow.kept h.syms hg (.inr (own_far h.syms hB)), ⟨ts, t1, World.ownsRow.kept t2 hg (.inr (own_far t2 hB)), fun t ht => ?_⟩, h.l2, h.l3, h.h2, h.h3, Nat.le_trans h.hBu hg.size, h.blw.setCell hw _⟩
 obtain ⟨ad, r1, r2, r3, r6, r4, r5⟩ := t3 t ht
 exact ⟨ad, r1, Nat.lt_of_lt_of_le r2 hg.size, r3, r6, rdI_rowF r4 hg fun a e hn => (by injection e with e; subst e; exact rdI_far1 r4 hn hb hv), r5⟩
structure LsG (w : World) (gF gP gT gS B : Nat) : Prop where
 tB : gT < B
 sB : gS < B
 tw : w.heap.size ≤ gT
 sw : w.heap.size ≤ gS
 ts : gT ≠ gS
 tF : gT ≠ gF
 tP : gT ≠ gP
 sF : gS ≠ gF
 sP : gS ≠ gP
structure LsS (w : World) (gF gP gT gS B : Nat) (F p : List Int) (v6 v7 : Value) (ps6 ps7 : List Pr) (K : List Ent) (u : World) : Prop where
 sy : SyS w gF gP B F p v6 v7 ps6.length ps7.length ps6 ps7 u
 bT : Blk u gT 96 #[v7]
 bS : Blk u gS 23 #[v6]
 ks : ∀ e ∈ K, Blk u e.1 e.2.1 e.2.2 ∧ B ≤ e.1 ∧ v6.ownBlock ≠ some e.1 ∧ v7.ownBlock ≠ some e.1
theorem LsS.next (h : LsS w gF gP gT gS B F p v6 v7 ps6 ps7 K u) (hb : Below u.heap.size u u') : LsS w gF gP gT gS B F p v6 v7 ps6 ps7 K u' :=
 ⟨h.sy.next hb, h.bT.below hb h.bT.lt, h.bS.below hb h.bS.lt, fun e he => ⟨(h.ks e he).1.below hb (h.ks e he).1.lt, (h.ks e he).2⟩⟩
theorem LsS.add (h : LsS w gF gP gT gS B F p v6 v7 ps6 ps7 K u) (hb : Below u.heap.size u u') {L : List Ent} (hL : ∀ e ∈ L, u.heap.size ≤ e.1 ∧ Blk u' e.1 e.2.1 e.2.2) : LsS w gF gP gT gS B F p v6 v7 ps6 ps7 (L ++ K) u' := by
 have h2 := h.next hb
 obtain ⟨ts, -, t2, -⟩ := h.sy.tabs
 refine ⟨h2.sy, h2.bT, h2.bS, fun e he => ?_⟩
 rcases List.mem_append.1 he with he | he
 ·obtain ⟨h3, h4⟩ := hL e he
  refine ⟨h4, Nat.le_trans h.sy.hBu h3, fun e2 => ?_, fun e2 => ?_⟩
  ·have := (h.sy.syms.lt _ e2).2; omega
  ·have := (t2.lt _ e2).2; omega
 ·exact h2.ks e he
theorem LsS.tab (h : LsS w gF gP gT gS B F p v6 v7 ps6 ps7 K u) (G : LsG w gF gP gT gS B) (q : Pr) {gt m d : Nat} {ts : List Tb} (t1 : tbs ts = ps7.map (·.2)) (t2 : u.ownsRow B 130 1 v7 ps7.length (ts.map tbV)) (t3 : TbsF u v6.ownBlock v7.ownBlock ts) (ho : u'.ownsRow B 130 1 v' (ps7.length + 1) (ts.map tbV ++ [.slice (some ⟨gt, 0, none⟩) m d])) (hg : u.grownBy u' v7.ownBlock)
  (hr : RdI u (some ⟨gt, 0, none⟩) m q.2) (hl : gt < u.heap.size) (h6 : v6.ownBlock ≠ some gt) (h7 : v7.ownBlock ≠ some gt) (hm : m ≤ maxLen) (hv : v'.ownBlock = v7.ownBlock ∨ v'.ownBlock = some u.heap.size) :
  LsS w gF gP gT gS B F p v6 v' ps6 (ps7 ++ [q]) K (u'.setCell ⟨gT, 0, none⟩ v') ∧ u'.cell? ⟨gT, 0, none⟩ = some v7 ∧ u'.frozen? ⟨gT, 0, none⟩ = false := by
 have s1 := h.sy.push7 (ad := ⟨gt, 0, none⟩) q t1 t2 t3 ho hg hr hl h6 h7 hm hv
 have b1 := h.bT.row hg (own_far t2 G.tB)
 have b2 := h.bS.row hg (own_far t2 G.sB)
 refine ⟨⟨?_, ?_, Blk.far b2 (show gS ≠ gT from G.ts.symm) _, fun e he => ?_⟩, b1.cell 0, b1.frozen 0⟩
 ·rw [List.length_append]
  exact s1.cell G.tB G.tF G.tP G.tw b1 (own_notint t2) v'
 ·exact b1.set_ 0 v'
 ·obtain ⟨k1, k2, k3, k4⟩ := h.ks e he
  refine ⟨Blk.far (k1.row hg k4) (show e.1 ≠ gT by have := G.tB; omega) _, k2, k3, ?_⟩
  rcases hv with hv | hv
  ·rw [hv]; exact k4
  ·rw [hv]
   intro e2
   injection e2 with e2
   have := k1.lt
   omega
theorem LsS.sym (h : LsS w gF gP gT gS B F p v6 v7 ps6 ps7 K u) (G : LsG w gF gP gT gS B) (q : Pr) (ho : u'.ownsRow B 3 1 v' (ps6.length + 1) ((ps6.map fun q => iV q.1) ++ [.int .i64 q.1])) (hg : u.grownBy u' v6.ownBlock) (hv : v'.ownBlock = v6.ownBlock ∨ v'.ownBlock = some u.heap.size) :
  LsS w gF gP gT gS B F p v' v7 (ps6 ++ [q]) ps7 K (u'.setCell ⟨gS, 0, none⟩ v') ∧ u'.cell? ⟨gS, 0, none⟩ = some v6 ∧ u'.frozen? ⟨gS, 0, none⟩ = false ∧ Blk u' gF 57 (icells F) := by
 have s1 := h.sy.push6 q ho hg hv
 have b1 := h.bT.row hg (own_far h.sy.syms G.tB)
 have b2 := h.bS.row hg (own_far h.sy.syms G.sB)
 refine ⟨⟨?_, Blk.far b1 (show gT ≠ gS from G.ts) _, ?_, fun e he => ?_⟩, b2.cell 0, b2.frozen 0, s1.fr⟩
 ·rw [List.length_append]
  exact s1.cell G.sB G.sF G.sP G.sw b2 (own_notint h.sy.syms) v'
 ·exact b2.set_ 0 v'
 ·obtain ⟨k1, k2, k3, k4⟩ := h.ks e he
  refine ⟨Blk.far (k1.row hg k3) (show e.1 ≠ gS by have := G.sB; omega) _, k2, ?_, k4⟩
  rcases hv with hv | hv
  ·rw [hv]; exact k3
  ·rw [hv]
   intro e2
   injection e2 with e2
   have := k1.lt
   omega
end
def LsI (w : World) (gF gP gT gS B : Nat) (F p : List Int) (ps : List Pr) (K : List Ent) (u : World) : Prop := ∃ v6 v7, LsS w gF gP gT gS B F p v6 v7 ps ps K u
theorem ov_storeE {o : Oper} {a : Act} {w w' : World} {Q : Exit → Act → World → Prop} {K : Act → World → Prop} (T : TypeId) (x y : Operand) (ho : o.op = .store T x y) {ad : Addr} {v : Value} (hx : a.eval x = .pointer (some ad)) (hy : a.eval y = v) (hr : (storeVar T ad v).run Tryz.prog w = .ok () w') (hd : o.dst = none) (h : K (a.put none undef) w') : o.wp Tryz.prog a w K Q := by
 rw [← hd] at h
 unfold Oper.wp execOp
 simp only [ho, hx, hy, Instr.storeAt, Instr.sureAddr, Sem.run_bind, Sem.run_pure, Result.andThen_ok, hr]
 exact h
theorem run_store_row {T : TypeId} (hs : ∀ w, (sizeOf T).run Tryz.prog w = .ok 1 w) {w : World} {ad : Addr} {old : Value} {A : Option Addr} {n c : Nat} (hc : w.cell? ad = some old) (hf : w.frozen? ad = false) : (storeVar T ad (.slice A n c)).run Tryz.prog w = .ok () (w.setCell ad (.slice A n c)) := by
 simp [storeVar, storeCells, Value.cells, go_sem, run_store, Value.oneCell', hc, hf, hs]
theorem own_slice {u : World} {B n : Nat} {e : TypeId} {v : Value} {xs : List Value} (h : u.ownsRow B e 1 v n xs) : ∃ A c, v = .slice A n c := by
 rcases h.2 with ⟨rfl, rfl⟩ | ⟨g, cap, cur, rfl, -⟩
 ·exact ⟨none, 0, rfl⟩
 ·exact ⟨_, _, rfl⟩
theorem sizS (w : World) : (sizeOf 23).run Tryz.prog w = .ok 1 w := by kernel_rfl
theorem rdI_blkE {u : World} {g : Nat} {xs : List Int} (h : Blk u g 3 (icells xs)) : RdI u (some ⟨g, 0, none⟩) xs.length xs := RdI.of_blk h rfl
def LsP (w : World) (gF gP gT gS B : Nat) (F p : List Int) (ps : List Pr) (K : List Ent) (e : Ending) (u : World) : Prop := e = .returned (.int .i64 0) ∧ LsI w gF gP gT gS B F p ps K u
theorem list1_any {w : World} {gF gP gT gS B : Nat} {F p : List Int} {ps : List Pr} {KK : List Ent} {u : World} {gt n i : Nat} {xs : List Int} {fst : Int} (G : Hid (LsG w gF gP gT gS B)) (h : LsI w gF gP gT gS B F p ps KK u) (LF : F.length = 23) (hF : -1099511627776 ≤ F.getD i 0 ∧ F.getD i 0 ≤ 1099511627776)
    (hin : (gt, 3, icells xs) ∈ KK) (hn : xs.length = n) (hl : n ≤ 300) (hi : i < 23) (h1 : -1000 ≤ fst) (h2 : fst ≤ 1000) (hp : ps.length ≤ i) :
    Calls Tryz.prog 77 #[.agg #[.slice (some ⟨gt, 0, none⟩) n n], .pointer (some ⟨gF, i, none⟩), .int .i64 fst, .pointer (some ⟨gT, 0, none⟩), .pointer (some ⟨gS, 0, none⟩)] u (LsP w gF gP gT gS B F p (ps ++ [(F.getD i 0 - fst, xs)]) KK) := by
  obtain ⟨i0, hi0, hz0, hz1, hz2⟩ := info_partsT info_intT
  obtain ⟨j0, hj0, hy0, hy1, hy2⟩ := info_partsT info_freqL
  obtain ⟨v6, v7, hs⟩ := h
  obtain ⟨k1, k2, k3, k4⟩ := hs.ks _ hin
  have HS := Lib.hid hs
  have HR := Lib.hid (show RdI u (some ⟨gt, 0, none⟩) n xs by rw [← hn]; exact rdI_blkE k1)
  have HGL := Lib.hid k1.lt
  have HK3 := Lib.hid k3
  have HK4 := Lib.hid k4
  have HLF := Lib.hid LF
  obtain ⟨x, hx⟩ : ∃ x, F.getD i 0 = x := ⟨_, rfl⟩
  rw [hx] at hF
  rw [hx]
  have HX := Lib.hid hx
  have w1 : IntKind.i64.wrap (x - fst) = x - fst := i64_w (by omega) (by omega)
  obtain ⟨m, hm⟩ : ∃ m, m = ps.length := ⟨_, rfl⟩
  have HMM := Lib.hid hm.symm
  have hm23 : m ≤ 23 := by omega
  have HL7 := Lib.hid (fun (L : List Ent) (w1 u' : World) (hmv : MV u w1 L u') => run_load_one aggT ((HS.out.next hmv.1).bT.cell 0))
  have HM := Lib.hid (MV.start u)
  clear hs k1 k2 k3 k4 hx hF hin hn hm LF hp
  go_enter Tryz.func77, Tryz.ntmps77
  go_wp2_with (first
    | (at_builtin
       have HS1 := Lib.hid ((HS.out.next HM.out.1).next ((Below.refl u1.heap.size u1).alloc (Nat.le_refl _) (.cells #[.slice (some ⟨gt, 0, none⟩) n n] 130)))
       have HR1 := Lib.hid ((HR.out.below HM.out.1).alloc (.cells #[.slice (some ⟨gt, 0, none⟩) n n] 130))
       have HGL1 := Lib.hid (show gt < (u1.alloc (.cells #[.slice (some ⟨gt, 0, none⟩) n n] 130)).heap.size by have := HGL.out; have := HM.out.1.size; simp; omega)
       obtain ⟨ts, t1, t2, t3⟩ := HS1.out.sy.tabs
       have H1 := Lib.hid t1
       have H2 := Lib.hid t2
       have H3 := Lib.hid t3
       have HB1 := Lib.hid HS1.out.sy.hBu
       clear t1 t2 t3 HS HR HGL HL7
       refine wpList_append_own_at _ rfl (.tmp 9) (.tmp 11) 96 rfl B 130 j0 _ 1 24 Tryz.underlying96 hj0 hy0 hy1 hy2 rfl (by omega) _ _ _ rfl H2.out ⟨u1.heap.size, 0, none⟩ 1 1 [.slice (some ⟨gt, 0, none⟩) n n] rfl rfl (cell_one_new _ _ _) (by intro u hu; simp at hu; subst hu; rfl) (by rw [HMM.out]; unfold maxLen; omega) (by rw [HMM.out]; omega) HB1.out ?_
       intro v8 w6 hown hg _ hv
       have HX6 := Lib.hid (HS1.out.tab G.out (x - fst, xs) H1.out H2.out H3.out hown hg HR1.out HGL1.out HK3.out HK4.out (by unfold maxLen; omega) hv)
       obtain ⟨A8, c8, hv8⟩ := own_slice hown
       subst hv8
       clear hown hg hv HS1 HR1 HGL1 H1 H2 H3 HB1 HM
       have c7 := HX6.out.2.1
       have f7 := HX6.out.2.2)
    | (refine wv_loadE rfl _ _ rfl rfl (Lib.hid (HL7.out _ _ _ HM.out)) ?_) | (first | (refine aVn ?_; first | (have q:dV HM = 0:=rfl;clear q HM;intro g1 u1 HG1 HM) | (have q:dV HM = 1:=rfl;clear q HM;intro g2 u2 HG2 HM) | (have q:dV HM = 2:=rfl;clear q HM;intro g3 u3 HG3 HM) | (have q:dV HM = 3:=rfl;clear q HM;intro g4 u4 HG4 HM) | (have q:dV HM = 4:=rfl;clear q HM;intro g5 u5 HG5 HM) | (have q:dV HM = 5:=rfl;clear q HM;intro g6 u6 HG6 HM)) | (refine aVl ?_) | (refine aVs ?_; clear HM; intro us HM; dsimp only [List.set] at HM) | (refine aZe ?_)))
  have HS2 := Lib.hid HX6.out.1
  generalize w6.setCell _ _ = w7 at HS2 ⊢
  clear HX6 c7 f7
  have HSd := Lib.hid (HS2.out.next (Below.drew (Below.refl _ _)))
  clear HS2
  refine wp_region_held_drew (S := fun y => y.cell? ⟨gF, i, none⟩ = some (.int .i64 x)) (by kernel_rfl) (by have h := blk_at HSd.out.sy.fr (i := i) (by rw [HLF.out]; exact hi); rw [HX.out] at h; exact h) (fun hHeld => ?_)
  have HC := Lib.hid (fun (y : World) (hy : y.cell? ⟨gF, i, none⟩ = some (.int .i64 x)) => hy)
  generalize World.drew _ = wd at HSd hHeld ⊢
  have HF := Lib.hid (fun (v6 v7 : Value) (ps6 ps7 : List Pr) (y : World) (h : LsS w gF gP gT gS B F p v6 v7 ps6 ps7 KK y) => (by have h2 := blk_at h.sy.fr (i := i) (by rw [HLF.out]; exact hi); rw [HX.out] at h2; exact h2 : y.cell? ⟨gF, i, none⟩ = some (.int .i64 x)))
  (refine tkv 1 (.pointer (some ⟨gF, i, none⟩)) rfl ?_)
  (refine tkv 2 (.pointer (some ⟨gF, i, none⟩)) rfl ?_)
  (refine tk 3 rfl (yi_cell rfl _ rfl rfl (HC).out) ?_)
  (refine tkv 4 (.int .i64 fst) rfl ?_)
  (refine tkg 5 (.int .i64 (x - fst)) rfl ?_)
  refine wpAnyH_ready (rs := [0, 6]) (by kernel_rfl) (by simp) ?_; refine AllReadyH.cons rfl (fun K hK => ?_) (AllReadyH.cons rfl (fun K hK => ?_) (AllReadyH.nil))
  rotate_left
  focus
    rw [if_pos (by rfl)]; go_simp
    have HSa := Lib.hid (HSd.out.next ((Below.refl wd.heap.size wd).alloc (Nat.le_refl _) (.cells #[.int .i64 (x - fst)] 3)))
    refine hK.out _ _ (HF.out _ _ _ _ _ HSa.out) (fun hHeld => ?_)
    clear hK K
    (try simp only [Act.put, qz1, qz2, qz3])
    have HLD := Lib.hid (run_load_one aggS (HSa.out.bS.cell 0))
    refine wpAnyH_ready (rs := [0]) (by kernel_rfl) (by simp) ?_; refine AllReadyH.cons rfl (fun K hK => ?_) (AllReadyH.nil)
    rw [if_pos (by rfl)]; refine ov_load _ _ rfl rfl (HLD.out) ?_
    refine hK.out _ _ (HF.out _ _ _ _ _ HSa.out) (fun hHeld => ?_)
    clear hK K HLD
    (try simp only [Act.put, qz1, qz2, qz3])
  rotate_left
  focus
    have HLD := Lib.hid (run_load_one aggS (HSd.out.bS.cell 0))
    rw [if_pos (by rfl)]; refine ov_load _ _ rfl rfl (HLD.out) ?_
    refine hK.out _ _ (HF.out _ _ _ _ _ HSd.out) (fun hHeld => ?_)
    clear hK K HLD
    (try simp only [Act.put, qz1, qz2, qz3])
    refine wpAnyH_ready (rs := [6]) (by kernel_rfl) (by simp) ?_; refine AllReadyH.cons rfl (fun K hK => ?_) (AllReadyH.nil)
    rw [if_pos (by rfl)]; go_simp
    have HSa := Lib.hid (HSd.out.next ((Below.refl wd.heap.size wd).alloc (Nat.le_refl _) (.cells #[.int .i64 (x - fst)] 3)))
    refine hK.out _ _ (HF.out _ _ _ _ _ HSa.out) (fun hHeld => ?_)
    clear hK K
    (try simp only [Act.put, qz1, qz2, qz3])
  all_goals
    refine wpAnyH_ready (rs := [7]) (by kernel_rfl) (by simp) ?_; refine AllReadyH.cons rfl (fun K hK => ?_) (AllReadyH.nil)
    refine step_append_lies _ rfl (.tmp 13) (.tmp 19) 23 rfl B 3 i0 _ 1 8 Tryz.underlying23 hi0 hz0 hz1 hz2 rfl (by omega) _ _ _ rfl HSa.out.sy.syms ⟨wd.heap.size, 0, none⟩ 1 1 [.int .i64 (x - fst)] rfl rfl (cell_one_new _ _ _) (by intro u hu; simp at hu; subst hu; rfl) (by omega) (by rw [HMM.out]; unfold maxLen; omega) (by rw [HMM.out]; omega) (by have := HSa.out.sy.hBu; simpa using this) _ rfl ?_
    intro g5 cap5 w4 hown1 hg1 hv1 _
    have HX4 := Lib.hid (HSa.out.sym G.out (x - fst, xs) hown1 hg1 (hv1.imp (fun h => h.symm) (fun h => by show some g5 = _; rw [h])))
    clear hown1 hg1 hv1 hHeld
    refine hK.out _ _ (by have h2 := blk_at HX4.out.2.2.2 (i := i) (by rw [HLF.out]; exact hi); rw [HX.out] at h2; exact h2) (fun hHeld => ?_)
    clear hK K
    (try simp only [Act.put, qz1, qz2, qz3])
    refine wpAnyH_ready (rs := [8]) (by kernel_rfl) (by simp) ?_; refine AllReadyH.cons rfl (fun K hK => ?_) (AllReadyH.nil)
    rw [if_pos (by rfl)]
    refine ov_storeE 23 _ _ rfl rfl rfl (run_store_row sizS HX4.out.2.1 HX4.out.2.2.1) rfl ?_
    have HS9 := Lib.hid HX4.out.1
    generalize w4.setCell _ _ = w9 at HS9 ⊢
    clear HX4 HSa HSd
    refine hK.out _ _ (HF.out _ _ _ _ _ HS9.out) (fun hHeld => ?_)
    clear hK K
    (try simp only [Act.put, qz1, qz2, qz3])
    refine wpAnyH_done (by kernel_rfl) ?_ _
    go_wp2
    go_ret
    exact ⟨rfl, _, _, HS9.out⟩
open Yr (nearN nearB chkB Fr nearN_succ chkB_iff)
theorem grdHopE : Tryz.prog.eqGuardType Tryz.prog.depth 26 = false := by kernel_rfl
theorem fnear_any (l p : List Int) (w : World) (ll : l.length = 6) (lp : p.length = 6) :
  Calls Tryz.prog 76 #[.agg (icells l), .agg (icells p)] w (ValQ w (.bool (nearB l p))) := by
 have LL := Lib.hid ll
 have LP := Lib.hid lp
 have HM := Lib.hid (Mem.start w)
 cases hl : chkL l with
 | false =>
  have HC := Lib.hid (fun u => bcheck_any l false 1 u ll hl rfl)
  rw [show nearB l p = false by unfold nearB; rw [hl]; rfl]
  clear ll lp hl
  go_enter Tryz.func76, Tryz.ntmps76
  go_wp2_with (first | (refine q8w (by rfl) ?_) | (first | (first | (refine aNw ?_; first | (have q:dL HM = 0:=rfl;clear q HM;intro g1 u1 HM) | (have q:dL HM = 1:=rfl;clear q HM;intro g2 u2 HM) | (have q:dL HM = 2:=rfl;clear q HM;intro g3 u3 HM) | (have q:dL HM = 3:=rfl;clear q HM;intro g4 u4 HM)) | (refine aLo ?_) | (refine aSt ?_; clear HM; intro us HM; dsimp only [List.set] at HM) | (refine aZe ?_)) | (refine aLs ?_) | (refine aCf ?_)))
  refine (HC.out _).mono ?_
  rintro e w2 ⟨rfl, h1⟩
  replace HM := Lib.hid (HM.out.below h1)
  clear h1 HC
  go_wp2_with (first | (refine q8w (by rfl) ?_) | (first | (first | (refine aNw ?_; first | (have q:dL HM = 0:=rfl;clear q HM;intro g1 u1 HM) | (have q:dL HM = 1:=rfl;clear q HM;intro g2 u2 HM) | (have q:dL HM = 2:=rfl;clear q HM;intro g3 u3 HM) | (have q:dL HM = 3:=rfl;clear q HM;intro g4 u4 HM)) | (refine aLo ?_) | (refine aSt ?_; clear HM; intro us HM; dsimp only [List.set] at HM) | (refine aZe ?_)) | (refine aLs ?_) | (refine aCf ?_)))
  go_ret
  exact ⟨rfl, HM.out.1⟩
 | true =>
  have HC := Lib.hid (fun u => bcheck_any l true 0 u ll hl rfl)
  cases hp : chkL p with
  | false =>
   have HD := Lib.hid (fun u => bcheck_any p false 1 u lp hp rfl)
   rw [show nearB l p = false by unfold nearB; rw [hl, hp]; rfl]
   clear ll lp hl hp
   go_enter Tryz.func76, Tryz.ntmps76
   go_wp2_with (first | (refine q8w (by rfl) ?_) | (first | (first | (refine aNw ?_; first | (have q:dL HM = 0:=rfl;clear q HM;intro g1 u1 HM) | (have q:dL HM = 1:=rfl;clear q HM;intro g2 u2 HM) | (have q:dL HM = 2:=rfl;clear q HM;intro g3 u3 HM) | (have q:dL HM = 3:=rfl;clear q HM;intro g4 u4 HM)) | (refine aLo ?_) | (refine aSt ?_; clear HM; intro us HM; dsimp only [List.set] at HM) | (refine aZe ?_)) | (refine aLs ?_) | (refine aCf ?_)))
   refine (HC.out _).mono ?_
   rintro e w2 ⟨rfl, h1⟩
   replace HM := Lib.hid (HM.out.below h1)
   clear h1 HC
   go_wp2_with (first | (refine q8w (by rfl) ?_) | (first | (first | (refine aNw ?_; first | (have q:dL HM = 0:=rfl;clear q HM;intro g1 u1 HM) | (have q:dL HM = 1:=rfl;clear q HM;intro g2 u2 HM) | (have q:dL HM = 2:=rfl;clear q HM;intro g3 u3 HM) | (have q:dL HM = 3:=rfl;clear q HM;intro g4 u4 HM)) | (refine aLo ?_) | (refine aSt ?_; clear HM; intro us HM; dsimp only [List.set] at HM) | (refine aZe ?_)) | (refine aLs ?_) | (refine aCf ?_)))
   refine (HD.out _).mono ?_
   rintro e w2 ⟨rfl, h1⟩
   replace HM := Lib.hid (HM.out.below h1)
   clear h1 HD
   go_wp2_with (first | (refine q8w (by rfl) ?_) | (first | (first | (refine aNw ?_; first | (have q:dL HM = 0:=rfl;clear q HM;intro g1 u1 HM) | (have q:dL HM = 1:=rfl;clear q HM;intro g2 u2 HM) | (have q:dL HM = 2:=rfl;clear q HM;intro g3 u3 HM) | (have q:dL HM = 3:=rfl;clear q HM;intro g4 u4 HM)) | (refine aLo ?_) | (refine aSt ?_; clear HM; intro us HM; dsimp only [List.set] at HM) | (refine aZe ?_)) | (refine aLs ?_) | (refine aCf ?_)))
   go_ret
   exact ⟨rfl, HM.out.1⟩
  | true =>
   have HD := Lib.hid (fun u => bcheck_any p true 0 u lp hp rfl)
   have HV := Lib.hid (show nearB l p = nearN l p 6 by unfold nearB; rw [hl, hp]; rfl)
   have H1 := Lib.hid (fun k => inR_bd hl (by omega) (by omega) k)
   have H2 := Lib.hid (fun k => inR_bd hp (by omega) (by omega) k)
   generalize nearB l p = V at HV
   clear ll lp hl hp
   go_enter Tryz.func76, Tryz.ntmps76
   go_wp2_with (first | (refine q8w (by rfl) ?_) | (first | (first | (refine aNw ?_; first | (have q:dL HM = 0:=rfl;clear q HM;intro g1 u1 HM) | (have q:dL HM = 1:=rfl;clear q HM;intro g2 u2 HM) | (have q:dL HM = 2:=rfl;clear q HM;intro g3 u3 HM) | (have q:dL HM = 3:=rfl;clear q HM;intro g4 u4 HM)) | (refine aLo ?_) | (refine aSt ?_; clear HM; intro us HM; dsimp only [List.set] at HM) | (refine aZe ?_)) | (refine aLs ?_) | (refine aCf ?_)))
   refine (HC.out _).mono ?_
   rintro e w2 ⟨rfl, h1⟩
   replace HM := Lib.hid (HM.out.below h1)
   clear h1 HC
   go_wp2_with (first | (refine q8w (by rfl) ?_) | (first | (first | (refine aNw ?_; first | (have q:dL HM = 0:=rfl;clear q HM;intro g1 u1 HM) | (have q:dL HM = 1:=rfl;clear q HM;intro g2 u2 HM) | (have q:dL HM = 2:=rfl;clear q HM;intro g3 u3 HM) | (have q:dL HM = 3:=rfl;clear q HM;intro g4 u4 HM)) | (refine aLo ?_) | (refine aSt ?_; clear HM; intro us HM; dsimp only [List.set] at HM) | (refine aZe ?_)) | (refine aLs ?_) | (refine aCf ?_)))
   refine (HD.out _).mono ?_
   rintro e w2 ⟨rfl, h1⟩
   replace HM := Lib.hid (HM.out.below h1)
   clear h1 HD
   go_wp2_with (first | (refine q8w (by rfl) ?_) | (first | (first | (refine aNw ?_; first | (have q:dL HM = 0:=rfl;clear q HM;intro g1 u1 HM) | (have q:dL HM = 1:=rfl;clear q HM;intro g2 u2 HM) | (have q:dL HM = 2:=rfl;clear q HM;intro g3 u3 HM) | (have q:dL HM = 3:=rfl;clear q HM;intro g4 u4 HM)) | (refine aLo ?_) | (refine aSt ?_; clear HM; intro us HM; dsimp only [List.set] at HM) | (refine aZe ?_)) | (refine aLs ?_) | (refine aCf ?_)))
   go_loopw [16] (fun vi wr => ∃ k : Nat, k ≤ 6 ∧ vi = .int .i64 (k : Int) ∧ nearN l p k = true ∧ Hid (Mem w [(g2, 29, p), (g1, 29, l)] wr)) (fun vi _ => 6 - (intOf vi).toNat)
   case atStart => exact ⟨0, by omega, rfl, rfl, HM⟩
   case round =>
    clear HM
    obtain ⟨k, hk, rfl, hn, HM⟩ := hrel
    by_cases hlt : k < 6
    ·have k6 : (k : Int) < 6 := by omega
     have HS := Lib.hid (nearN_succ l p k)
     have HN := Lib.hid (fun h => near_mono (l := l) (p := p) (k := k + 1) (n := 6) (by omega) h)
     rw [hn, Bool.true_and] at HS
     have c1 := run_index 29 (n := 6) (by kernel_rfl) l LL.out k hlt
     have c2 := HM.out.cell (.head _) (k := k) (by rw [LP.out]; exact hlt)
     obtain ⟨x1, x2⟩ := H1.out k
     obtain ⟨y1, y2⟩ := H2.out k
     generalize l.getD k 0 = x at c1 HS x1 x2
     generalize p.getD k 0 = y at c2 HS y1 y2
     have w1 : IntKind.i64.wrap (y - 8) = y - 8 := i64_w (by omega) (by omega)
     have w2 : IntKind.i64.wrap (y + 7) = y + 7 := i64_w (by omega) (by omega)
     clear hn x1 x2 y1 y2
     by_cases h1 : y - 8 ≤ x
     ·have d1 : decide (x < y - 8) = false := decide_eq_false (by omega)
      by_cases h2 : x ≤ y + 7
      ·have d2 : decide (y + 7 < x) = false := decide_eq_false (by omega)
       rw [decide_eq_true h1, decide_eq_true h2] at HS
       clear h1 h2 HN
       go_wp2_with (refine q8w (by rfl) ?_)
       clear c1 c2 w1 w2 d1 d2
       go_roundw
       case rel => exact ⟨k + 1, by omega, by go_num, by rw [HS.out]; rfl, HM⟩
       case measure => simp [intOf]; omega
      ·have d2 : decide (y + 7 < x) = true := decide_eq_true (by omega)
       rw [decide_eq_true h1, decide_eq_false h2] at HS
       have HF := Lib.hid (HN.out HS.out)
       rw [← HV.out] at HF
       have e := HF.out
       subst e
       clear h1 h2 HN HS
       go_wp2_with (refine q8w (by rfl) ?_)
       clear c1 c2 w1 w2 d1 d2
       go_ret
       exact ⟨rfl, HM.out.1⟩
     ·have d1 : decide (x < y - 8) = true := decide_eq_true (by omega)
      rw [decide_eq_false h1, Bool.false_and] at HS
      have HF := Lib.hid (HN.out HS.out)
      rw [← HV.out] at HF
      have e := HF.out
      subst e
      clear h1 HN HS
      go_wp2_with (refine q8w (by rfl) ?_)
      clear c1 c2 w1 w2 d1
      go_ret
      exact ⟨rfl, HM.out.1⟩
    ·obtain rfl : k = 6 := by omega
     rw [← HV.out] at hn
     subst hn
     go_wp2_with fail
     go_ret
     exact ⟨rfl, HM.out.1⟩
theorem isKind_yes (K : Int) (w : World) (h : 0 ≤ K ∧ K ≤ 2) :
  Calls Tryz.prog 74 #[.int .i64 K] w (ValQ w (.bool true)) := by
 obtain rfl | rfl | rfl : K = 0 ∨ K = 1 ∨ K = 2 := by omega
 all_goals
  go_enter Tryz.func74, Tryz.ntmps74
  go_wp2
  go_ret
  exact ⟨rfl, Below.refl _ _⟩
theorem isKind_no (K : Int) (w : World) (h : ¬ (0 ≤ K ∧ K ≤ 2)) :
  Calls Tryz.prog 74 #[.int .i64 K] w (ValQ w (.bool false)) := by
 have a0 : (K == 0) = false := by simp; omega
 have a1 : (K == 1) = false := by simp; omega
 have a2 : (K == 2) = false := by simp; omega
 clear h
 go_enter Tryz.func74, Tryz.ntmps74
 go_wp2
 go_ret
 exact ⟨rfl, Below.refl _ _⟩
theorem fc_p (F : List Int) (K : Int) (l q p : List Int) (w : World) (hF : FrS F K l q) (lp : p.length = 6) (he : Edg w) (hp : chkL p = false) :
  Calls Tryz.prog 51 #[.agg (icells F), .agg (icells p)] w (ValQ w (.int .i64 1)) := by
 have LF := Lib.hid hF.len
 have LL := Lib.hid hF.ll
 have LQ := Lib.hid hF.lq
 have LP := Lib.hid lp
 have CK := Lib.hid (show 0 < F.length ∧ F.getD 0 0 = K from ⟨by rw [hF.len]; decide, hF.k0⟩)
 have SL := Lib.hid hF.lev
 have SQ := Lib.hid hF.num
 have HM := Lib.hid (Mem.start w)
 have HE := Lib.hid he
 have HC := Lib.hid (fun u => bcheck_any p false 1 u lp hp rfl)
 clear hF lp he hp
 go_enter Tryz.func51, Tryz.ntmps51
 go_wp2_with (first | (refine q8w (by rfl) ?_) | (first | (first | (refine aNw ?_; first | (have q:dL HM = 0:=rfl;clear q HM;intro g1 u1 HM) | (have q:dL HM = 1:=rfl;clear q HM;intro g2 u2 HM) | (have q:dL HM = 2:=rfl;clear q HM;intro g3 u3 HM) | (have q:dL HM = 3:=rfl;clear q HM;intro g4 u4 HM)) | (refine aLo ?_) | (refine aSt ?_; clear HM; intro us HM; dsimp only [List.set] at HM) | (refine aZe ?_)) | (refine aLs ?_) | (refine aCf ?_)))
 refine (HC.out _).mono ?_
 rintro e w2 ⟨rfl, h1⟩
 replace HM := Lib.hid (HM.out.below h1)
 clear h1 HC
 go_wp2_with (first | (refine q8w (by rfl) ?_) | (first | (first | (refine aNw ?_; first | (have q:dL HM = 0:=rfl;clear q HM;intro g1 u1 HM) | (have q:dL HM = 1:=rfl;clear q HM;intro g2 u2 HM) | (have q:dL HM = 2:=rfl;clear q HM;intro g3 u3 HM) | (have q:dL HM = 3:=rfl;clear q HM;intro g4 u4 HM)) | (refine aLo ?_) | (refine aSt ?_; clear HM; intro us HM; dsimp only [List.set] at HM) | (refine aZe ?_)) | (refine aLs ?_) | (refine aCf ?_)))
 go_ret
 exact ⟨rfl, HM.out.1⟩
theorem fc_kind (F : List Int) (K : Int) (l q p : List Int) (w : World) (hF : FrS F K l q) (lp : p.length = 6) (he : Edg w) (hp : chkL p = true) (hK : ¬ (0 ≤ K ∧ K ≤ 2)) :
  Calls Tryz.prog 51 #[.agg (icells F), .agg (icells p)] w (ValQ w (.int .i64 1)) := by
 have LF := Lib.hid hF.len
 have LL := Lib.hid hF.ll
 have LQ := Lib.hid hF.lq
 have LP := Lib.hid lp
 have CK := Lib.hid (show 0 < F.length ∧ F.getD 0 0 = K from ⟨by rw [hF.len]; decide, hF.k0⟩)
 have SL := Lib.hid hF.lev
 have SQ := Lib.hid hF.num
 have HM := Lib.hid (Mem.start w)
 have HE := Lib.hid he
 have HC := Lib.hid (fun u => bcheck_any p true 0 u lp hp rfl)
 have HK := Lib.hid (fun u => isKind_no K u hK)
 clear hF lp he hp hK
 go_enter Tryz.func51, Tryz.ntmps51
 go_wp2_with (first | (refine q8w (by rfl) ?_) | (first | (first | (refine aNw ?_; first | (have q:dL HM = 0:=rfl;clear q HM;intro g1 u1 HM) | (have q:dL HM = 1:=rfl;clear q HM;intro g2 u2 HM) | (have q:dL HM = 2:=rfl;clear q HM;intro g3 u3 HM) | (have q:dL HM = 3:=rfl;clear q HM;intro g4 u4 HM)) | (refine aLo ?_) | (refine aSt ?_; clear HM; intro us HM; dsimp only [List.set] at HM) | (refine aZe ?_)) | (refine aLs ?_) | (refine aCf ?_)))
 refine (HC.out _).mono ?_
 rintro e w2 ⟨rfl, h1⟩
 replace HM := Lib.hid (HM.out.below h1)
 clear h1 HC
 go_wp2_with (first | (refine q8w (by rfl) ?_) | (first | (first | (refine aNw ?_; first | (have q:dL HM = 0:=rfl;clear q HM;intro g1 u1 HM) | (have q:dL HM = 1:=rfl;clear q HM;intro g2 u2 HM) | (have q:dL HM = 2:=rfl;clear q HM;intro g3 u3 HM) | (have q:dL HM = 3:=rfl;clear q HM;intro g4 u4 HM)) | (refine aLo ?_) | (refine aSt ?_; clear HM; intro us HM; dsimp only [List.set] at HM) | (refine aZe ?_)) | (refine aLs ?_) | (refine aCf ?_)))
 refine (HK.out _).mono ?_
 rintro e w2 ⟨rfl, h1⟩
 replace HM := Lib.hid (HM.out.below h1)
 clear h1 HK
 go_wp2_with (first | (refine q8w (by rfl) ?_) | (first | (first | (refine aNw ?_; first | (have q:dL HM = 0:=rfl;clear q HM;intro g1 u1 HM) | (have q:dL HM = 1:=rfl;clear q HM;intro g2 u2 HM) | (have q:dL HM = 2:=rfl;clear q HM;intro g3 u3 HM) | (have q:dL HM = 3:=rfl;clear q HM;intro g4 u4 HM)) | (refine aLo ?_) | (refine aSt ?_; clear HM; intro us HM; dsimp only [List.set] at HM) | (refine aZe ?_)) | (refine aLs ?_) | (refine aCf ?_)))
 go_ret
 exact ⟨rfl, HM.out.1⟩
theorem fc_may (F : List Int) (K : Int) (l q p : List Int) (w : World) (hF : FrS F K l q) (lp : p.length = 6) (he : Edg w) (hp : chkL p = true) (hK : 0 ≤ K ∧ K ≤ 2) (hm : mayB q l = false) :
  Calls Tryz.prog 51 #[.agg (icells F), .agg (icells p)] w (ValQ w (.int .i64 1)) := by
 have LF := Lib.hid hF.len
 have LL := Lib.hid hF.ll
 have LQ := Lib.hid hF.lq
 have LP := Lib.hid lp
 have CK := Lib.hid (show 0 < F.length ∧ F.getD 0 0 = K from ⟨by rw [hF.len]; decide, hF.k0⟩)
 have SL := Lib.hid hF.lev
 have SQ := Lib.hid hF.num
 have HM := Lib.hid (Mem.start w)
 have HE := Lib.hid he
 have HC := Lib.hid (fun u => bcheck_any p true 0 u lp hp rfl)
 have HK := Lib.hid (fun u => isKind_yes K u hK)
 have HY := Lib.hid (fun u (hu : Edg u) => qmay_any q l u hF.lq hF.ll hu); rw [hm] at HY
 clear hF lp he hp hK hm
 go_enter Tryz.func51, Tryz.ntmps51
 go_wp2_with (first | (refine q8w (by rfl) ?_) | (first | (first | (refine aNw ?_; first | (have q:dL HM = 0:=rfl;clear q HM;intro g1 u1 HM) | (have q:dL HM = 1:=rfl;clear q HM;intro g2 u2 HM) | (have q:dL HM = 2:=rfl;clear q HM;intro g3 u3 HM) | (have q:dL HM = 3:=rfl;clear q HM;intro g4 u4 HM)) | (refine aLo ?_) | (refine aSt ?_; clear HM; intro us HM; dsimp only [List.set] at HM) | (refine aZe ?_)) | (refine aLs ?_) | (refine aCf ?_)))
 refine (HC.out _).mono ?_
 rintro e w2 ⟨rfl, h1⟩
 replace HM := Lib.hid (HM.out.below h1)
 clear h1 HC
 go_wp2_with (first | (refine q8w (by rfl) ?_) | (first | (first | (refine aNw ?_; first | (have q:dL HM = 0:=rfl;clear q HM;intro g1 u1 HM) | (have q:dL HM = 1:=rfl;clear q HM;intro g2 u2 HM) | (have q:dL HM = 2:=rfl;clear q HM;intro g3 u3 HM) | (have q:dL HM = 3:=rfl;clear q HM;intro g4 u4 HM)) | (refine aLo ?_) | (refine aSt ?_; clear HM; intro us HM; dsimp only [List.set] at HM) | (refine aZe ?_)) | (refine aLs ?_) | (refine aCf ?_)))
 refine (HK.out _).mono ?_
 rintro e w2 ⟨rfl, h1⟩
 replace HM := Lib.hid (HM.out.below h1)
 clear h1 HK
 go_wp2_with (first | (refine q8w (by rfl) ?_) | (first | (first | (refine aNw ?_; first | (have q:dL HM = 0:=rfl;clear q HM;intro g1 u1 HM) | (have q:dL HM = 1:=rfl;clear q HM;intro g2 u2 HM) | (have q:dL HM = 2:=rfl;clear q HM;intro g3 u3 HM) | (have q:dL HM = 3:=rfl;clear q HM;intro g4 u4 HM)) | (refine aLo ?_) | (refine aSt ?_; clear HM; intro us HM; dsimp only [List.set] at HM) | (refine aZe ?_)) | (refine aLs ?_) | (refine aCf ?_)))
 refine (HY.out _ (HE.out.mem HM.out)).mono ?_
 rintro e w2 ⟨rfl, h1⟩
 replace HM := Lib.hid (HM.out.below h1)
 clear h1 HY
 go_wp2_with (first | (refine q8w (by rfl) ?_) | (first | (first | (refine aNw ?_; first | (have q:dL HM = 0:=rfl;clear q HM;intro g1 u1 HM) | (have q:dL HM = 1:=rfl;clear q HM;intro g2 u2 HM) | (have q:dL HM = 2:=rfl;clear q HM;intro g3 u3 HM) | (have q:dL HM = 3:=rfl;clear q HM;intro g4 u4 HM)) | (refine aLo ?_) | (refine aSt ?_; clear HM; intro us HM; dsimp only [List.set] at HM) | (refine aZe ?_)) | (refine aLs ?_) | (refine aCf ?_)))
 go_ret
 exact ⟨rfl, HM.out.1⟩
theorem fc_zero (F : List Int) (K : Int) (l q p : List Int) (w : World) (hF : FrS F K l q) (lp : p.length = 6) (he : Edg w) (hp : chkL p = true) (hK : 0 ≤ K ∧ K ≤ 2) (hm : mayB q l = true) (hk : K = 0) :
  Calls Tryz.prog 51 #[.agg (icells F), .agg (icells p)] w (ValQ w (.int .i64 0)) := by
 have LF := Lib.hid hF.len
 have LL := Lib.hid hF.ll
 have LQ := Lib.hid hF.lq
 have LP := Lib.hid lp
 have CK := Lib.hid (show 0 < F.length ∧ F.getD 0 0 = K from ⟨by rw [hF.len]; decide, hF.k0⟩)
 have SL := Lib.hid hF.lev
 have SQ := Lib.hid hF.num
 have HM := Lib.hid (Mem.start w)
 have HE := Lib.hid he
 have HC := Lib.hid (fun u => bcheck_any p true 0 u lp hp rfl)
 have HK := Lib.hid (fun u => isKind_yes K u hK)
 have HY := Lib.hid (fun u (hu : Edg u) => qmay_any q l u hF.lq hF.ll hu); rw [hm] at HY
 have a1 : (K == 1) = false := by rw [hk]; rfl
 have a2 : (K == 2) = false := by rw [hk]; rfl
 have t3 : decide (K = 1) = false := decide_eq_false (by omega)
 have t4 : decide (K = 2) = false := decide_eq_false (by omega)
 clear hk
 clear hF lp he hp hK hm
 go_enter Tryz.func51, Tryz.ntmps51
 go_wp2_with (first | (refine q8w (by rfl) ?_) | (first | (first | (refine aNw ?_; first | (have q:dL HM = 0:=rfl;clear q HM;intro g1 u1 HM) | (have q:dL HM = 1:=rfl;clear q HM;intro g2 u2 HM) | (have q:dL HM = 2:=rfl;clear q HM;intro g3 u3 HM) | (have q:dL HM = 3:=rfl;clear q HM;intro g4 u4 HM)) | (refine aLo ?_) | (refine aSt ?_; clear HM; intro us HM; dsimp only [List.set] at HM) | (refine aZe ?_)) | (refine aLs ?_) | (refine aCf ?_)))
 refine (HC.out _).mono ?_
 rintro e w2 ⟨rfl, h1⟩
 replace HM := Lib.hid (HM.out.below h1)
 clear h1 HC
 go_wp2_with (first | (refine q8w (by rfl) ?_) | (first | (first | (refine aNw ?_; first | (have q:dL HM = 0:=rfl;clear q HM;intro g1 u1 HM) | (have q:dL HM = 1:=rfl;clear q HM;intro g2 u2 HM) | (have q:dL HM = 2:=rfl;clear q HM;intro g3 u3 HM) | (have q:dL HM = 3:=rfl;clear q HM;intro g4 u4 HM)) | (refine aLo ?_) | (refine aSt ?_; clear HM; intro us HM; dsimp only [List.set] at HM) | (refine aZe ?_)) | (refine aLs ?_) | (refine aCf ?_)))
 refine (HK.out _).mono ?_
 rintro e w2 ⟨rfl, h1⟩
 replace HM := Lib.hid (HM.out.below h1)
 clear h1 HK
 go_wp2_with (first | (refine q8w (by rfl) ?_) | (first | (first | (refine aNw ?_; first | (have q:dL HM = 0:=rfl;clear q HM;intro g1 u1 HM) | (have q:dL HM = 1:=rfl;clear q HM;intro g2 u2 HM) | (have q:dL HM = 2:=rfl;clear q HM;intro g3 u3 HM) | (have q:dL HM = 3:=rfl;clear q HM;intro g4 u4 HM)) | (refine aLo ?_) | (refine aSt ?_; clear HM; intro us HM; dsimp only [List.set] at HM) | (refine aZe ?_)) | (refine aLs ?_) | (refine aCf ?_)))
 refine (HY.out _ (HE.out.mem HM.out)).mono ?_
 rintro e w2 ⟨rfl, h1⟩
 replace HM := Lib.hid (HM.out.below h1)
 clear h1 HY
 go_wp2_with (first | (refine q8w (by rfl) ?_) | (first | (first | (refine aNw ?_; first | (have q:dL HM = 0:=rfl;clear q HM;intro g1 u1 HM) | (have q:dL HM = 1:=rfl;clear q HM;intro g2 u2 HM) | (have q:dL HM = 2:=rfl;clear q HM;intro g3 u3 HM) | (have q:dL HM = 3:=rfl;clear q HM;intro g4 u4 HM)) | (refine aLo ?_) | (refine aSt ?_; clear HM; intro us HM; dsimp only [List.set] at HM) | (refine aZe ?_)) | (refine aLs ?_) | (refine aCf ?_)))
 go_ret
 exact ⟨rfl, HM.out.1⟩
theorem fc_near (F : List Int) (K : Int) (l q p : List Int) (w : World) (hF : FrS F K l q) (lp : p.length = 6) (he : Edg w) (hp : chkL p = true) (hK : 0 ≤ K ∧ K ≤ 2) (hm : mayB q l = true) (hn : nearB l p = true) (hk : K = 1) :
  Calls Tryz.prog 51 #[.agg (icells F), .agg (icells p)] w (ValQ w (.int .i64 0)) := by
 have LF := Lib.hid hF.len
 have LL := Lib.hid hF.ll
 have LQ := Lib.hid hF.lq
 have LP := Lib.hid lp
 have CK := Lib.hid (show 0 < F.length ∧ F.getD 0 0 = K from ⟨by rw [hF.len]; decide, hF.k0⟩)
 have SL := Lib.hid hF.lev
 have SQ := Lib.hid hF.num
 have HM := Lib.hid (Mem.start w)
 have HE := Lib.hid he
 have HC := Lib.hid (fun u => bcheck_any p true 0 u lp hp rfl)
 have HK := Lib.hid (fun u => isKind_yes K u hK)
 have HY := Lib.hid (fun u (hu : Edg u) => qmay_any q l u hF.lq hF.ll hu); rw [hm] at HY
 have HN := Lib.hid (fun u => fnear_any l p u hF.ll lp); rw [hn] at HN
 have a1 : (K == 1) = true := by rw [hk]; rfl
 have a2 : (K == 2) = false := by rw [hk]; rfl
 have t3 : decide (K = 1) = true := decide_eq_true (by omega)
 have t4 : decide (K = 2) = false := decide_eq_false (by omega)
 clear hk
 clear hF lp he hp hK hm hn
 go_enter Tryz.func51, Tryz.ntmps51
 go_wp2_with (first | (refine q8w (by rfl) ?_) | (first | (first | (refine aNw ?_; first | (have q:dL HM = 0:=rfl;clear q HM;intro g1 u1 HM) | (have q:dL HM = 1:=rfl;clear q HM;intro g2 u2 HM) | (have q:dL HM = 2:=rfl;clear q HM;intro g3 u3 HM) | (have q:dL HM = 3:=rfl;clear q HM;intro g4 u4 HM)) | (refine aLo ?_) | (refine aSt ?_; clear HM; intro us HM; dsimp only [List.set] at HM) | (refine aZe ?_)) | (refine aLs ?_) | (refine aCf ?_)))
 refine (HC.out _).mono ?_
 rintro e w2 ⟨rfl, h1⟩
 replace HM := Lib.hid (HM.out.below h1)
 clear h1 HC
 go_wp2_with (first | (refine q8w (by rfl) ?_) | (first | (first | (refine aNw ?_; first | (have q:dL HM = 0:=rfl;clear q HM;intro g1 u1 HM) | (have q:dL HM = 1:=rfl;clear q HM;intro g2 u2 HM) | (have q:dL HM = 2:=rfl;clear q HM;intro g3 u3 HM) | (have q:dL HM = 3:=rfl;clear q HM;intro g4 u4 HM)) | (refine aLo ?_) | (refine aSt ?_; clear HM; intro us HM; dsimp only [List.set] at HM) | (refine aZe ?_)) | (refine aLs ?_) | (refine aCf ?_)))
 refine (HK.out _).mono ?_
 rintro e w2 ⟨rfl, h1⟩
 replace HM := Lib.hid (HM.out.below h1)
 clear h1 HK
 go_wp2_with (first | (refine q8w (by rfl) ?_) | (first | (first | (refine aNw ?_; first | (have q:dL HM = 0:=rfl;clear q HM;intro g1 u1 HM) | (have q:dL HM = 1:=rfl;clear q HM;intro g2 u2 HM) | (have q:dL HM = 2:=rfl;clear q HM;intro g3 u3 HM) | (have q:dL HM = 3:=rfl;clear q HM;intro g4 u4 HM)) | (refine aLo ?_) | (refine aSt ?_; clear HM; intro us HM; dsimp only [List.set] at HM) | (refine aZe ?_)) | (refine aLs ?_) | (refine aCf ?_)))
 refine (HY.out _ (HE.out.mem HM.out)).mono ?_
 rintro e w2 ⟨rfl, h1⟩
 replace HM := Lib.hid (HM.out.below h1)
 clear h1 HY
 go_wp2_with (first | (refine q8w (by rfl) ?_) | (first | (first | (refine aNw ?_; first | (have q:dL HM = 0:=rfl;clear q HM;intro g1 u1 HM) | (have q:dL HM = 1:=rfl;clear q HM;intro g2 u2 HM) | (have q:dL HM = 2:=rfl;clear q HM;intro g3 u3 HM) | (have q:dL HM = 3:=rfl;clear q HM;intro g4 u4 HM)) | (refine aLo ?_) | (refine aSt ?_; clear HM; intro us HM; dsimp only [List.set] at HM) | (refine aZe ?_)) | (refine aLs ?_) | (refine aCf ?_)))
 refine (HN.out _).mono ?_
 rintro e w2 ⟨rfl, h1⟩
 replace HM := Lib.hid (HM.out.below h1)
 clear h1 HN
 go_wp2_with (first | (refine q8w (by rfl) ?_) | (first | (first | (refine aNw ?_; first | (have q:dL HM = 0:=rfl;clear q HM;intro g1 u1 HM) | (have q:dL HM = 1:=rfl;clear q HM;intro g2 u2 HM) | (have q:dL HM = 2:=rfl;clear q HM;intro g3 u3 HM) | (have q:dL HM = 3:=rfl;clear q HM;intro g4 u4 HM)) | (refine aLo ?_) | (refine aSt ?_; clear HM; intro us HM; dsimp only [List.set] at HM) | (refine aZe ?_)) | (refine aLs ?_) | (refine aCf ?_)))
 go_ret
 exact ⟨rfl, HM.out.1⟩
theorem fc_far (F : List Int) (K : Int) (l q p : List Int) (w : World) (hF : FrS F K l q) (lp : p.length = 6) (he : Edg w) (hp : chkL p = true) (hK : 0 ≤ K ∧ K ≤ 2) (hm : mayB q l = true) (hn : nearB l p = false) (hk : K = 1) :
  Calls Tryz.prog 51 #[.agg (icells F), .agg (icells p)] w (ValQ w (.int .i64 1)) := by
 have LF := Lib.hid hF.len
 have LL := Lib.hid hF.ll
 have LQ := Lib.hid hF.lq
 have LP := Lib.hid lp
 have CK := Lib.hid (show 0 < F.length ∧ F.getD 0 0 = K from ⟨by rw [hF.len]; decide, hF.k0⟩)
 have SL := Lib.hid hF.lev
 have SQ := Lib.hid hF.num
 have HM := Lib.hid (Mem.start w)
 have HE := Lib.hid he
 have HC := Lib.hid (fun u => bcheck_any p true 0 u lp hp rfl)
 have HK := Lib.hid (fun u => isKind_yes K u hK)
 have HY := Lib.hid (fun u (hu : Edg u) => qmay_any q l u hF.lq hF.ll hu); rw [hm] at HY
 have HN := Lib.hid (fun u => fnear_any l p u hF.ll lp); rw [hn] at HN
 have a1 : (K == 1) = true := by rw [hk]; rfl
 have a2 : (K == 2) = false := by rw [hk]; rfl
 have t3 : decide (K = 1) = true := decide_eq_true (by omega)
 have t4 : decide (K = 2) = false := decide_eq_false (by omega)
 clear hk
 clear hF lp he hp hK hm hn
 go_enter Tryz.func51, Tryz.ntmps51
 go_wp2_with (first | (refine q8w (by rfl) ?_) | (first | (first | (refine aNw ?_; first | (have q:dL HM = 0:=rfl;clear q HM;intro g1 u1 HM) | (have q:dL HM = 1:=rfl;clear q HM;intro g2 u2 HM) | (have q:dL HM = 2:=rfl;clear q HM;intro g3 u3 HM) | (have q:dL HM = 3:=rfl;clear q HM;intro g4 u4 HM)) | (refine aLo ?_) | (refine aSt ?_; clear HM; intro us HM; dsimp only [List.set] at HM) | (refine aZe ?_)) | (refine aLs ?_) | (refine aCf ?_)))
 refine (HC.out _).mono ?_
 rintro e w2 ⟨rfl, h1⟩
 replace HM := Lib.hid (HM.out.below h1)
 clear h1 HC
 go_wp2_with (first | (refine q8w (by rfl) ?_) | (first | (first | (refine aNw ?_; first | (have q:dL HM = 0:=rfl;clear q HM;intro g1 u1 HM) | (have q:dL HM = 1:=rfl;clear q HM;intro g2 u2 HM) | (have q:dL HM = 2:=rfl;clear q HM;intro g3 u3 HM) | (have q:dL HM = 3:=rfl;clear q HM;intro g4 u4 HM)) | (refine aLo ?_) | (refine aSt ?_; clear HM; intro us HM; dsimp only [List.set] at HM) | (refine aZe ?_)) | (refine aLs ?_) | (refine aCf ?_)))
 refine (HK.out _).mono ?_
 rintro e w2 ⟨rfl, h1⟩
 replace HM := Lib.hid (HM.out.below h1)
 clear h1 HK
 go_wp2_with (first | (refine q8w (by rfl) ?_) | (first | (first | (refine aNw ?_; first | (have q:dL HM = 0:=rfl;clear q HM;intro g1 u1 HM) | (have q:dL HM = 1:=rfl;clear q HM;intro g2 u2 HM) | (have q:dL HM = 2:=rfl;clear q HM;intro g3 u3 HM) | (have q:dL HM = 3:=rfl;clear q HM;intro g4 u4 HM)) | (refine aLo ?_) | (refine aSt ?_; clear HM; intro us HM; dsimp only [List.set] at HM) | (refine aZe ?_)) | (refine aLs ?_) | (refine aCf ?_)))
 refine (HY.out _ (HE.out.mem HM.out)).mono ?_
 rintro e w2 ⟨rfl, h1⟩
 replace HM := Lib.hid (HM.out.below h1)
 clear h1 HY
 go_wp2_with (first | (refine q8w (by rfl) ?_) | (first | (first | (refine aNw ?_; first | (have q:dL HM = 0:=rfl;clear q HM;intro g1 u1 HM) | (have q:dL HM = 1:=rfl;clear q HM;intro g2 u2 HM) | (have q:dL HM = 2:=rfl;clear q HM;intro g3 u3 HM) | (have q:dL HM = 3:=rfl;clear q HM;intro g4 u4 HM)) | (refine aLo ?_) | (refine aSt ?_; clear HM; intro us HM; dsimp only [List.set] at HM) | (refine aZe ?_)) | (refine aLs ?_) | (refine aCf ?_)))
 refine (HN.out _).mono ?_
 rintro e w2 ⟨rfl, h1⟩
 replace HM := Lib.hid (HM.out.below h1)
 clear h1 HN
 go_wp2
 go_ret
 exact ⟨rfl, HM.out.1⟩
theorem fc_sid (F : List Int) (K : Int) (l q p : List Int) (w : World) (hF : FrS F K l q) (lp : p.length = 6) (he : Edg w) (hp : chkL p = true) (hK : 0 ≤ K ∧ K ≤ 2) (hm : mayB q l = true) (hq : q = zr 16) (hk : K = 2) :
  Calls Tryz.prog 51 #[.agg (icells F), .agg (icells p)] w (ValQ w (.int .i64 0)) := by
 have LF := Lib.hid hF.len
 have LL := Lib.hid hF.ll
 have LQ := Lib.hid hF.lq
 have LP := Lib.hid lp
 have CK := Lib.hid (show 0 < F.length ∧ F.getD 0 0 = K from ⟨by rw [hF.len]; decide, hF.k0⟩)
 have SL := Lib.hid hF.lev
 have SQ := Lib.hid hF.num
 have HM := Lib.hid (Mem.start w)
 have HE := Lib.hid he
 have HC := Lib.hid (fun u => bcheck_any p true 0 u lp hp rfl)
 have HK := Lib.hid (fun u => isKind_yes K u hK)
 have HY := Lib.hid (fun u (hu : Edg u) => qmay_any q l u hF.lq hF.ll hu); rw [hm] at HY
 have hgd := grdHopE; have heq : ∀ u, (Op.equalIn 10000 26 (.agg (icells q)) (.agg (icells (zr 16)))).run Tryz.prog u = .ok true u := fun u => by rw [hq]; exact run_equalIn_same 26 (n := 16) (by kernel_rfl) (zr 16) (zr_length 16) u
 have a1 : (K == 1) = false := by rw [hk]; rfl
 have a2 : (K == 2) = true := by rw [hk]; rfl
 have t3 : decide (K = 1) = false := decide_eq_false (by omega)
 have t4 : decide (K = 2) = true := decide_eq_true (by omega)
 clear hk
 clear hF lp he hp hK hm hq
 go_enter Tryz.func51, Tryz.ntmps51
 go_wp2_with (first | (refine q8w (by rfl) ?_) | (first | (first | (refine aNw ?_; first | (have q:dL HM = 0:=rfl;clear q HM;intro g1 u1 HM) | (have q:dL HM = 1:=rfl;clear q HM;intro g2 u2 HM) | (have q:dL HM = 2:=rfl;clear q HM;intro g3 u3 HM) | (have q:dL HM = 3:=rfl;clear q HM;intro g4 u4 HM)) | (refine aLo ?_) | (refine aSt ?_; clear HM; intro us HM; dsimp only [List.set] at HM) | (refine aZe ?_)) | (refine aLs ?_) | (refine aCf ?_)))
 refine (HC.out _).mono ?_
 rintro e w2 ⟨rfl, h1⟩
 replace HM := Lib.hid (HM.out.below h1)
 clear h1 HC
 go_wp2_with (first | (refine q8w (by rfl) ?_) | (first | (first | (refine aNw ?_; first | (have q:dL HM = 0:=rfl;clear q HM;intro g1 u1 HM) | (have q:dL HM = 1:=rfl;clear q HM;intro g2 u2 HM) | (have q:dL HM = 2:=rfl;clear q HM;intro g3 u3 HM) | (have q:dL HM = 3:=rfl;clear q HM;intro g4 u4 HM)) | (refine aLo ?_) | (refine aSt ?_; clear HM; intro us HM; dsimp only [List.set] at HM) | (refine aZe ?_)) | (refine aLs ?_) | (refine aCf ?_)))
 refine (HK.out _).mono ?_
 rintro e w2 ⟨rfl, h1⟩
 replace HM := Lib.hid (HM.out.below h1)
 clear h1 HK
 go_wp2_with (first | (refine q8w (by rfl) ?_) | (first | (first | (refine aNw ?_; first | (have q:dL HM = 0:=rfl;clear q HM;intro g1 u1 HM) | (have q:dL HM = 1:=rfl;clear q HM;intro g2 u2 HM) | (have q:dL HM = 2:=rfl;clear q HM;intro g3 u3 HM) | (have q:dL HM = 3:=rfl;clear q HM;intro g4 u4 HM)) | (refine aLo ?_) | (refine aSt ?_; clear HM; intro us HM; dsimp only [List.set] at HM) | (refine aZe ?_)) | (refine aLs ?_) | (refine aCf ?_)))
 refine (HY.out _ (HE.out.mem HM.out)).mono ?_
 rintro e w2 ⟨rfl, h1⟩
 replace HM := Lib.hid (HM.out.below h1)
 clear h1 HY
 go_wp2_with (first | (refine q8w (by rfl) ?_) | (first | (first | (refine aNw ?_; first | (have q:dL HM = 0:=rfl;clear q HM;intro g1 u1 HM) | (have q:dL HM = 1:=rfl;clear q HM;intro g2 u2 HM) | (have q:dL HM = 2:=rfl;clear q HM;intro g3 u3 HM) | (have q:dL HM = 3:=rfl;clear q HM;intro g4 u4 HM)) | (refine aLo ?_) | (refine aSt ?_; clear HM; intro us HM; dsimp only [List.set] at HM) | (refine aZe ?_)) | (refine aLs ?_) | (refine aCf ?_)))
 go_ret
 exact ⟨rfl, HM.out.1⟩
theorem fc_sidno (F : List Int) (K : Int) (l q p : List Int) (w : World) (hF : FrS F K l q) (lp : p.length = 6) (he : Edg w) (hp : chkL p = true) (hK : 0 ≤ K ∧ K ≤ 2) (hm : mayB q l = true) (hq : q ≠ zr 16) (hk : K = 2) :
  Calls Tryz.prog 51 #[.agg (icells F), .agg (icells p)] w (ValQ w (.int .i64 1)) := by
 have LF := Lib.hid hF.len
 have LL := Lib.hid hF.ll
 have LQ := Lib.hid hF.lq
 have LP := Lib.hid lp
 have CK := Lib.hid (show 0 < F.length ∧ F.getD 0 0 = K from ⟨by rw [hF.len]; decide, hF.k0⟩)
 have SL := Lib.hid hF.lev
 have SQ := Lib.hid hF.num
 have HM := Lib.hid (Mem.start w)
 have HE := Lib.hid he
 have HC := Lib.hid (fun u => bcheck_any p true 0 u lp hp rfl)
 have HK := Lib.hid (fun u => isKind_yes K u hK)
 have HY := Lib.hid (fun u (hu : Edg u) => qmay_any q l u hF.lq hF.ll hu); rw [hm] at HY
 have hgd := grdHopE; have heq := fun u => run_equalIn_diff 26 (n := 16) (by kernel_rfl) q (zr 16) hF.lq (zr_length 16) hq u
 have a1 : (K == 1) = false := by rw [hk]; rfl
 have a2 : (K == 2) = true := by rw [hk]; rfl
 have t3 : decide (K = 1) = false := decide_eq_false (by omega)
 have t4 : decide (K = 2) = true := decide_eq_true (by omega)
 clear hk
 clear hF lp he hp hK hm hq
 go_enter Tryz.func51, Tryz.ntmps51
 go_wp2_with (first | (refine q8w (by rfl) ?_) | (first | (first | (refine aNw ?_; first | (have q:dL HM = 0:=rfl;clear q HM;intro g1 u1 HM) | (have q:dL HM = 1:=rfl;clear q HM;intro g2 u2 HM) | (have q:dL HM = 2:=rfl;clear q HM;intro g3 u3 HM) | (have q:dL HM = 3:=rfl;clear q HM;intro g4 u4 HM)) | (refine aLo ?_) | (refine aSt ?_; clear HM; intro us HM; dsimp only [List.set] at HM) | (refine aZe ?_)) | (refine aLs ?_) | (refine aCf ?_)))
 refine (HC.out _).mono ?_
 rintro e w2 ⟨rfl, h1⟩
 replace HM := Lib.hid (HM.out.below h1)
 clear h1 HC
 go_wp2_with (first | (refine q8w (by rfl) ?_) | (first | (first | (refine aNw ?_; first | (have q:dL HM = 0:=rfl;clear q HM;intro g1 u1 HM) | (have q:dL HM = 1:=rfl;clear q HM;intro g2 u2 HM) | (have q:dL HM = 2:=rfl;clear q HM;intro g3 u3 HM) | (have q:dL HM = 3:=rfl;clear q HM;intro g4 u4 HM)) | (refine aLo ?_) | (refine aSt ?_; clear HM; intro us HM; dsimp only [List.set] at HM) | (refine aZe ?_)) | (refine aLs ?_) | (refine aCf ?_)))
 refine (HK.out _).mono ?_
 rintro e w2 ⟨rfl, h1⟩
 replace HM := Lib.hid (HM.out.below h1)
 clear h1 HK
 go_wp2_with (first | (refine q8w (by rfl) ?_) | (first | (first | (refine aNw ?_; first | (have q:dL HM = 0:=rfl;clear q HM;intro g1 u1 HM) | (have q:dL HM = 1:=rfl;clear q HM;intro g2 u2 HM) | (have q:dL HM = 2:=rfl;clear q HM;intro g3 u3 HM) | (have q:dL HM = 3:=rfl;clear q HM;intro g4 u4 HM)) | (refine aLo ?_) | (refine aSt ?_; clear HM; intro us HM; dsimp only [List.set] at HM) | (refine aZe ?_)) | (refine aLs ?_) | (refine aCf ?_)))
 refine (HY.out _ (HE.out.mem HM.out)).mono ?_
 rintro e w2 ⟨rfl, h1⟩
 replace HM := Lib.hid (HM.out.below h1)
 clear h1 HY
 go_wp2_with (first | (refine q8w (by rfl) ?_) | (first | (first | (refine aNw ?_; first | (have q:dL HM = 0:=rfl;clear q HM;intro g1 u1 HM) | (have q:dL HM = 1:=rfl;clear q HM;intro g2 u2 HM) | (have q:dL HM = 2:=rfl;clear q HM;intro g3 u3 HM) | (have q:dL HM = 3:=rfl;clear q HM;intro g4 u4 HM)) | (refine aLo ?_) | (refine aSt ?_; clear HM; intro us HM; dsimp only [List.set] at HM) | (refine aZe ?_)) | (refine aLs ?_) | (refine aCf ?_)))
 go_ret
 exact ⟨rfl, HM.out.1⟩
theorem may_chk {q l : List Int} (h : mayB q l = true) : chkL l = true := by
 unfold mayB at h
 rw [Bool.and_eq_true] at h
 exact h.1
theorem fcheck_any (F : List Int) (K : Int) (l q p : List Int) (w : World) (hF : FrS F K l q) (lp : p.length = 6) (he : Edg w) :
  Calls Tryz.prog 51 #[.agg (icells F), .agg (icells p)] w (ValQ w (.int .i64 (errC K l q p))) := by
 unfold errC
 cases hp : chkL p with
 | false => rw [if_neg (fun h => by have := ((chkB_iff _ _ _ _).1 h).ahead; rw [hp] at this; cases this)]; exact fc_p F K l q p w hF lp he hp
 | true =>
  by_cases hK : 0 ≤ K ∧ K ≤ 2
  ·cases hm : mayB q l with
   | false => rw [if_neg (fun h => by have := ((chkB_iff _ _ _ _).1 h).may; rw [hm] at this; cases this)]; exact fc_may F K l q p w hF lp he hp hK hm
   | true =>
    have hl := may_chk hm
    by_cases k1 : K = 1
    ·cases hn : nearN l p 6 with
     | false => rw [if_neg (fun h => by have := ((chkB_iff _ _ _ _).1 h).near k1; rw [hn] at this; cases this)]; exact fc_far F K l q p w hF lp he hp hK hm (by unfold nearB; rw [hl, hp, hn]; rfl) k1
     | true => rw [if_pos ((chkB_iff _ _ _ _).2 ⟨hK, hl, hp, fun _ => hn, fun k => by omega, hm⟩)]; exact fc_near F K l q p w hF lp he hp hK hm (by unfold nearB; rw [hl, hp, hn]; rfl) k1
    ·by_cases k2 : K = 2
     ·by_cases hq : q = zr 16
      ·rw [if_pos ((chkB_iff _ _ _ _).2 ⟨hK, hl, hp, fun k => absurd k k1, fun _ => hq, hm⟩)]; exact fc_sid F K l q p w hF lp he hp hK hm hq k2
      ·rw [if_neg (fun h => hq (((chkB_iff _ _ _ _).1 h).sid k2))]; exact fc_sidno F K l q p w hF lp he hp hK hm hq k2
     ·rw [if_pos ((chkB_iff _ _ _ _).2 ⟨hK, hl, hp, fun k => absurd k k1, fun k => absurd k k2, hm⟩)]; exact fc_zero F K l q p w hF lp he hp hK hm (by omega)
  ·rw [if_neg (fun h => hK ((chkB_iff _ _ _ _).1 h).kind)]; exact fc_kind F K l q p w hF lp he hp hK
open Yr (stW Fr chkB chkB_iff symsP thru thru_list FrR lvO nmO frR_of)
theorem telList {w : World} {gF gP gT gS B : Nat} {F p : List Int} (G : LsG w gF gP gT gS B) (LF : F.length = 23) (hF : ∀ i, -1099511627776 ≤ F.getD i 0 ∧ F.getD i 0 ≤ 1099511627776) :
  TelOk w 77 #[] #[.pointer (some ⟨gT, 0, none⟩), .pointer (some ⟨gS, 0, none⟩)] gF 23 57 (stW F) (fun _ => F) (fun ps => ps.length) (LsI w gF gP gT gS B F p) where
 enters := enters_of Tryz.func77 (by kernel_rfl) rfl
 add := fun ⟨v6, v7, h⟩ hb hL => ⟨v6, v7, h.add hb hL⟩
 sub := fun ⟨v6, v7, h⟩ hs => ⟨v6, v7, h.sy, h.bT, h.bS, fun e he => h.ks e (hs.mem he)⟩
 get := fun ⟨_, _, h⟩ he => (h.ks _ he).1
 row := fun ⟨_, _, h⟩ => ⟨h.sy.fr, LF, h.sy.blw⟩
 keeps := fun _ _ _ => rfl
 fwd := fun {s xs i fst s'} h e => by
  unfold stW at e
  injection e with e
  subst e
  rw [List.length_append, List.length_singleton]
  omega
 tells := fun s K u gt xs i fst hi hin hok hl hN h1 h2 hp => by
  have h := list1_any (n := xs.length) (Lib.hid G) hi LF (hF i) hin rfl hl hN h1 h2 hp
  exact h.mono fun e u' hr => hr
def ListOut (w : World) (ps : List Pr) (e : Ending) (w' : World) : Prop :=
 ∃ A n c L d ts, e = .returned (.tuple #[.slice L n d, .slice A n c, .int .i64 0]) ∧ ps.length = n ∧ RdI w' A n (ps.map (·.1)) ∧ RdT w' L n ts ∧ tbs ts = ps.map (·.2) ∧ Below w.heap.size w w'
theorem fr_in {F : List Int} {K : Int} {l q p : List Int} (hF : FrS F K l q) (h : Fr K l q p) (i : Nat) : -1099511627776 ≤ F.getD i 0 ∧ F.getD i 0 ≤ 1099511627776 := by
 by_cases h0 : i = 0
 ·rw [h0, hF.k0]
  have := h.kind
  omega
 ·by_cases h7 : i < 7
  ·obtain ⟨b, rfl⟩ : ∃ b, i = 1 + b := ⟨i - 1, by omega⟩
   have e : F.getD (1 + b) 0 = l.getD b 0 := by
    rw [← hF.lev]
    simp only [List.getD_eq_getElem?_getD, List.getElem?_take, show b < 6 by omega, if_true, List.getElem?_drop]
   have := inR_bd (lo := 0) (hi := 255) h.lev (by omega) (by omega) b
   omega
  ·by_cases h23 : i < 23
   ·obtain ⟨n, rfl⟩ : ∃ n, i = 7 + n := ⟨i - 7, by omega⟩
    have e : F.getD (7 + n) 0 = q.getD n 0 := by
     rw [← hF.num]
     simp only [List.getD_eq_getElem?_getD, List.getElem?_take, show n < 16 by omega, if_true, List.getElem?_drop]
    have h1 := h.may
    unfold mayB at h1
    rw [Bool.and_eq_true] at h1
    have h2 := mayN_at 16 n (by omega) h1.2
    have h3 := msL_bd l (k := n) (by omega)
    omega
   ·rw [List.getD_eq_getElem?_getD, List.getElem?_eq_none (by rw [hF.len]; omega)]
    exact ⟨by decide, by decide⟩
theorem frS_R {F : List Int} {K : Int} {l q : List Int} (h : FrS F K l q) : FrR F K l q := by
 have h0 := frR_of h.len
 have e1 : lvO F = l := h.lev
 have e2 : nmO F = q := h.num
 rw [h.k0, e1, e2] at h0
 exact h0
theorem list_any (F : List Int) (K : Int) (l q p : List Int) (w : World) (hF : FrS F K l q) (lp : p.length = 6) (hfr : Fr K l q p) (he : Edg w) :
  Calls Tryz.prog 52 #[.agg (icells F), .agg (icells p)] w (ListOut w (symsP K l q p)) := by
 have LF := Lib.hid hF.len
 have LP := Lib.hid lp
 have HFI := Lib.hid (fr_in hF hfr)
 have HTL := Lib.hid (thru_list (p := p) (frS_R hF) hfr.lev)
 have HP := Lib.hid hfr.ahead
 have HE := Lib.hid he
 have hmf : ∀ (fn : Fn) (first cap : Array Value) (w : World), (Instr.makeFunc fn first cap).run Tryz.prog w = .ok (.func fn first cap) w := fun _ _ _ _ => rfl
 generalize symsP K l q p = ps at HTL ⊢
 have HM := Lib.hid (MV.start w)
 clear hF lp hfr he
 go_enter Tryz.func52, Tryz.ntmps52
 go_wp2_with (first | (refine wv_loadE rfl _ _ rfl rfl (Lib.hid (run_load_blk arrLev.row (((HM.out.get (by exact q7m (e := (g2, 29, icells p)))).alloc _).alloc _) ((icells_size p).trans LP.out))) ?_) | (first | (refine aVn ?_; first | (have q:dV HM = 0:=rfl;clear q HM;intro g1 u1 HG1 HM) | (have q:dV HM = 1:=rfl;clear q HM;intro g2 u2 HG2 HM) | (have q:dV HM = 2:=rfl;clear q HM;intro g3 u3 HG3 HM) | (have q:dV HM = 3:=rfl;clear q HM;intro g4 u4 HG4 HM)) | (refine aVl ?_) | (refine aVs ?_; clear HM; intro us HM; dsimp only [List.set] at HM) | (refine aZe ?_)))
 have b1 := HM.out.get (by exact q7m (e := (g1, 57, icells F)))
 have b2 := HM.out.get (by exact q7m (e := (g2, 29, icells p)))
 have l1 := b1.lt
 have l2 := b2.lt
 have n1 := HM.out.2.2.1 _ (by exact q7m (e := (g1, 57, icells F)))
 have n2 := HM.out.2.2.1 _ (by exact q7m (e := (g2, 29, icells p)))
 have hb0 := HM.out.1
 have hz := hb0.size
 have HI := Lib.hid (show LsI w g1 g2 u2.heap.size (u2.heap.size + 1) (u2.heap.size + 2) F p [] [] ((u2.alloc (.cells #[.slice none 0 0] 96)).alloc (.cells #[.slice none 0 0] 23)) from by
  refine ⟨.slice none 0 0, .slice none 0 0, ⟨(b1.alloc _).alloc _, (b2.alloc _).alloc _, World.ownsRow_nil _ _ _ _, ⟨[], rfl, World.ownsRow_nil _ _ _ _, fun t ht => absurd ht (by simp)⟩, by omega, by omega, n1, n2, by simp, (hb0.alloc hz _).alloc (by simp; omega) _⟩, (Blk.new u2 _ _).alloc _, Blk.newAt (by simp), fun e he => absurd he (by simp)⟩)
 have HG := Lib.hid (show LsG w g1 g2 u2.heap.size (u2.heap.size + 1) (u2.heap.size + 2) from ⟨by omega, by omega, hz, by omega, by omega, by omega, by omega, by omega, by omega⟩)
 clear b1 b2 l1 l2 n1 n2 hb0 hz HM
 generalize (u2.alloc (.cells #[.slice none 0 0] 96)).alloc (.cells #[.slice none 0 0] 23) = w3 at HI ⊢
 have hsz : (u2.alloc (.cells #[.slice none 0 0] 96)).heap.size = u2.heap.size + 1 := by simp
 try rw [hsz]
 generalize u2.heap.size = gT at HI HG ⊢
 refine (thru_any (S := List Pr) [] [] w3 p (Lib.hid (telList HG.out LF.out HFI.out)) HI HE LP.out HP.out rfl).mono ?_
 intro e u hr
 rw [HTL.out] at hr
 obtain ⟨rfl, v6, v7, hs⟩ := hr
 obtain ⟨A6, c6, rfl, r6⟩ := hs.sy.rd6
 obtain ⟨A7, c7, ts, rfl, r7, t7⟩ := hs.sy.rd7
 have H6 := Lib.hid r6
 have H7 := Lib.hid r7
 have HT7 := Lib.hid t7
 have HB := Lib.hid hs.sy.blw
 have cT := hs.bT.cell 0
 have cS := hs.bS.cell 0
 simp at cT cS
 clear hs r6 r7 t7 HI HG
 go_wp2_with fail
 go_quiet (fail)
 clear cT cS
 go_wp2_with fail
 refine bodyPost_ret (v := .tuple #[.slice A7 ps.length c7, .slice A6 ps.length c6, .int .i64 0]) (by simp [results, Tryz.results52, go_sem]) rfl ⟨A6, ps.length, c6, A7, c7, ts, rfl, rfl, H6.out.below (below_drewN (Below.refl _ _) nq), H7.out.below (below_drewN (Below.refl _ _) nq), HT7.out, below_drewN HB.out nq⟩
open Cd (Pr Tb RdT tbs prs AllOut allErr e0 stE endBits isB_parts)
open Yr (Fr chkB chkB_iff symsP fr_bits wrB nearB)
def WrC (w : World) (K : Int) (l q p : List Int) (e : Ending) (w' : World) : Prop :=
 if chkB K l q p = true then ∃ A n c, e = .returned (.tuple #[.slice A n c, .int .i64 0]) ∧ n ≤ c ∧ Rd w' A n (wrB K l q p) ∧ Below w.heap.size w w'
 else e = .returned (.tuple #[.slice none 0 0, .int .i64 1]) ∧ Below w.heap.size w w'
theorem WrC.wr {w : World} {K : Int} {l q p : List Int} {e : Ending} {w' : World} (h : WrC w K l q p e w') : WrOut w K l q p e w' := by
 unfold WrC at h
 unfold WrOut
 split at h
 ·rename_i hc
  rw [if_pos hc]
  obtain ⟨A, n, c, h1, -, h2, h3⟩ := h
  exact ⟨A, n, c, h1, h2, h3⟩
 ·rename_i hc
  rw [if_neg hc]
  exact h
theorem all_frameN {w w' : World} {K : Int} {l q p : List Int} {e : Ending} (hfr : Fr K l q p) (h : AllOut w (symsP K l q p) e w') : ∃ A n c N, e = .returned (.tuple #[.agg #[.slice A n c, .int .i64 N], .int .i64 0]) ∧ n ≤ c ∧ Rd w' A n (wrB K l q p) ∧ Below w.heap.size w w' := by
 obtain ⟨h1, h2, -⟩ := fr_bits hfr
 rcases h with ⟨_, A, n, c, N, er, rfl, hb, h⟩ | ⟨h, _⟩
 ·rcases h with ⟨_, rfl, hn⟩ | ⟨h, _⟩
  ·have hB := hn.isB
   obtain ⟨g, hv, _, _, _⟩ := hn
   simp only [Value.agg.injEq, Array.mk.injEq, List.cons.injEq, Value.slice.injEq, and_true] at hv
   obtain ⟨⟨rfl, rfl, rfl⟩, -⟩ := hv
   exact ⟨_, _, _, N, rfl, Nat.le_refl _, (isB_parts hB).2.2.1, hb⟩
  ·omega
 ·exact absurd h1 h
theorem fwrite_no (F : List Int) (K : Int) (l q p : List Int) (w : World) (hF : FrS F K l q) (lp : p.length = 6) (he : Edg w) (h : chkB K l q p = false) :
  Calls Tryz.prog 28 #[.agg (icells F), .agg (icells p)] w fun e w' => e = .returned (.tuple #[.slice none 0 0, .int .i64 1]) ∧ Below w.heap.size w w' := by
 have LF := Lib.hid hF.len
 have LP := Lib.hid lp
 have HM := Lib.hid (Mem.start w)
 have HE := Lib.hid he
 have HC := Lib.hid (fun u (hu : Edg u) => fcheck_any F K l q p u hF lp hu)
 unfold errC at HC
 rw [h, if_neg Bool.false_ne_true] at HC
 clear hF lp h he
 go_enter Tryz.func28, Tryz.ntmps28
 go_wp2_with (first | (first | (refine aNw ?_; first | (have q:dL HM = 0:=rfl;clear q HM;intro g1 u1 HM) | (have q:dL HM = 1:=rfl;clear q HM;intro g2 u2 HM) | (have q:dL HM = 2:=rfl;clear q HM;intro g3 u3 HM) | (have q:dL HM = 3:=rfl;clear q HM;intro g4 u4 HM)) | (refine aLo ?_) | (refine aSt ?_; clear HM; intro us HM; dsimp only [List.set] at HM) | (refine aZe ?_)) | (refine aLs ?_) | (refine aCf ?_))
 refine (HC.out _ (HE.out.mem HM.out)).mono ?_
 rintro e w2 ⟨rfl, h1⟩
 replace HM := Lib.hid (HM.out.below h1)
 clear h1 HC
 go_wp2
 go_ret2
 exact ⟨rfl, HM.out.1⟩
theorem fwrite_yes (F : List Int) (K : Int) (l q p : List Int) (w : World) (hF : FrS F K l q) (lp : p.length = 6) (he : Edg w) (h : chkB K l q p = true) :
  Calls Tryz.prog 28 #[.agg (icells F), .agg (icells p)] w fun e w' => ∃ A n c, e = .returned (.tuple #[.slice A n c, .int .i64 0]) ∧ n ≤ c ∧ Rd w' A n (wrB K l q p) ∧ Below w.heap.size w w' := by
 have LF := Lib.hid hF.len
 have LP := Lib.hid lp
 have HM := Lib.hid (Mem.start w)
 have HE := Lib.hid he
 have HC := Lib.hid (fun u (hu : Edg u) => fcheck_any F K l q p u hF lp hu)
 unfold errC at HC
 rw [h, if_pos rfl] at HC
 have HFR := Lib.hid ((chkB_iff K l q p).1 h)
 have HS := Lib.hid (fun u (hu : Edg u) => list_any F K l q p u hF lp HFR.out hu)
 obtain ⟨ps, hps⟩ : ∃ ps, ps = symsP K l q p := ⟨_, rfl⟩
 have HPS := Lib.hid hps
 have HLN := Lib.hid (show ps.length ≤ 40 from by rw [hps]; exact syms_len K l q p)
 rw [← hps] at HS
 clear hF lp h hps he
 go_enter Tryz.func28, Tryz.ntmps28
 go_wp2_with (first | (first | (refine aNw ?_; first | (have q:dL HM = 0:=rfl;clear q HM;intro g1 u1 HM) | (have q:dL HM = 1:=rfl;clear q HM;intro g2 u2 HM) | (have q:dL HM = 2:=rfl;clear q HM;intro g3 u3 HM) | (have q:dL HM = 3:=rfl;clear q HM;intro g4 u4 HM)) | (refine aLo ?_) | (refine aSt ?_; clear HM; intro us HM; dsimp only [List.set] at HM) | (refine aZe ?_)) | (refine aLs ?_) | (refine aCf ?_))
 refine (HC.out _ (HE.out.mem HM.out)).mono ?_
 rintro e w2 ⟨rfl, h1⟩
 replace HM := Lib.hid (HM.out.below h1)
 clear h1 HC
 go_wp2_with (first | (first | (refine aNw ?_; first | (have q:dL HM = 0:=rfl;clear q HM;intro g1 u1 HM) | (have q:dL HM = 1:=rfl;clear q HM;intro g2 u2 HM) | (have q:dL HM = 2:=rfl;clear q HM;intro g3 u3 HM) | (have q:dL HM = 3:=rfl;clear q HM;intro g4 u4 HM)) | (refine aLo ?_) | (refine aSt ?_; clear HM; intro us HM; dsimp only [List.set] at HM) | (refine aZe ?_)) | (refine aLs ?_) | (refine aCf ?_))
 refine (HS.out _ (HE.out.mem HM.out)).mono ?_
 rintro e w3 ⟨A, n, c, L, d, ts, rfl, hn, h2, h3, h4, h5⟩
 have HB3 := Lib.hid (HM.out.1.trans (h5.mono HM.out.1.size))
 have H2 := Lib.hid h2
 have H3 := Lib.hid h3
 have H4 := Lib.hid h4
 have hn2 : n ≤ 40 := by rw [← hn]; exact HLN.out
 clear HM HS h2 h3 h4 h5 hn
 go_wp2_with fail
 refine (Cd.all_walk A n c L d (ps.map (·.1)) ts w3 (Lib.hid (by unfold maxLen; omega)) H2 H3).mono ?_
 intro e w4 ho
 rw [prs_is H4.out, HPS.out] at ho
 obtain ⟨A5, n5, c5, N5, rfl, hc5, hr5, hb5⟩ := all_frameN HFR.out ho
 have HR5 := Lib.hid hr5
 have HC5 := Lib.hid hc5
 have HB4 := Lib.hid (HB3.out.trans (hb5.mono HB3.out.size))
 clear ho hr5 hb5 hc5 H2 H3 H4 HB3
 have HM := Lib.hid (MV.start w4)
 go_wp2_with (first | (refine wv_bytes rfl _ rfl rfl HM (by exact q7m) rfl ?_) | (first | (refine aVn ?_; first | (have q:dV HM = 0:=rfl;clear q HM;intro g1 u1 HG1 HM) | (have q:dV HM = 1:=rfl;clear q HM;intro g2 u2 HG2 HM) | (have q:dV HM = 2:=rfl;clear q HM;intro g3 u3 HG3 HM) | (have q:dV HM = 3:=rfl;clear q HM;intro g4 u4 HG4 HM)) | (refine aVl ?_) | (refine aVs ?_; clear HM; intro us HM; dsimp only [List.set] at HM) | (refine aZe ?_)))
 go_ret2
 exact ⟨A5, n5, c5, rfl, HC5.out, HR5.out.below HM.out.1, HB4.out.trans (HM.out.1.mono HB4.out.size)⟩
theorem fwriteC_any (F : List Int) (K : Int) (l q p : List Int) (w : World) (hF : FrS F K l q) (lp : p.length = 6) (he : Edg w) :
  Calls Tryz.prog 28 #[.agg (icells F), .agg (icells p)] w (WrC w K l q p) := by
 cases h : chkB K l q p with
 | false => exact (fwrite_no F K l q p w hF lp he h).mono fun e w' h2 => by unfold WrC; rw [h, if_neg Bool.false_ne_true]; exact h2
 | true => exact (fwrite_yes F K l q p w hF lp he h).mono fun e w' h2 => by unfold WrC; rw [h, if_pos rfl]; exact h2
open Yr (Fr chkB chkB_iff nearB nearN wrB wrB_len)
theorem run_load_tLive {t : Ty} {w : World} {g : Nat} {T0 : TypeId} (ht : Hid (TyW t)) {b : Bool} (hb : Hid (t.s.live = b)) (h : Blk w g T0 (tyC t)) : (loadVar 4 ⟨g, 41, none⟩).run Tryz.prog w = .ok (.bool b) w :=
 run_load_1 aggB ((h.cell 41).trans (tyC_sC ht.out (syC_e ht.out.sy (k := 0) (by rw [← hb.out]; rfl))))
theorem run_load_tSent {t : Ty} {w : World} {g : Nat} {T0 : TypeId} (ht : Hid (TyW t)) (h : Blk w g T0 (tyC t)) : (loadVar 3 ⟨g, 17, none⟩).run Tryz.prog w = .ok (.int .i64 t.sent) w :=
 run_load_1 aggI ((h.cell 17).trans (tyC_c ht.out (k := 1) rfl))
theorem run_load_tL {t : Ty} {w : World} {g : Nat} {T0 : TypeId} (ht : Hid (TyW t)) (h : Blk w g T0 (tyC t)) : (loadVar 29 ⟨g, 35, none⟩).run Tryz.prog w = .ok (.agg (icells t.s.l)) w :=
 run_load_partC (Arr.row arrLev) h (tyC_l ht.out) ((icl_length _).trans ht.out.sy.ll)
theorem run_load_tP {t : Ty} {w : World} {g : Nat} {T0 : TypeId} (ht : Hid (TyW t)) (h : Blk w g T0 (tyC t)) : (loadVar 35 ⟨g, 0, none⟩).run Tryz.prog w = .ok (.agg (icells t.p)) w :=
 run_load_partC (Arr.row arrPcm) h tyC_p ((icl_length _).trans ht.out.lp)
theorem yi_build {ops : Array Oper} {o : Oper} {a : Act} {S : World → Prop} (hw : Region.wanted o (yielded ops a.tmps) = true) (T : TypeId) (parts : Array (Nat × Operand)) (ho : o.op = .build T parts) (cs : Array Value)
  (hf : Tryz.prog.built T (parts.map fun (i, x) => (i, a.eval x)).toList = some cs) : YieldsIf Tryz.prog ops S o (.agg cs) a :=
 .inl ⟨hw, fun u _ => by
  unfold execOp
  simp only [ho, Sem.run_bind, run_build u T _ cs hf, Result.andThen_ok]
  rfl⟩
theorem yi_b3 {ops : Array Oper} {o : Oper} {a : Act} {S : World → Prop} (hw : Region.wanted o (yielded ops a.tmps) = true) (T : TypeId) (x y z : Operand) (ho : o.op = .build T #[(0, x), (1, y), (2, z)]) {v1 v2 v3 : Value} (h1 : a.eval x = v1) (h2 : a.eval y = v2) (h3 : a.eval z = v3) (cs : Array Value)
  (hf : Tryz.prog.built T [(0, v1), (1, v2), (2, v3)] = some cs) : YieldsIf Tryz.prog ops S o (.agg cs) a :=
 yi_build hw T _ ho cs (by simpa [h1, h2, h3] using hf)
theorem yi_b2 {ops : Array Oper} {o : Oper} {a : Act} {S : World → Prop} (hw : Region.wanted o (yielded ops a.tmps) = true) (T : TypeId) (x y : Operand) (ho : o.op = .build T #[(0, x), (1, y)]) {v1 v2 : Value} (h1 : a.eval x = v1) (h2 : a.eval y = v2) (cs : Array Value)
  (hf : Tryz.prog.built T [(0, v1), (1, v2)] = some cs) : YieldsIf Tryz.prog ops S o (.agg cs) a :=
 yi_build hw T _ ho cs (by simpa [h1, h2] using hf)
theorem rowFrm : RowT 57 23 (icells (zr 23)) := Arr.row arrFr
theorem built_fr3 {l q : List Int} (K : Int) (ll : l.length = 6) (lq : q.length = 16) : Tryz.prog.built 57 [(0, .int .i64 K), (1, .agg (icells l)), (2, .agg (icells q))] = some (icells (frL K l q)) := by
 match l, ll with
 | [a1, a2, a3, a4, a5, a6], _ =>
  match q, lq with
  | [b1, b2, b3, b4, b5, b6, b7, b8, b9, b10, b11, b12, b13, b14, b15, b16], _ =>
   show Tryz.prog.built _ _ = some _
   kernel_rfl
theorem built_fr2 {l : List Int} (K : Int) (ll : l.length = 6) : Tryz.prog.built 57 [(0, .int .i64 K), (1, .agg (icells l))] = some (icells (frL K l (zr 16))) := by
 match l, ll with
 | [a1, a2, a3, a4, a5, a6], _ =>
  show Tryz.prog.built _ _ = some _
  kernel_rfl
def BtQ (w0 w1 : World) (m : Nat) (t : Ty) (bs : List Nat) (e : Ending) (u : World) : Prop :=
 ∃ A n c, e = .returned (.tuple #[.slice A n c, .int .i64 0]) ∧ n ≤ c ∧ Rd u A n bs ∧ MV w0 w1 [(m, 80, tyC t)] u
def wrQ (u : World) (bs : List Nat) (e : Ending) (w' : World) : Prop := ∃ A n c, e = .returned (.tuple #[.slice A n c, .int .i64 0]) ∧ n ≤ c ∧ Rd w' A n bs ∧ Below u.heap.size u w'
theorem wr_good {F : List Int} {K : Int} {l q p : List Int} (u : World) (hF : FrS F K l q) (lp : p.length = 6) (h : Fr K l q p) (he : Edg u) :
  Calls Tryz.prog 28 #[.agg (icells F), .agg (icells p)] u (wrQ u (wrB K l q p)) :=
 (fwriteC_any F K l q p u hF lp he).mono fun e w' h2 => by unfold WrC at h2; rw [if_pos ((chkB_iff K l q p).2 h)] at h2; exact h2
theorem kind_any {w0 w1 w : World} {m : Nat} (t : Ty) (l : List Int) (K : Int) (hm : Hid (MV w0 w1 [(m, 80, tyC t)] w)) (ht : Hid (TyW t)) (hs : 0 ≤ t.sent ∧ t.sent ≤ 1099511627776) (ll : l.length = 6)
  (hK : (if t.s.live = true ∧ ¬ t.sent % 8 = 0 ∧ nearB l t.s.l = true then 1 else 0) = K) :
  Calls Tryz.prog 123 #[.pointer (some ⟨m, 0, none⟩), .agg (icells l)] w (fun e u => e = .returned (.int .i64 K) ∧ MV w0 w1 [(m, 80, tyC t)] u) := by
 have HM := hm
 have HTW := ht
 have LL := Lib.hid ll
 have HNR := Lib.hid (fun u => fnear_any l t.s.l u ll ht.out.sy.ll)
 have HDU := Lib.hid (fun u b hb => isDue_any t.sent b u hs hb)
 clear hm ht ll
 cases hv : t.s.live with
 | false =>
  have HLV := Lib.hid hv
  obtain rfl : K = 0 := by rw [← hK, hv, if_neg (by rintro ⟨h, -⟩; cases h)]
  clear hK hv HNR HDU
  go_enter Tryz.func123, Tryz.ntmps123
  go_wp2_with (first | (refine tQl ?_) | (refine tQs ?_; clear HM; intro us HM; dsimp only [List.set] at HM) | (refine tQt ?_; clear HM HTW; intro us HM HTW; dsimp only [List.set] at HM HTW) | (refine tQb ?_) | (refine tQn ?_; first | (have q:dV HM = 0:=rfl;clear q HM;intro g1 u1 HG1 HM) | (have q:dV HM = 1:=rfl;clear q HM;intro g2 u2 HG2 HM) | (have q:dV HM = 2:=rfl;clear q HM;intro g3 u3 HG3 HM) | (have q:dV HM = 3:=rfl;clear q HM;intro g4 u4 HG4 HM) | (have q:dV HM = 4:=rfl;clear q HM;intro g5 u5 HG5 HM) | (have q:dV HM = 5:=rfl;clear q HM;intro g6 u6 HG6 HM) | (have q:dV HM = 6:=rfl;clear q HM;intro g7 u7 HG7 HM) | (have q:dV HM = 7:=rfl;clear q HM;intro g8 u8 HG8 HM) | (have q:dV HM = 8:=rfl;clear q HM;intro g9 u9 HG9 HM) | (have q:dV HM = 9:=rfl;clear q HM;intro g10 u10 HG10 HM)) | (first | (refine aQl ?_) | (refine aQs ?_; clear HM; intro us HM; dsimp only [List.set] at HM) | (refine aQt ?_; clear HM HSW; intro us HM HSW; dsimp only [List.set] at HM HSW) | (refine aQv ?_; clear HM; intro us HM; dsimp only [List.set] at HM) | (refine aQb ?_) | (refine aQn ?_; first | (have q:dV HM = 0:=rfl;clear q HM;intro g1 u1 HG1 HM) | (have q:dV HM = 1:=rfl;clear q HM;intro g2 u2 HG2 HM) | (have q:dV HM = 2:=rfl;clear q HM;intro g3 u3 HG3 HM) | (have q:dV HM = 3:=rfl;clear q HM;intro g4 u4 HG4 HM) | (have q:dV HM = 4:=rfl;clear q HM;intro g5 u5 HG5 HM) | (have q:dV HM = 5:=rfl;clear q HM;intro g6 u6 HG6 HM) | (have q:dV HM = 6:=rfl;clear q HM;intro g7 u7 HG7 HM) | (have q:dV HM = 7:=rfl;clear q HM;intro g8 u8 HG8 HM) | (have q:dV HM = 8:=rfl;clear q HM;intro g9 u9 HG9 HM) | (have q:dV HM = 9:=rfl;clear q HM;intro g10 u10 HG10 HM))))
  refine wp_region_held_drew (S := fun y => Blk y m 80 (tyC t) ∧ Blk y g2 29 (icells l)) (by kernel_rfl) ⟨HM.out.drew.get (by exact q7m), HM.out.drew.get (by exact q7m)⟩ (fun hHeld => ?_)
  have HMd := Lib.hid HM.out.drew
  clear HM
  have HM := HMd
  clear HMd
  generalize World.drew _ = wd at HM hHeld ⊢
  (refine tkv 0 (.pointer (some ⟨m, 0, none⟩)) rfl ?_)
  (refine tkv 1 (.pointer (some ⟨m, 0, none⟩)) rfl ?_)
  (refine tkg 2 (.pointer (some ⟨m, 0, none⟩)) rfl ?_)
  (refine tkg 3 (.pointer (some ⟨m, 19, none⟩)) rfl ?_)
  (refine tkg 4 (.pointer (some ⟨m, 41, none⟩)) rfl ?_)
  (refine tk 5 rfl (yv_load rfl _ _ rfl rfl (fun u hu => run_load_tLive HTW HLV hu.1)) ?_)
  (refine tkv 6 (.bool true) rfl ?_)
  (refine tkv 7 (.bool true) rfl ?_)
  (refine tks 8 rfl ?_)
  (refine tks 9 rfl ?_)
  (refine tks 10 rfl ?_)
  (refine tks 11 rfl ?_)
  (refine tks 12 rfl ?_)
  (refine tks 13 rfl ?_)
  (refine tkv 14 (.bool true) rfl ?_)
  (refine tkv 15 (.bool true) rfl ?_)
  (refine tks 16 rfl ?_)
  (refine tks 17 rfl ?_)
  (refine tks 18 rfl ?_)
  (refine tks 19 rfl ?_)
  (refine tks 20 rfl ?_)
  (refine tks 21 rfl ?_)
  (refine tks 22 rfl ?_)
  (refine tks 23 rfl ?_)
  (refine tks 24 rfl ?_)
  (refine tkv 25 (.bool true) rfl ?_)
  refine wpAnyH_done (by kernel_rfl) ?_ _
  clear hHeld
  go_wp2_with fail
  go_ret
  exact ⟨rfl, (by have HP := HM.out; (repeat (replace HP := HP.popH (by with_reducible assumption))); exact HP)⟩
 | true =>
  have HLV := Lib.hid hv
  by_cases hd : t.sent % 8 = 0
  ·have HD := Lib.hid (fun u => HDU.out u true (decide_eq_true hd))
   obtain rfl : K = 0 := by rw [← hK, if_neg (by rintro ⟨-, h, -⟩; exact h hd)]
   clear hK hv HNR HDU hd hs
   go_enter Tryz.func123, Tryz.ntmps123
   go_wp2_with (first | (refine tQl ?_) | (refine tQs ?_; clear HM; intro us HM; dsimp only [List.set] at HM) | (refine tQt ?_; clear HM HTW; intro us HM HTW; dsimp only [List.set] at HM HTW) | (refine tQb ?_) | (refine tQn ?_; first | (have q:dV HM = 0:=rfl;clear q HM;intro g1 u1 HG1 HM) | (have q:dV HM = 1:=rfl;clear q HM;intro g2 u2 HG2 HM) | (have q:dV HM = 2:=rfl;clear q HM;intro g3 u3 HG3 HM) | (have q:dV HM = 3:=rfl;clear q HM;intro g4 u4 HG4 HM) | (have q:dV HM = 4:=rfl;clear q HM;intro g5 u5 HG5 HM) | (have q:dV HM = 5:=rfl;clear q HM;intro g6 u6 HG6 HM) | (have q:dV HM = 6:=rfl;clear q HM;intro g7 u7 HG7 HM) | (have q:dV HM = 7:=rfl;clear q HM;intro g8 u8 HG8 HM) | (have q:dV HM = 8:=rfl;clear q HM;intro g9 u9 HG9 HM) | (have q:dV HM = 9:=rfl;clear q HM;intro g10 u10 HG10 HM)) | (first | (refine aQl ?_) | (refine aQs ?_; clear HM; intro us HM; dsimp only [List.set] at HM) | (refine aQt ?_; clear HM HSW; intro us HM HSW; dsimp only [List.set] at HM HSW) | (refine aQv ?_; clear HM; intro us HM; dsimp only [List.set] at HM) | (refine aQb ?_) | (refine aQn ?_; first | (have q:dV HM = 0:=rfl;clear q HM;intro g1 u1 HG1 HM) | (have q:dV HM = 1:=rfl;clear q HM;intro g2 u2 HG2 HM) | (have q:dV HM = 2:=rfl;clear q HM;intro g3 u3 HG3 HM) | (have q:dV HM = 3:=rfl;clear q HM;intro g4 u4 HG4 HM) | (have q:dV HM = 4:=rfl;clear q HM;intro g5 u5 HG5 HM) | (have q:dV HM = 5:=rfl;clear q HM;intro g6 u6 HG6 HM) | (have q:dV HM = 6:=rfl;clear q HM;intro g7 u7 HG7 HM) | (have q:dV HM = 7:=rfl;clear q HM;intro g8 u8 HG8 HM) | (have q:dV HM = 8:=rfl;clear q HM;intro g9 u9 HG9 HM) | (have q:dV HM = 9:=rfl;clear q HM;intro g10 u10 HG10 HM))))
   refine wp_region_held_drew (S := fun y => Blk y m 80 (tyC t) ∧ Blk y g2 29 (icells l)) (by kernel_rfl) ⟨HM.out.drew.get (by exact q7m), HM.out.drew.get (by exact q7m)⟩ (fun hHeld => ?_)
   have HMd := Lib.hid HM.out.drew
   clear HM
   have HM := HMd
   clear HMd
   generalize World.drew _ = wd at HM hHeld ⊢
   (refine tkv 0 (.pointer (some ⟨m, 0, none⟩)) rfl ?_)
   (refine tkv 1 (.pointer (some ⟨m, 0, none⟩)) rfl ?_)
   (refine tkg 2 (.pointer (some ⟨m, 0, none⟩)) rfl ?_)
   (refine tkg 3 (.pointer (some ⟨m, 19, none⟩)) rfl ?_)
   (refine tkg 4 (.pointer (some ⟨m, 41, none⟩)) rfl ?_)
   (refine tk 5 rfl (yv_load rfl _ _ rfl rfl (fun u hu => run_load_tLive HTW HLV hu.1)) ?_)
   (refine tkv 6 (.bool false) rfl ?_)
   (refine tkv 7 (.bool false) rfl ?_)
   (refine tkv 8 (.pointer (some ⟨m, 0, none⟩)) rfl ?_)
   (refine tkv 9 (.pointer (some ⟨m, 0, none⟩)) rfl ?_)
   (refine tkg 10 (.pointer (some ⟨m, 0, none⟩)) rfl ?_)
   (refine tkg 11 (.pointer (some ⟨m, 17, none⟩)) rfl ?_)
   (refine tk 12 rfl (yv_load rfl _ _ rfl rfl (fun u hu => run_load_tSent HTW hu.1)) ?_)
   refine wpAnyH_ready (rs := [13]) (by kernel_rfl) (by simp) ?_; refine AllReadyH.cons rfl (fun K hK => ?_) (AllReadyH.nil)
   rw [if_pos (by rfl)]; go_simp
   refine (HD.out _).mono ?_
   rintro e w3 ⟨rfl, hb⟩
   replace HM := Lib.hid (HM.out.below hb)
   clear hb hHeld
   go_wp2_with fail
   refine hK.out _ _ ⟨HM.out.get (by exact q7m), HM.out.get (by exact q7m)⟩ (fun hHeld => ?_)
   clear hK K
   (try simp only [Act.put, qz1, qz2, qz3])
   (refine tkv 14 (.bool true) rfl ?_)
   (refine tkv 15 (.bool true) rfl ?_)
   (refine tks 16 rfl ?_)
   (refine tks 17 rfl ?_)
   (refine tks 18 rfl ?_)
   (refine tks 19 rfl ?_)
   (refine tks 20 rfl ?_)
   (refine tks 21 rfl ?_)
   (refine tks 22 rfl ?_)
   (refine tks 23 rfl ?_)
   (refine tks 24 rfl ?_)
   (refine tkv 25 (.bool true) rfl ?_)
   refine wpAnyH_done (by kernel_rfl) ?_ _
   clear hHeld
   go_wp2_with fail
   go_ret
   exact ⟨rfl, (by have HP := HM.out; (repeat (replace HP := HP.popH (by with_reducible assumption))); exact HP)⟩
  ·have HD := Lib.hid (fun u => HDU.out u false (decide_eq_false hd))
   obtain ⟨nb, hnb⟩ : ∃ nb, nearB l t.s.l = nb := ⟨_, rfl⟩
   obtain rfl : K = if nb = true then 1 else 0 := by
    rw [← hK, hnb]
    cases nb with
    | true => rw [if_pos ⟨hv, hd, rfl⟩]; rfl
    | false => rw [if_neg (by rintro ⟨-, -, h⟩; cases h)]; rfl
   rw [hnb] at HNR
   clear hK hv HDU hd hs hnb
   go_enter Tryz.func123, Tryz.ntmps123
   go_wp2_with (first | (refine tQl ?_) | (refine tQs ?_; clear HM; intro us HM; dsimp only [List.set] at HM) | (refine tQt ?_; clear HM HTW; intro us HM HTW; dsimp only [List.set] at HM HTW) | (refine tQb ?_) | (refine tQn ?_; first | (have q:dV HM = 0:=rfl;clear q HM;intro g1 u1 HG1 HM) | (have q:dV HM = 1:=rfl;clear q HM;intro g2 u2 HG2 HM) | (have q:dV HM = 2:=rfl;clear q HM;intro g3 u3 HG3 HM) | (have q:dV HM = 3:=rfl;clear q HM;intro g4 u4 HG4 HM) | (have q:dV HM = 4:=rfl;clear q HM;intro g5 u5 HG5 HM) | (have q:dV HM = 5:=rfl;clear q HM;intro g6 u6 HG6 HM) | (have q:dV HM = 6:=rfl;clear q HM;intro g7 u7 HG7 HM) | (have q:dV HM = 7:=rfl;clear q HM;intro g8 u8 HG8 HM) | (have q:dV HM = 8:=rfl;clear q HM;intro g9 u9 HG9 HM) | (have q:dV HM = 9:=rfl;clear q HM;intro g10 u10 HG10 HM)) | (first | (refine aQl ?_) | (refine aQs ?_; clear HM; intro us HM; dsimp only [List.set] at HM) | (refine aQt ?_; clear HM HSW; intro us HM HSW; dsimp only [List.set] at HM HSW) | (refine aQv ?_; clear HM; intro us HM; dsimp only [List.set] at HM) | (refine aQb ?_) | (refine aQn ?_; first | (have q:dV HM = 0:=rfl;clear q HM;intro g1 u1 HG1 HM) | (have q:dV HM = 1:=rfl;clear q HM;intro g2 u2 HG2 HM) | (have q:dV HM = 2:=rfl;clear q HM;intro g3 u3 HG3 HM) | (have q:dV HM = 3:=rfl;clear q HM;intro g4 u4 HG4 HM) | (have q:dV HM = 4:=rfl;clear q HM;intro g5 u5 HG5 HM) | (have q:dV HM = 5:=rfl;clear q HM;intro g6 u6 HG6 HM) | (have q:dV HM = 6:=rfl;clear q HM;intro g7 u7 HG7 HM) | (have q:dV HM = 7:=rfl;clear q HM;intro g8 u8 HG8 HM) | (have q:dV HM = 8:=rfl;clear q HM;intro g9 u9 HG9 HM) | (have q:dV HM = 9:=rfl;clear q HM;intro g10 u10 HG10 HM))))
   refine wp_region_held_drew (S := fun y => Blk y m 80 (tyC t) ∧ Blk y g2 29 (icells l)) (by kernel_rfl) ⟨HM.out.drew.get (by exact q7m), HM.out.drew.get (by exact q7m)⟩ (fun hHeld => ?_)
   have HMd := Lib.hid HM.out.drew
   clear HM
   have HM := HMd
   clear HMd
   generalize World.drew _ = wd at HM hHeld ⊢
   (refine tkv 0 (.pointer (some ⟨m, 0, none⟩)) rfl ?_)
   (refine tkv 1 (.pointer (some ⟨m, 0, none⟩)) rfl ?_)
   (refine tkg 2 (.pointer (some ⟨m, 0, none⟩)) rfl ?_)
   (refine tkg 3 (.pointer (some ⟨m, 19, none⟩)) rfl ?_)
   (refine tkg 4 (.pointer (some ⟨m, 41, none⟩)) rfl ?_)
   (refine tk 5 rfl (yv_load rfl _ _ rfl rfl (fun u hu => run_load_tLive HTW HLV hu.1)) ?_)
   (refine tkv 6 (.bool false) rfl ?_)
   (refine tkv 7 (.bool false) rfl ?_)
   (refine tkv 8 (.pointer (some ⟨m, 0, none⟩)) rfl ?_)
   (refine tkv 9 (.pointer (some ⟨m, 0, none⟩)) rfl ?_)
   (refine tkg 10 (.pointer (some ⟨m, 0, none⟩)) rfl ?_)
   (refine tkg 11 (.pointer (some ⟨m, 17, none⟩)) rfl ?_)
   (refine tk 12 rfl (yv_load rfl _ _ rfl rfl (fun u hu => run_load_tSent HTW hu.1)) ?_)
   refine wpAnyH_ready (rs := [13]) (by kernel_rfl) (by simp) ?_; refine AllReadyH.cons rfl (fun K hK => ?_) (AllReadyH.nil)
   rw [if_pos (by rfl)]; go_simp
   refine (HD.out _).mono ?_
   rintro e w3 ⟨rfl, hb⟩
   replace HM := Lib.hid (HM.out.below hb)
   clear hb hHeld
   go_wp2_with fail
   refine hK.out _ _ ⟨HM.out.get (by exact q7m), HM.out.get (by exact q7m)⟩ (fun hHeld => ?_)
   clear hK K
   (try simp only [Act.put, qz1, qz2, qz3])
   (refine tkv 14 (.bool false) rfl ?_)
   (refine tkv 15 (.bool false) rfl ?_)
   (refine tk 16 rfl (yv_load rfl _ _ rfl rfl (fun u hu => run_load_blk (Arr.row arrLev) hu.2 ((icells_size _).trans LL.out))) ?_)
   (refine tkv 17 (.pointer (some ⟨m, 0, none⟩)) rfl ?_)
   (refine tkv 18 (.pointer (some ⟨m, 0, none⟩)) rfl ?_)
   (refine tkg 19 (.pointer (some ⟨m, 0, none⟩)) rfl ?_)
   (refine tkg 20 (.pointer (some ⟨m, 19, none⟩)) rfl ?_)
   (refine tkg 21 (.pointer (some ⟨m, 35, none⟩)) rfl ?_)
   (refine tk 22 rfl (yv_load rfl _ _ rfl rfl (fun u hu => run_load_tL HTW hu.1)) ?_)
   refine wpAnyH_ready (rs := [23]) (by kernel_rfl) (by simp) ?_; refine AllReadyH.cons rfl (fun K hK => ?_) (AllReadyH.nil)
   rw [if_pos (by rfl)]; go_simp
   refine (HNR.out _).mono ?_
   rintro e w4 ⟨rfl, hb⟩
   replace HM := Lib.hid (HM.out.below hb)
   clear hb hHeld
   go_wp2_with fail
   refine hK.out _ _ ⟨HM.out.get (by exact q7m), HM.out.get (by exact q7m)⟩ (fun hHeld => ?_)
   clear hK K
   (try simp only [Act.put, qz1, qz2, qz3])
   (refine tkv 24 (.bool !nb) rfl ?_)
   (refine tkv 25 (.bool !nb) rfl ?_)
   refine wpAnyH_done (by kernel_rfl) ?_ _
   clear hHeld
   cases nb with
   | true =>
    go_wp2_with fail
    go_ret
    exact ⟨rfl, (by have HP := HM.out; (repeat (replace HP := HP.popH (by with_reducible assumption))); exact HP)⟩
   | false =>
    go_wp2_with fail
    go_ret
    exact ⟨rfl, (by have HP := HM.out; (repeat (replace HP := HP.popH (by with_reducible assumption))); exact HP)⟩
theorem ttalk_any {w0 w1 w : World} {m : Nat} (t : Ty) (x l : List Int) (K : Int) (hm : Hid (MV w0 w1 [(m, 80, tyC t)] w)) (ht : Hid (TyW t)) (hs : 0 ≤ t.sent ∧ t.sent ≤ 1099511627776) (lx : x.length = 16) (hx : okX x = true) (ll : l.length = 6) (hc : chkL l = true)
  (hK : (if t.s.live = true ∧ ¬ t.sent % 8 = 0 ∧ nearB l t.s.l = true then 1 else 0) = K) (hfr : Fr K l (smallL x l) t.s.l) (he : Hid (Edg w0)) :
  Calls Tryz.prog 87 #[.pointer (some ⟨m, 0, none⟩), .agg (icells x), .agg (icells l)] w (BtQ w0 w1 m ⟨t.p, t.hang, t.sent + 1, 0, t.s⟩ (wrB K l (smallL x l) t.s.l)) := by
 have HM := hm
 have HTW := ht
 have HE := he
 have LX := Lib.hid lx
 have LL := Lib.hid ll
 have LQ := Lib.hid (small_len x l)
 have LZ3 := Lib.hid (zr_length 23)
 have HSM := Lib.hid (fun u h => qsmall_any x l u lx ll h)
 rw [show smallV x l = .tuple #[.agg (icells (smallL x l)), .agg (icells (asL l)), .int .i64 0] by unfold smallV; rw [if_pos ⟨hc, hx⟩]] at HSM
 have LA := Lib.hid (asL_length l)
 have HKI := Lib.hid (fun (u v : World) (h : Hid (MV w0 u [(m, 80, tyC t)] v)) => kind_any t l K h ht hs ll hK)
 obtain ⟨q, hq⟩ : ∃ q, smallL x l = q := ⟨_, rfl⟩
 rw [hq] at HSM LQ hfr ⊢
 generalize asL l = al at HSM LA
 obtain ⟨F, hF⟩ : ∃ F, F = frL K l q := ⟨_, rfl⟩
 have HBF := Lib.hid (built_fr3 K ll LQ.out)
 have HWR := Lib.hid (fun u (h : Edg u) => wr_good u (frS_mk (K := K) ll LQ.out) ht.out.sy.ll hfr h)
 rw [← hF] at HBF HWR
 have LF := Lib.hid (show F.length = 23 by rw [hF]; exact frL_len ll LQ.out)
 have w1' : IntKind.i64.wrap (t.sent + 1) = t.sent + 1 := i64_w (by omega) (by omega)
 generalize wrB K l q t.s.l = bs at HWR ⊢
 unfold wrQ at HWR
 unfold BtQ
 clear hm ht he hs lx hx ll hc hK hfr hq hF
 go_enter Tryz.func87, Tryz.ntmps87
 go_wp2_with (first | (refine tQl ?_) | (refine tQs ?_; clear HM; intro us HM; dsimp only [List.set] at HM) | (refine tQt ?_; clear HM HTW; intro us HM HTW; dsimp only [List.set] at HM HTW) | (refine tQb ?_) | (refine tQn ?_; first | (have q:dV HM = 0:=rfl;clear q HM;intro g1 u1 HG1 HM) | (have q:dV HM = 1:=rfl;clear q HM;intro g2 u2 HG2 HM) | (have q:dV HM = 2:=rfl;clear q HM;intro g3 u3 HG3 HM) | (have q:dV HM = 3:=rfl;clear q HM;intro g4 u4 HG4 HM) | (have q:dV HM = 4:=rfl;clear q HM;intro g5 u5 HG5 HM) | (have q:dV HM = 5:=rfl;clear q HM;intro g6 u6 HG6 HM) | (have q:dV HM = 6:=rfl;clear q HM;intro g7 u7 HG7 HM) | (have q:dV HM = 7:=rfl;clear q HM;intro g8 u8 HG8 HM) | (have q:dV HM = 8:=rfl;clear q HM;intro g9 u9 HG9 HM) | (have q:dV HM = 9:=rfl;clear q HM;intro g10 u10 HG10 HM)) | (first | (refine aQl ?_) | (refine aQs ?_; clear HM; intro us HM; dsimp only [List.set] at HM) | (refine aQt ?_; clear HM HSW; intro us HM HSW; dsimp only [List.set] at HM HSW) | (refine aQv ?_; clear HM; intro us HM; dsimp only [List.set] at HM) | (refine aQb ?_) | (refine aQn ?_; first | (have q:dV HM = 0:=rfl;clear q HM;intro g1 u1 HG1 HM) | (have q:dV HM = 1:=rfl;clear q HM;intro g2 u2 HG2 HM) | (have q:dV HM = 2:=rfl;clear q HM;intro g3 u3 HG3 HM) | (have q:dV HM = 3:=rfl;clear q HM;intro g4 u4 HG4 HM) | (have q:dV HM = 4:=rfl;clear q HM;intro g5 u5 HG5 HM) | (have q:dV HM = 5:=rfl;clear q HM;intro g6 u6 HG6 HM) | (have q:dV HM = 6:=rfl;clear q HM;intro g7 u7 HG7 HM) | (have q:dV HM = 7:=rfl;clear q HM;intro g8 u8 HG8 HM) | (have q:dV HM = 8:=rfl;clear q HM;intro g9 u9 HG9 HM) | (have q:dV HM = 9:=rfl;clear q HM;intro g10 u10 HG10 HM))))
 refine (HSM.out _ (HE.out.below HM.out.1)).mono ?_
 rintro e w2 ⟨rfl, hb⟩
 replace HM := Lib.hid (HM.out.below hb)
 clear hb HSM
 go_wp2_with (first | (refine tQl ?_) | (refine tQs ?_; clear HM; intro us HM; dsimp only [List.set] at HM) | (refine tQt ?_; clear HM HTW; intro us HM HTW; dsimp only [List.set] at HM HTW) | (refine tQb ?_) | (refine tQn ?_; first | (have q:dV HM = 0:=rfl;clear q HM;intro g1 u1 HG1 HM) | (have q:dV HM = 1:=rfl;clear q HM;intro g2 u2 HG2 HM) | (have q:dV HM = 2:=rfl;clear q HM;intro g3 u3 HG3 HM) | (have q:dV HM = 3:=rfl;clear q HM;intro g4 u4 HG4 HM) | (have q:dV HM = 4:=rfl;clear q HM;intro g5 u5 HG5 HM) | (have q:dV HM = 5:=rfl;clear q HM;intro g6 u6 HG6 HM) | (have q:dV HM = 6:=rfl;clear q HM;intro g7 u7 HG7 HM) | (have q:dV HM = 7:=rfl;clear q HM;intro g8 u8 HG8 HM) | (have q:dV HM = 8:=rfl;clear q HM;intro g9 u9 HG9 HM) | (have q:dV HM = 9:=rfl;clear q HM;intro g10 u10 HG10 HM)) | (first | (refine aQl ?_) | (refine aQs ?_; clear HM; intro us HM; dsimp only [List.set] at HM) | (refine aQt ?_; clear HM HSW; intro us HM HSW; dsimp only [List.set] at HM HSW) | (refine aQv ?_; clear HM; intro us HM; dsimp only [List.set] at HM) | (refine aQb ?_) | (refine aQn ?_; first | (have q:dV HM = 0:=rfl;clear q HM;intro g1 u1 HG1 HM) | (have q:dV HM = 1:=rfl;clear q HM;intro g2 u2 HG2 HM) | (have q:dV HM = 2:=rfl;clear q HM;intro g3 u3 HG3 HM) | (have q:dV HM = 3:=rfl;clear q HM;intro g4 u4 HG4 HM) | (have q:dV HM = 4:=rfl;clear q HM;intro g5 u5 HG5 HM) | (have q:dV HM = 5:=rfl;clear q HM;intro g6 u6 HG6 HM) | (have q:dV HM = 6:=rfl;clear q HM;intro g7 u7 HG7 HM) | (have q:dV HM = 7:=rfl;clear q HM;intro g8 u8 HG8 HM) | (have q:dV HM = 8:=rfl;clear q HM;intro g9 u9 HG9 HM) | (have q:dV HM = 9:=rfl;clear q HM;intro g10 u10 HG10 HM))))
 refine wp_region_held_drew (S := fun y => Blk y m 80 (tyC t) ∧ Blk y g3 29 (icells l) ∧ Blk y g4 26 (icells q)) (by kernel_rfl) ⟨HM.out.drew.get (by exact q7m), HM.out.drew.get (by exact q7m), HM.out.drew.get (by exact q7m)⟩ (fun hHeld => ?_)
 have HMd := Lib.hid HM.out.drew
 clear HM
 have HM := HMd
 clear HMd
 generalize World.drew _ = wd at HM hHeld ⊢
 (refine tkv 0 (.pointer (some ⟨m, 0, none⟩)) rfl ?_)
 (refine tk 1 rfl (yv_load rfl _ _ rfl rfl (fun u hu => run_load_blk (Arr.row arrLev) hu.2.1 ((icells_size _).trans LL.out))) ?_)
 (refine tk 3 rfl (yv_load rfl _ _ rfl rfl (fun u hu => run_load_blk (Arr.row arrLev) hu.2.1 ((icells_size _).trans LL.out))) ?_)
 (refine tk 4 rfl (yv_load rfl _ _ rfl rfl (fun u hu => run_load_blk (Arr.row arrHop) hu.2.2 ((icells_size _).trans LQ.out))) ?_)
 refine wpAnyH_ready (rs := [2, 6]) (by kernel_rfl) (by simp) ?_; refine AllReadyH.cons rfl (fun K hK => ?_) (AllReadyH.cons rfl (fun K hK => ?_) (AllReadyH.nil))
 ·rw [if_pos (by rfl)]; go_simp
  refine (HKI.out _ _ (Lib.hid (HM.out.sub (by exact q7v)))).mono ?_
  rintro e w3 ⟨rfl, hm⟩
  have HM2 := Lib.hid (HM.out.after (by exact q7i) hm)
  clear hm HM
  have HM := HM2
  clear HM2
  dsimp only [List.set] at HM
  clear hHeld
  go_wp2_with fail
  refine hK.out _ _ ⟨HM.out.get (by exact q7m), HM.out.get (by exact q7m), HM.out.get (by exact q7m)⟩ (fun hHeld => ?_)
  clear hK K
  (try simp only [Act.put, qz1, qz2, qz3])
  (refine tk 5 rfl (yi_b3 rfl _ _ _ _ rfl rfl rfl rfl _ (HBF.out)) ?_)
  refine wpAnyH_ready (rs := [6]) (by kernel_rfl) (by simp) ?_; refine AllReadyH.cons rfl (fun K hK => ?_) (AllReadyH.nil)
  rw [if_pos (by rfl)]
  refine ov_alloc _ rfl rfl rowFrm HM ?_
  intro gF wA HMA HWA HGA
  have HGx := Lib.hid (Nat.le_trans HM.out.2.2.2.2.1 HGA.out)
  clear HM hHeld HWA HGA
  have HM := HMA
  clear HMA
  refine hK.out _ _ ⟨HM.out.get (by exact q7m), HM.out.get (by exact q7m), HM.out.get (by exact q7m)⟩ (fun hHeld => ?_)
  clear hK K
  (try simp only [Act.put, qz1, qz2, qz3])
  refine wpAnyH_ready (rs := [7]) (by kernel_rfl) (by simp) ?_; refine AllReadyH.cons rfl (fun K hK => ?_) (AllReadyH.nil)
  rw [if_pos (by rfl)]; refine ov_store _ _ _ rfl rfl rfl rowFrm HM (by exact q7i) (by exact q7s) (by exact q7s) (by exact q7o) rfl ?_; clear HM; intro us HM; dsimp only [List.set] at HM
  clear hHeld
  refine hK.out _ _ ⟨HM.out.get (by exact q7m), HM.out.get (by exact q7m), HM.out.get (by exact q7m)⟩ (fun hHeld => ?_)
  clear hK K
  (try simp only [Act.put, qz1, qz2, qz3])
  refine wpAnyH_done (by kernel_rfl) ?_ _
  clear hHeld
  go_wp2_with (first | (refine tQl ?_) | (refine tQs ?_; clear HM; intro us HM; dsimp only [List.set] at HM) | (refine tQt ?_; clear HM HTW; intro us HM HTW; dsimp only [List.set] at HM HTW) | (refine tQb ?_) | (refine tQn ?_; first | (have q:dV HM = 0:=rfl;clear q HM;intro g1 u1 HG1 HM) | (have q:dV HM = 1:=rfl;clear q HM;intro g2 u2 HG2 HM) | (have q:dV HM = 2:=rfl;clear q HM;intro g3 u3 HG3 HM) | (have q:dV HM = 3:=rfl;clear q HM;intro g4 u4 HG4 HM) | (have q:dV HM = 4:=rfl;clear q HM;intro g5 u5 HG5 HM) | (have q:dV HM = 5:=rfl;clear q HM;intro g6 u6 HG6 HM) | (have q:dV HM = 6:=rfl;clear q HM;intro g7 u7 HG7 HM) | (have q:dV HM = 7:=rfl;clear q HM;intro g8 u8 HG8 HM) | (have q:dV HM = 8:=rfl;clear q HM;intro g9 u9 HG9 HM) | (have q:dV HM = 9:=rfl;clear q HM;intro g10 u10 HG10 HM)) | (first | (refine aQl ?_) | (refine aQs ?_; clear HM; intro us HM; dsimp only [List.set] at HM) | (refine aQt ?_; clear HM HSW; intro us HM HSW; dsimp only [List.set] at HM HSW) | (refine aQv ?_; clear HM; intro us HM; dsimp only [List.set] at HM) | (refine aQb ?_) | (refine aQn ?_; first | (have q:dV HM = 0:=rfl;clear q HM;intro g1 u1 HG1 HM) | (have q:dV HM = 1:=rfl;clear q HM;intro g2 u2 HG2 HM) | (have q:dV HM = 2:=rfl;clear q HM;intro g3 u3 HG3 HM) | (have q:dV HM = 3:=rfl;clear q HM;intro g4 u4 HG4 HM) | (have q:dV HM = 4:=rfl;clear q HM;intro g5 u5 HG5 HM) | (have q:dV HM = 5:=rfl;clear q HM;intro g6 u6 HG6 HM) | (have q:dV HM = 6:=rfl;clear q HM;intro g7 u7 HG7 HM) | (have q:dV HM = 7:=rfl;clear q HM;intro g8 u8 HG8 HM) | (have q:dV HM = 8:=rfl;clear q HM;intro g9 u9 HG9 HM) | (have q:dV HM = 9:=rfl;clear q HM;intro g10 u10 HG10 HM))))
  refine wp_region_held_drew (S := fun y => Blk y m 80 (tyC ⟨t.p, t.hang, t.sent + 1, 0, t.s⟩) ∧ Blk y gF 57 (icells F)) (by kernel_rfl) ⟨HM.out.drew.get (by exact q7m), HM.out.drew.get (by exact q7m)⟩ (fun hHeld => ?_)
  have HMd := Lib.hid HM.out.drew
  clear HM
  have HM := HMd
  clear HMd
  generalize World.drew _ = wd at HM hHeld ⊢
  (refine tk 0 rfl (yv_load rfl _ _ rfl rfl (fun u hu => run_load_blk rowFrm hu.2 ((icells_size _).trans LF.out))) ?_)
  (refine tkv 1 (.pointer (some ⟨m, 0, none⟩)) rfl ?_)
  (refine tkv 2 (.pointer (some ⟨m, 0, none⟩)) rfl ?_)
  (refine tkg 3 (.pointer (some ⟨m, 0, none⟩)) rfl ?_)
  (refine tkg 4 (.pointer (some ⟨m, 19, none⟩)) rfl ?_)
  (refine tkg 5 (.pointer (some ⟨m, 35, none⟩)) rfl ?_)
  (refine tk 6 rfl (yv_load rfl _ _ rfl rfl (fun u hu => run_load_tL HTW hu.1)) ?_)
  refine wpAnyH_ready (rs := [7]) (by kernel_rfl) (by simp) ?_; refine AllReadyH.cons rfl (fun K hK => ?_) (AllReadyH.nil)
  rw [if_pos (by rfl)]; go_simp
  refine (HWR.out _ (HE.out.below HM.out.1)).mono ?_
  rintro e w5 ⟨A, n, c, rfl, hn, hr, hb⟩
  have HR := Lib.hid hr
  have HN := Lib.hid hn
  clear hr hn
  replace HM := Lib.hid (HM.out.below hb)
  clear hb
  clear hHeld
  go_wp2_with fail
  refine hK.out _ _ ⟨HM.out.get (by exact q7m), HM.out.get (by exact q7m)⟩ (fun hHeld => ?_)
  clear hK K
  (try simp only [Act.put, qz1, qz2, qz3])
  (refine tkv 8 (.slice A n c) rfl ?_)
  (refine tkv 9 (.int .i64 0) rfl ?_)
  (refine tkv 10 (.slice A n c) rfl ?_)
  (refine tkv 11 (.int .i64 0) rfl ?_)
  refine wpAnyH_done (by kernel_rfl) ?_ _
  clear hHeld
  go_wp2_with fail
  go_ret2
  exact ⟨A, n, c, rfl, HN.out, HR.out, (by have HP := HM.out; (repeat (replace HP := HP.popH (by with_reducible assumption))); exact HP)⟩
 ·rw [if_pos (by rfl)]
  refine ov_alloc _ rfl rfl rowFrm HM ?_
  intro gF wA HMA HWA HGA
  have HGx := Lib.hid (Nat.le_trans HM.out.2.2.2.2.1 HGA.out)
  clear HM hHeld HWA HGA
  have HM := HMA
  clear HMA
  refine hK.out _ _ ⟨HM.out.get (by exact q7m), HM.out.get (by exact q7m), HM.out.get (by exact q7m)⟩ (fun hHeld => ?_)
  clear hK K
  (try simp only [Act.put, qz1, qz2, qz3])
  refine wpAnyH_ready (rs := [2]) (by kernel_rfl) (by simp) ?_; refine AllReadyH.cons rfl (fun K hK => ?_) (AllReadyH.nil)
  rw [if_pos (by rfl)]; go_simp
  refine (HKI.out _ _ (Lib.hid (HM.out.sub (by exact q7v)))).mono ?_
  rintro e w3 ⟨rfl, hm⟩
  have HM2 := Lib.hid (HM.out.after (by exact q7i) hm)
  clear hm HM
  have HM := HM2
  clear HM2
  dsimp only [List.set] at HM
  clear hHeld
  go_wp2_with fail
  refine hK.out _ _ ⟨HM.out.get (by exact q7m), HM.out.get (by exact q7m), HM.out.get (by exact q7m)⟩ (fun hHeld => ?_)
  clear hK K
  (try simp only [Act.put, qz1, qz2, qz3])
  (refine tk 5 rfl (yi_b3 rfl _ _ _ _ rfl rfl rfl rfl _ (HBF.out)) ?_)
  refine wpAnyH_ready (rs := [7]) (by kernel_rfl) (by simp) ?_; refine AllReadyH.cons rfl (fun K hK => ?_) (AllReadyH.nil)
  rw [if_pos (by rfl)]; refine ov_store _ _ _ rfl rfl rfl rowFrm HM (by exact q7i) (by exact q7s) (by exact q7s) (by exact q7o) rfl ?_; clear HM; intro us HM; dsimp only [List.set] at HM
  clear hHeld
  refine hK.out _ _ ⟨HM.out.get (by exact q7m), HM.out.get (by exact q7m), HM.out.get (by exact q7m)⟩ (fun hHeld => ?_)
  clear hK K
  (try simp only [Act.put, qz1, qz2, qz3])
  refine wpAnyH_done (by kernel_rfl) ?_ _
  clear hHeld
  go_wp2_with (first | (refine tQl ?_) | (refine tQs ?_; clear HM; intro us HM; dsimp only [List.set] at HM) | (refine tQt ?_; clear HM HTW; intro us HM HTW; dsimp only [List.set] at HM HTW) | (refine tQb ?_) | (refine tQn ?_; first | (have q:dV HM = 0:=rfl;clear q HM;intro g1 u1 HG1 HM) | (have q:dV HM = 1:=rfl;clear q HM;intro g2 u2 HG2 HM) | (have q:dV HM = 2:=rfl;clear q HM;intro g3 u3 HG3 HM) | (have q:dV HM = 3:=rfl;clear q HM;intro g4 u4 HG4 HM) | (have q:dV HM = 4:=rfl;clear q HM;intro g5 u5 HG5 HM) | (have q:dV HM = 5:=rfl;clear q HM;intro g6 u6 HG6 HM) | (have q:dV HM = 6:=rfl;clear q HM;intro g7 u7 HG7 HM) | (have q:dV HM = 7:=rfl;clear q HM;intro g8 u8 HG8 HM) | (have q:dV HM = 8:=rfl;clear q HM;intro g9 u9 HG9 HM) | (have q:dV HM = 9:=rfl;clear q HM;intro g10 u10 HG10 HM)) | (first | (refine aQl ?_) | (refine aQs ?_; clear HM; intro us HM; dsimp only [List.set] at HM) | (refine aQt ?_; clear HM HSW; intro us HM HSW; dsimp only [List.set] at HM HSW) | (refine aQv ?_; clear HM; intro us HM; dsimp only [List.set] at HM) | (refine aQb ?_) | (refine aQn ?_; first | (have q:dV HM = 0:=rfl;clear q HM;intro g1 u1 HG1 HM) | (have q:dV HM = 1:=rfl;clear q HM;intro g2 u2 HG2 HM) | (have q:dV HM = 2:=rfl;clear q HM;intro g3 u3 HG3 HM) | (have q:dV HM = 3:=rfl;clear q HM;intro g4 u4 HG4 HM) | (have q:dV HM = 4:=rfl;clear q HM;intro g5 u5 HG5 HM) | (have q:dV HM = 5:=rfl;clear q HM;intro g6 u6 HG6 HM) | (have q:dV HM = 6:=rfl;clear q HM;intro g7 u7 HG7 HM) | (have q:dV HM = 7:=rfl;clear q HM;intro g8 u8 HG8 HM) | (have q:dV HM = 8:=rfl;clear q HM;intro g9 u9 HG9 HM) | (have q:dV HM = 9:=rfl;clear q HM;intro g10 u10 HG10 HM))))
  refine wp_region_held_drew (S := fun y => Blk y m 80 (tyC ⟨t.p, t.hang, t.sent + 1, 0, t.s⟩) ∧ Blk y gF 57 (icells F)) (by kernel_rfl) ⟨HM.out.drew.get (by exact q7m), HM.out.drew.get (by exact q7m)⟩ (fun hHeld => ?_)
  have HMd := Lib.hid HM.out.drew
  clear HM
  have HM := HMd
  clear HMd
  generalize World.drew _ = wd at HM hHeld ⊢
  (refine tk 0 rfl (yv_load rfl _ _ rfl rfl (fun u hu => run_load_blk rowFrm hu.2 ((icells_size _).trans LF.out))) ?_)
  (refine tkv 1 (.pointer (some ⟨m, 0, none⟩)) rfl ?_)
  (refine tkv 2 (.pointer (some ⟨m, 0, none⟩)) rfl ?_)
  (refine tkg 3 (.pointer (some ⟨m, 0, none⟩)) rfl ?_)
  (refine tkg 4 (.pointer (some ⟨m, 19, none⟩)) rfl ?_)
  (refine tkg 5 (.pointer (some ⟨m, 35, none⟩)) rfl ?_)
  (refine tk 6 rfl (yv_load rfl _ _ rfl rfl (fun u hu => run_load_tL HTW hu.1)) ?_)
  refine wpAnyH_ready (rs := [7]) (by kernel_rfl) (by simp) ?_; refine AllReadyH.cons rfl (fun K hK => ?_) (AllReadyH.nil)
  rw [if_pos (by rfl)]; go_simp
  refine (HWR.out _ (HE.out.below HM.out.1)).mono ?_
  rintro e w5 ⟨A, n, c, rfl, hn, hr, hb⟩
  have HR := Lib.hid hr
  have HN := Lib.hid hn
  clear hr hn
  replace HM := Lib.hid (HM.out.below hb)
  clear hb
  clear hHeld
  go_wp2_with fail
  refine hK.out _ _ ⟨HM.out.get (by exact q7m), HM.out.get (by exact q7m)⟩ (fun hHeld => ?_)
  clear hK K
  (try simp only [Act.put, qz1, qz2, qz3])
  (refine tkv 8 (.slice A n c) rfl ?_)
  (refine tkv 9 (.int .i64 0) rfl ?_)
  (refine tkv 10 (.slice A n c) rfl ?_)
  (refine tkv 11 (.int .i64 0) rfl ?_)
  refine wpAnyH_done (by kernel_rfl) ?_ _
  clear hHeld
  go_wp2_with fail
  go_ret2
  exact ⟨A, n, c, rfl, HN.out, HR.out, (by have HP := HM.out; (repeat (replace HP := HP.popH (by with_reducible assumption))); exact HP)⟩
theorem trest_any {w0 w1 w : World} {m : Nat} (t : Ty) (l : List Int) (bs : List Nat) (hm : Hid (MV w0 w1 [(m, 80, tyC t)] w)) (ht : Hid (TyW t)) (hs : 0 ≤ t.quiet ∧ t.quiet ≤ 1099511627776) (ll : l.length = 6)
  (hfr : Fr 2 l (zr 16) t.s.l) (hbs : (if t.quiet % 8 = 0 then wrB 2 l (zr 16) t.s.l else []) = bs) (he : Hid (Edg w0)) :
  Calls Tryz.prog 88 #[.pointer (some ⟨m, 0, none⟩), .agg (icells l)] w (BtQ w0 w1 m ⟨t.p, t.hang, 0, t.quiet + 1, t.s⟩ bs) := by
 have HM := hm
 have HTW := ht
 have HE := he
 have LL := Lib.hid ll
 have HDU := Lib.hid (fun u b hb => isDue_any t.quiet b u hs hb)
 have w1' : IntKind.i64.wrap (t.quiet + 1) = t.quiet + 1 := i64_w (by omega) (by omega)
 unfold BtQ
 by_cases hd : t.quiet % 8 = 0
 ·have HD := Lib.hid (fun u => HDU.out u true (decide_eq_true hd))
  obtain ⟨F, hF⟩ : ∃ F, F = frL 2 l (zr 16) := ⟨_, rfl⟩
  have HBF := Lib.hid (built_fr2 2 ll)
  have HWR := Lib.hid (fun u (h : Edg u) => wr_good u (frS_mk (K := 2) ll (zr_length 16)) ht.out.sy.ll hfr h)
  rw [if_pos hd] at hbs
  rw [← hF] at HBF HWR
  rw [hbs] at HWR
  have LF := Lib.hid (show F.length = 23 by rw [hF]; exact frL_len ll (zr_length 16))
  unfold wrQ at HWR
  clear hm ht he hs ll hfr hd hF hbs HDU
  go_enter Tryz.func88, Tryz.ntmps88
  go_wp2_with (first | (refine tQl ?_) | (refine tQs ?_; clear HM; intro us HM; dsimp only [List.set] at HM) | (refine tQt ?_; clear HM HTW; intro us HM HTW; dsimp only [List.set] at HM HTW) | (refine tQb ?_) | (refine tQn ?_; first | (have q:dV HM = 0:=rfl;clear q HM;intro g1 u1 HG1 HM) | (have q:dV HM = 1:=rfl;clear q HM;intro g2 u2 HG2 HM) | (have q:dV HM = 2:=rfl;clear q HM;intro g3 u3 HG3 HM) | (have q:dV HM = 3:=rfl;clear q HM;intro g4 u4 HG4 HM) | (have q:dV HM = 4:=rfl;clear q HM;intro g5 u5 HG5 HM) | (have q:dV HM = 5:=rfl;clear q HM;intro g6 u6 HG6 HM) | (have q:dV HM = 6:=rfl;clear q HM;intro g7 u7 HG7 HM) | (have q:dV HM = 7:=rfl;clear q HM;intro g8 u8 HG8 HM) | (have q:dV HM = 8:=rfl;clear q HM;intro g9 u9 HG9 HM) | (have q:dV HM = 9:=rfl;clear q HM;intro g10 u10 HG10 HM)) | (first | (refine aQl ?_) | (refine aQs ?_; clear HM; intro us HM; dsimp only [List.set] at HM) | (refine aQt ?_; clear HM HSW; intro us HM HSW; dsimp only [List.set] at HM HSW) | (refine aQv ?_; clear HM; intro us HM; dsimp only [List.set] at HM) | (refine aQb ?_) | (refine aQn ?_; first | (have q:dV HM = 0:=rfl;clear q HM;intro g1 u1 HG1 HM) | (have q:dV HM = 1:=rfl;clear q HM;intro g2 u2 HG2 HM) | (have q:dV HM = 2:=rfl;clear q HM;intro g3 u3 HG3 HM) | (have q:dV HM = 3:=rfl;clear q HM;intro g4 u4 HG4 HM) | (have q:dV HM = 4:=rfl;clear q HM;intro g5 u5 HG5 HM) | (have q:dV HM = 5:=rfl;clear q HM;intro g6 u6 HG6 HM) | (have q:dV HM = 6:=rfl;clear q HM;intro g7 u7 HG7 HM) | (have q:dV HM = 7:=rfl;clear q HM;intro g8 u8 HG8 HM) | (have q:dV HM = 8:=rfl;clear q HM;intro g9 u9 HG9 HM) | (have q:dV HM = 9:=rfl;clear q HM;intro g10 u10 HG10 HM))))
  refine (HD.out _).mono ?_
  rintro e w2 ⟨rfl, hb⟩
  replace HM := Lib.hid (HM.out.below hb)
  clear hb HD
  go_wp2_with (first | (refine tQl ?_) | (refine tQs ?_; clear HM; intro us HM; dsimp only [List.set] at HM) | (refine tQt ?_; clear HM HTW; intro us HM HTW; dsimp only [List.set] at HM HTW) | (refine tQb ?_) | (refine tQn ?_; first | (have q:dV HM = 0:=rfl;clear q HM;intro g1 u1 HG1 HM) | (have q:dV HM = 1:=rfl;clear q HM;intro g2 u2 HG2 HM) | (have q:dV HM = 2:=rfl;clear q HM;intro g3 u3 HG3 HM) | (have q:dV HM = 3:=rfl;clear q HM;intro g4 u4 HG4 HM) | (have q:dV HM = 4:=rfl;clear q HM;intro g5 u5 HG5 HM) | (have q:dV HM = 5:=rfl;clear q HM;intro g6 u6 HG6 HM) | (have q:dV HM = 6:=rfl;clear q HM;intro g7 u7 HG7 HM) | (have q:dV HM = 7:=rfl;clear q HM;intro g8 u8 HG8 HM) | (have q:dV HM = 8:=rfl;clear q HM;intro g9 u9 HG9 HM) | (have q:dV HM = 9:=rfl;clear q HM;intro g10 u10 HG10 HM)) | (first | (refine aQl ?_) | (refine aQs ?_; clear HM; intro us HM; dsimp only [List.set] at HM) | (refine aQt ?_; clear HM HSW; intro us HM HSW; dsimp only [List.set] at HM HSW) | (refine aQv ?_; clear HM; intro us HM; dsimp only [List.set] at HM) | (refine aQb ?_) | (refine aQn ?_; first | (have q:dV HM = 0:=rfl;clear q HM;intro g1 u1 HG1 HM) | (have q:dV HM = 1:=rfl;clear q HM;intro g2 u2 HG2 HM) | (have q:dV HM = 2:=rfl;clear q HM;intro g3 u3 HG3 HM) | (have q:dV HM = 3:=rfl;clear q HM;intro g4 u4 HG4 HM) | (have q:dV HM = 4:=rfl;clear q HM;intro g5 u5 HG5 HM) | (have q:dV HM = 5:=rfl;clear q HM;intro g6 u6 HG6 HM) | (have q:dV HM = 6:=rfl;clear q HM;intro g7 u7 HG7 HM) | (have q:dV HM = 7:=rfl;clear q HM;intro g8 u8 HG8 HM) | (have q:dV HM = 8:=rfl;clear q HM;intro g9 u9 HG9 HM) | (have q:dV HM = 9:=rfl;clear q HM;intro g10 u10 HG10 HM))))
  refine wp_region_held_drew (S := fun y => Blk y m 80 (tyC ⟨t.p, t.hang, 0, t.quiet + 1, t.s⟩) ∧ Blk y g2 29 (icells l)) (by kernel_rfl) ⟨HM.out.drew.get (by exact q7m), HM.out.drew.get (by exact q7m)⟩ (fun hHeld => ?_)
  have HMd := Lib.hid HM.out.drew
  clear HM
  have HM := HMd
  clear HMd
  generalize World.drew _ = wd at HM hHeld ⊢
  (refine tk 0 rfl (yv_load rfl _ _ rfl rfl (fun u hu => run_load_blk (Arr.row arrLev) hu.2 ((icells_size _).trans LL.out))) ?_)
  (refine tk 1 rfl (yi_b2 rfl _ _ _ rfl rfl rfl _ (HBF.out)) ?_)
  (refine tkv 2 (.pointer (some ⟨m, 0, none⟩)) rfl ?_)
  (refine tkv 3 (.pointer (some ⟨m, 0, none⟩)) rfl ?_)
  (refine tkg 4 (.pointer (some ⟨m, 0, none⟩)) rfl ?_)
  (refine tkg 5 (.pointer (some ⟨m, 19, none⟩)) rfl ?_)
  (refine tkg 6 (.pointer (some ⟨m, 35, none⟩)) rfl ?_)
  (refine tk 7 rfl (yv_load rfl _ _ rfl rfl (fun u hu => run_load_tL HTW hu.1)) ?_)
  refine wpAnyH_ready (rs := [8]) (by kernel_rfl) (by simp) ?_; refine AllReadyH.cons rfl (fun K hK => ?_) (AllReadyH.nil)
  rw [if_pos (by rfl)]; go_simp
  refine (HWR.out _ (HE.out.below HM.out.1)).mono ?_
  rintro e w5 ⟨A, n, c, rfl, hn, hr, hb⟩
  have HR := Lib.hid hr
  have HN := Lib.hid hn
  clear hr hn
  replace HM := Lib.hid (HM.out.below hb)
  clear hb
  clear hHeld
  go_wp2_with fail
  refine hK.out _ _ ⟨HM.out.get (by exact q7m), HM.out.get (by exact q7m)⟩ (fun hHeld => ?_)
  clear hK K
  (try simp only [Act.put, qz1, qz2, qz3])
  (refine tkv 9 (.slice A n c) rfl ?_)
  (refine tkv 10 (.int .i64 0) rfl ?_)
  (refine tkv 11 (.slice A n c) rfl ?_)
  (refine tkv 12 (.int .i64 0) rfl ?_)
  refine wpAnyH_done (by kernel_rfl) ?_ _
  clear hHeld
  go_wp2_with fail
  go_ret2
  exact ⟨A, n, c, rfl, HN.out, HR.out, (by have HP := HM.out; (repeat (replace HP := HP.popH (by with_reducible assumption))); exact HP)⟩
 ·have HD := Lib.hid (fun u => HDU.out u false (decide_eq_false hd))
  rw [if_neg hd] at hbs
  subst hbs
  clear hm ht he hs ll hfr hd HDU
  go_enter Tryz.func88, Tryz.ntmps88
  go_wp2_with (first | (refine tQl ?_) | (refine tQs ?_; clear HM; intro us HM; dsimp only [List.set] at HM) | (refine tQt ?_; clear HM HTW; intro us HM HTW; dsimp only [List.set] at HM HTW) | (refine tQb ?_) | (refine tQn ?_; first | (have q:dV HM = 0:=rfl;clear q HM;intro g1 u1 HG1 HM) | (have q:dV HM = 1:=rfl;clear q HM;intro g2 u2 HG2 HM) | (have q:dV HM = 2:=rfl;clear q HM;intro g3 u3 HG3 HM) | (have q:dV HM = 3:=rfl;clear q HM;intro g4 u4 HG4 HM) | (have q:dV HM = 4:=rfl;clear q HM;intro g5 u5 HG5 HM) | (have q:dV HM = 5:=rfl;clear q HM;intro g6 u6 HG6 HM) | (have q:dV HM = 6:=rfl;clear q HM;intro g7 u7 HG7 HM) | (have q:dV HM = 7:=rfl;clear q HM;intro g8 u8 HG8 HM) | (have q:dV HM = 8:=rfl;clear q HM;intro g9 u9 HG9 HM) | (have q:dV HM = 9:=rfl;clear q HM;intro g10 u10 HG10 HM)) | (first | (refine aQl ?_) | (refine aQs ?_; clear HM; intro us HM; dsimp only [List.set] at HM) | (refine aQt ?_; clear HM HSW; intro us HM HSW; dsimp only [List.set] at HM HSW) | (refine aQv ?_; clear HM; intro us HM; dsimp only [List.set] at HM) | (refine aQb ?_) | (refine aQn ?_; first | (have q:dV HM = 0:=rfl;clear q HM;intro g1 u1 HG1 HM) | (have q:dV HM = 1:=rfl;clear q HM;intro g2 u2 HG2 HM) | (have q:dV HM = 2:=rfl;clear q HM;intro g3 u3 HG3 HM) | (have q:dV HM = 3:=rfl;clear q HM;intro g4 u4 HG4 HM) | (have q:dV HM = 4:=rfl;clear q HM;intro g5 u5 HG5 HM) | (have q:dV HM = 5:=rfl;clear q HM;intro g6 u6 HG6 HM) | (have q:dV HM = 6:=rfl;clear q HM;intro g7 u7 HG7 HM) | (have q:dV HM = 7:=rfl;clear q HM;intro g8 u8 HG8 HM) | (have q:dV HM = 8:=rfl;clear q HM;intro g9 u9 HG9 HM) | (have q:dV HM = 9:=rfl;clear q HM;intro g10 u10 HG10 HM))))
  refine (HD.out _).mono ?_
  rintro e w2 ⟨rfl, hb⟩
  replace HM := Lib.hid (HM.out.below hb)
  clear hb HD
  go_wp2_with (first | (refine tQl ?_) | (refine tQs ?_; clear HM; intro us HM; dsimp only [List.set] at HM) | (refine tQt ?_; clear HM HTW; intro us HM HTW; dsimp only [List.set] at HM HTW) | (refine tQb ?_) | (refine tQn ?_; first | (have q:dV HM = 0:=rfl;clear q HM;intro g1 u1 HG1 HM) | (have q:dV HM = 1:=rfl;clear q HM;intro g2 u2 HG2 HM) | (have q:dV HM = 2:=rfl;clear q HM;intro g3 u3 HG3 HM) | (have q:dV HM = 3:=rfl;clear q HM;intro g4 u4 HG4 HM) | (have q:dV HM = 4:=rfl;clear q HM;intro g5 u5 HG5 HM) | (have q:dV HM = 5:=rfl;clear q HM;intro g6 u6 HG6 HM) | (have q:dV HM = 6:=rfl;clear q HM;intro g7 u7 HG7 HM) | (have q:dV HM = 7:=rfl;clear q HM;intro g8 u8 HG8 HM) | (have q:dV HM = 8:=rfl;clear q HM;intro g9 u9 HG9 HM) | (have q:dV HM = 9:=rfl;clear q HM;intro g10 u10 HG10 HM)) | (first | (refine aQl ?_) | (refine aQs ?_; clear HM; intro us HM; dsimp only [List.set] at HM) | (refine aQt ?_; clear HM HSW; intro us HM HSW; dsimp only [List.set] at HM HSW) | (refine aQv ?_; clear HM; intro us HM; dsimp only [List.set] at HM) | (refine aQb ?_) | (refine aQn ?_; first | (have q:dV HM = 0:=rfl;clear q HM;intro g1 u1 HG1 HM) | (have q:dV HM = 1:=rfl;clear q HM;intro g2 u2 HG2 HM) | (have q:dV HM = 2:=rfl;clear q HM;intro g3 u3 HG3 HM) | (have q:dV HM = 3:=rfl;clear q HM;intro g4 u4 HG4 HM) | (have q:dV HM = 4:=rfl;clear q HM;intro g5 u5 HG5 HM) | (have q:dV HM = 5:=rfl;clear q HM;intro g6 u6 HG6 HM) | (have q:dV HM = 6:=rfl;clear q HM;intro g7 u7 HG7 HM) | (have q:dV HM = 7:=rfl;clear q HM;intro g8 u8 HG8 HM) | (have q:dV HM = 8:=rfl;clear q HM;intro g9 u9 HG9 HM) | (have q:dV HM = 9:=rfl;clear q HM;intro g10 u10 HG10 HM))))
  go_ret2
  exact ⟨none, 0, 0, rfl, by omega, Rd.none_, (by have HP := HM.out; (repeat (replace HP := HP.popH (by with_reducible assumption))); exact HP)⟩
end Go.Proofs.YtkdbhndegkldcaaGreatDoor.Lp
namespace Go.Proofs.YtkdbhndegkldcaaGreatDoor.Cd
open Go.RowKit
def dcC (d : De) (A : Option Addr) (n c : Nat) (N : Int) : Array Value := #[.int .u32 (d.low : Int), .int .u32 (d.high : Int), .int .u32 (d.code : Int), .slice A n c, .int .i64 N, .int .i64 (d.at_ : Int)]
def NOut (w : World) (lo hi co : Nat) (At N K E : Int) (bs : List Nat) (e : Ending) (w' : World) : Prop :=
 ∃ A n c, e = .returned (.tuple #[decV lo hi co A n c N At, .int .i64 K, .int .i64 E]) ∧ Below w.heap.size w w' ∧ Rd w' A n bs
theorem NOut.err {w w' : World} {E : Int} (hb : Below w.heap.size w w') : NOut w 0 0 0 0 0 0 E [] (.returned (.tuple #[decV 0 0 0 none 0 0 0 0, .int .i64 0, .int .i64 E])) w' := ⟨none, 0, 0, rfl, hb, Rd.none_⟩
structure NeS (w : World) (b : Nat) (cs : Array Value) (C : Option Addr) (m dd : Nat) (xs : List Int) (u : World) : Prop where
 box : Blk u b 119 cs
 fr : Blk u (b + 1) 130 #[.slice C m dd]
 res : Blk u (b + 1 + 1) 119 #[.int .u32 0, .int .u32 0, .int .u32 0, .slice none 0 0, .int .i64 0, .int .i64 0]
 rd : Fq.RdI u C m xs
 hb : w.heap.size ≤ b
 blw : Below w.heap.size w u
section
variable {w : World} {b : Nat} {cs : Array Value} {C : Option Addr} {m dd : Nat} {xs : List Int} {u u' : World}
theorem NeS.next (h : NeS w b cs C m dd xs u) (hb : Below u.heap.size u u') : NeS w b cs C m dd xs u' :=
 ⟨h.box.below hb h.box.lt, h.fr.below hb h.fr.lt, h.res.below hb h.res.lt, h.rd.below hb, h.hb, h.blw.trans (hb.mono h.blw.size)⟩
theorem NeS.drewN (h : NeS w b cs C m dd xs u) (q : Nat) : NeS w b cs C m dd xs (u.drewN q) := ⟨h.box, h.fr, h.res, h.rd, h.hb, below_drewN h.blw q⟩
theorem nes_start (w : World) (cs : Array Value) (C : Option Addr) (m dd : Nat) (xs : List Int) (hx : Fq.RdI w C m xs) :
  NeS w w.heap.size cs C m dd xs (((w.alloc (.cells cs 119)).alloc (.cells #[.slice C m dd] 130)).alloc (.cells #[.int .u32 0, .int .u32 0, .int .u32 0, .slice none 0 0, .int .i64 0, .int .i64 0] 119)) :=
 ⟨((Blk.new w _ _).alloc _).alloc _, (Blk.newAt (by simp)).alloc _, Blk.newAt (by simp), ((hx.alloc _).alloc _).alloc _, Nat.le_refl _, (((Below.refl w.heap.size w).alloc (Nat.le_refl _) _).alloc (by simp) _).alloc (by simp; omega) _⟩
end
theorem okD_mk {d : De} {l : List Bool} (h : FineD d) (hl : l.length ≤ 65536) (h1 : 32 ≤ d.at_) (h2 : d.at_ ≤ 65600) : okD d.low d.high d.code (pack l) (l.length : Int) (d.at_ : Int) = true := by
 unfold okD wideB
 obtain ⟨⟨a1, a2⟩, a3, a4, a5⟩ := h
 have a6 : d.low < d.high := by
  rcases kind_cases d.low d.high with ⟨h, _⟩ | ⟨h, _⟩ | ⟨h, _⟩ | ⟨h, h1, h2, _⟩ <;> omega
 rw [decide_eq_true (show d.low < d.high ∧ d.high < 4294967296 ∧ kind d.low d.high = 3 from ⟨a6, a2, a3⟩), decide_eq_true a4, decide_eq_true a5, okB_pack l hl, decide_eq_true (show (32 : Int) ≤ (d.at_ : Int) by omega), decide_eq_true (show (d.at_ : Int) ≤ 65600 by omega)]
 rfl
theorem isB_it1 {w : World} {A : Option Addr} {n c : Nat} {N : Int} {l : List Bool} (h : IsB w (.agg #[.slice A n c, .int .i64 N]) l) : It.ok ⟨A, n, c, N, pack l⟩ = true ∧ It.bits ⟨A, n, c, N, pack l⟩ = l := by
 obtain ⟨_, hN, _, hl⟩ := isB_parts h
 refine ⟨?_, ?_⟩
 ·show okB (pack l) N = true
  rw [hN]; exact okB_pack l hl
 ·show bitsIn (pack l) N.toNat = l
  rw [hN]; exact bitsIn_pack l
theorem join_one {w : World} {b : Nat} {A1 : Option Addr} {n1 c1 : Nat} {N1 : Int} {l1 : List Bool} (h1 : IsB w (.agg #[.slice A1 n1 c1, .int .i64 N1]) l1) (hb : Blk w b 100 #[.slice A1 n1 c1, .int .i64 N1]) :
  Calls Tryz.prog 112 #[.slice (some ⟨b, 0, none⟩) 1 1] w (BOut w (JQ w.heap.size l1)) := by
 have hall : allBits [⟨A1, n1, c1, N1, pack l1⟩] = l1 := by
  show It.bits _ ++ [] = _
  rw [(isB_it1 h1).2, List.append_nil]
 have := join_out (some ⟨b, 0, none⟩) 1 1 [⟨A1, n1, c1, N1, pack l1⟩] w (by omega) ?_ ?_
 ·rw [hall] at this; exact this
 ·refine ⟨rfl, fun _ => ⟨_, rfl, fun j x hx => ?_⟩⟩
  rcases (show j = 0 by
   obtain ⟨hk, _⟩ := List.getElem?_eq_some_iff.1 hx
   have hk' : j < 1 := hk
   omega) with rfl
  injection hx with hx
  subst hx
  exact ⟨hb.cell 0, hb.cell 1, (isB_parts h1).2.2.1⟩
 ·intro x hx
  have : x = ⟨A1, n1, c1, N1, pack l1⟩ := by simpa using hx
  rw [this]
  exact (isB_it1 h1).1
theorem rstate_any (p : Nat) (d : De) (A : Option Addr) (n c L : Nat) (l : List Bool) (w : World) (hs : Hid (RdS w p d A n c (L : Int))) (hI : Hid (IsB w (.agg #[.slice A n c, .int .i64 (L : Int)]) l)) :
  Calls Tryz.prog 90 #[.pointer (some ⟨p, 0, none⟩)] w (DOut w d.low d.high d.code (d.at_ : Int) (L : Int) 0 (pack l)) := by
 have hL := (isB_parts hI.out).2.1
 have HLL := Lib.hid (show l.length ≤ 65536 ∧ (L : Int) = (l.length : Int) from ⟨(isB_parts hI.out).2.2.2, hL⟩)
 clear hL
 have HK := Lib.hid (show Blk ((w.alloc (.cells #[.int .u32 0, .int .u32 0, .int .u32 0, .slice none 0 0, .int .i64 0, .int .i64 0] 119)).alloc (.cells #[.slice A n c, .int .i64 (L : Int)] 100)) w.heap.size 119 #[.int .u32 0, .int .u32 0, .int .u32 0, .slice none 0 0, .int .i64 0, .int .i64 0] from (Blk.new w _ _).alloc _)
 have HJ := Lib.hid (show Blk ((w.alloc (.cells #[.int .u32 0, .int .u32 0, .int .u32 0, .slice none 0 0, .int .i64 0, .int .i64 0] 119)).alloc (.cells #[.slice A n c, .int .i64 (L : Int)] 100)) (w.heap.size + 1) 100 #[.slice A n c, .int .i64 (L : Int)] from Blk.newAt (by simp))
 have HW := Lib.hid (show Below w.heap.size w ((w.alloc (.cells #[.int .u32 0, .int .u32 0, .int .u32 0, .slice none 0 0, .int .i64 0, .int .i64 0] 119)).alloc (.cells #[.slice A n c, .int .i64 (L : Int)] 100)) from ((Below.refl w.heap.size w).alloc (Nat.le_refl _) _).alloc (by simp) _)
 obtain ⟨-, -, -, c3, c4, -⟩ := hs.out.six
 have lp := Blk.lt hs.out
 go_enter Tryz.func90, Tryz.ntmps90
 go_wp2_with fail
 clear c3 c4 lp
 generalize (w.alloc (.cells #[.int .u32 0, .int .u32 0, .int .u32 0, .slice none 0 0, .int .i64 0, .int .i64 0] 119)).alloc (.cells #[.slice A n c, .int .i64 (L : Int)] 100) = w1 at HK HJ HW ⊢
 obtain ⟨br, hbr⟩ : ∃ br, br = w.heap.size := ⟨_, rfl⟩
 rw [← hbr] at HK HJ ⊢
 have HBR := Lib.hid hbr
 clear hbr
 refine (join_one (hI.out.below HW.out) HJ.out).mono ?_
 rintro e w2 ⟨A2, n2, c2, N2, er, rfl, hb2, hq⟩
 have hq2 : er = 0 ∧ IsN w2 w1.heap.size (.agg #[.slice A2 n2 c2, .int .i64 N2]) l := by
  rcases hq with ⟨_, h1, h2⟩ | ⟨h, _⟩
  ·exact ⟨h1, h2⟩
  ·have := HLL.out.1; omega
 obtain ⟨rfl, hIN⟩ := hq2
 have hN2 : N2 = (L : Int) := by rw [(isB_parts hIN.isB).2.1, HLL.out.2]
 subst hN2
 have HIN := Lib.hid (show IsB (w2.alloc (.cells #[.slice A2 n2 c2, .int .i64 (L : Int)] 100)) (.agg #[.slice A2 n2 c2, .int .i64 (L : Int)]) l ∧ (∀ ad, A2 = some ad → 0 < n2 → ad.block ≠ br) from ⟨hIN.isB.alloc _, fun ad ha _ => by
  obtain ⟨g, e, hg, _⟩ := hIN
  simp only [Value.agg.injEq, Array.mk.injEq, List.cons.injEq, Value.slice.injEq, and_true] at e
  have e1 := e.1.1
  rw [ha] at e1
  injection e1 with e1
  rw [e1]
  have := HK.out.lt
  show g ≠ br
  omega⟩)
 have HK2 := Lib.hid ((HK.out.below hb2 HK.out.lt).alloc (.cells #[.slice A2 n2 c2, .int .i64 (L : Int)] 100))
 have HX2 := Lib.hid (Blk.new w2 100 #[.slice A2 n2 c2, .int .i64 (L : Int)])
 have HW2 := Lib.hid ((HW.out.trans (hb2.mono HW.out.size)).alloc (HW.out.trans (hb2.mono HW.out.size)).size (.cells #[.slice A2 n2 c2, .int .i64 (L : Int)] 100))
 have HS2 := Lib.hid (hs.out.next HW2.out)
 clear hb2 hq hIN HJ HW HK
 go_wp2_with fail
 generalize w2.alloc (.cells #[.slice A2 n2 c2, .int .i64 (L : Int)] 100) = w3 at HIN HK2 HX2 HW2 HS2 ⊢
 generalize w2.heap.size = b4 at HX2 ⊢
 obtain ⟨x0, x1, x2, -, -, x5⟩ := HS2.out.six
 obtain ⟨j0, j1, -, -⟩ := blk2 HX2.out
 obtain ⟨y1, y2, y3, y4, y5, y6⟩ := blk6 HK2.out
 obtain ⟨z1, z2, z3, z4, z5, z6⟩ := frz6 HK2.out
 go_still_tail 20, (by kernel_rfl)
 change wpList _ _ _ _ _ w3.drew
 have HIN4 := Lib.hid (show IsB w3.drew (.agg #[.slice A2 n2 c2, .int .i64 (L : Int)]) l ∧ (∀ ad, A2 = some ad → 0 < n2 → ad.block ≠ br) from ⟨HIN.out.1, HIN.out.2⟩)
 have HK4 := Lib.hid (HK2.out.drew)
 have HW4 := Lib.hid (Below.drew HW2.out)
 clear x0 x1 x2 x5 j0 j1 y1 y2 y3 y4 y5 y6 z1 z2 z3 z4 z5 z6 HIN HK2 HW2 HX2 HS2
 generalize w3.drew = w4 at HIN4 HK4 HW4 ⊢
 obtain ⟨y1, y2, y3, y4, y5, y6⟩ := blk6 HK4.out
 obtain ⟨z1, z2, z3, z4, z5, z6⟩ := frz6 HK4.out
 go_wp2
 refine bodyPost_ret (v := .tuple #[decV d.low d.high d.code A2 n2 c2 (L : Int) (d.at_ : Int), .int .i64 0]) (by simp [results, Tryz.results90, go_sem, decV, y1, y2, y3, y4, y5, y6]) rfl ⟨A2, n2, c2, rfl, below6 HW4.out (by have := HBR.out; omega) _ _ _ _ _ _, ?_⟩
 obtain ⟨-, -, q3, -⟩ := isB_parts HIN4.out.1
 exact rd_far (rd_far (rd_far (rd_far (rd_far (rd_far q3 HIN4.out.2 _ _) HIN4.out.2 _ _) HIN4.out.2 _ _) HIN4.out.2 _ _) HIN4.out.2 _ _) HIN4.out.2 _ _
def RnR (l : List Bool) (fin : De) (gk : Nat) (q : De) : Prop :=
 widD gk l q = fin ∧ Ok q.low q.high ∧ q.low ≤ q.code ∧ q.code ≤ q.high ∧ 4294967296 < (q.high - q.low + 1) * 2 ^ (gk + 1) ∧ q.at_ + gk ≤ 1000000
theorem RnR.step {l : List Bool} {fin q : De} {m : Nat} (h : RnR l fin (m + 1) q) (hk : kind q.low q.high ≠ 3) : RnR l fin m (stepD l q) := by
 obtain ⟨hf, hok, h1, h2, hw, ha⟩ := h
 obtain ⟨_, b1, b2, b3, b4, b5⟩ := stepD_facts (l := l) hok hk h1 h2
 refine ⟨?_, ⟨b5, b3⟩, b1, b2, ?_, ?_⟩
 ·unfold widD at hf; rwa [if_neg hk] at hf
 ·rw [b4]
  rw [Nat.pow_succ 2 (m + 1)] at hw
  rw [Nat.mul_comm 2 (q.high - q.low + 1), Nat.mul_assoc, Nat.mul_comm 2]
  exact hw
 ·show q.at_ + 1 + m ≤ 1000000; omega
def RoW (w : World) (low high code : Nat) (A : Option Addr) (n c : Nat) (N At : Int) : World := (w.alloc (.cells #[.int .u32 (low : Int), .int .u32 (high : Int), .int .u32 (code : Int), .slice A n c, .int .i64 N, .int .i64 At] 119)).alloc (.cells #[.int .u32 (low : Int), .int .u32 (high : Int), .int .u32 (code : Int), .slice A n c, .int .i64 N, .int .i64 At] 206)
def RoOk (w : World) (low high code : Nat) (A : Option Addr) (n c : Nat) (N At : Int) (e : Ending) (w' : World) : Prop :=
 ∃ p, e = .returned (.tuple #[.pointer (some ⟨p, 0, none⟩), .int .i64 0]) ∧ w.heap.size ≤ p ∧ Blk w' p 206 #[.int .u32 (low : Int), .int .u32 (high : Int), .int .u32 (code : Int), .slice A n c, .int .i64 N, .int .i64 At] ∧ Below w.heap.size w w'
theorem reopen_any (low high code : Nat) (A : Option Addr) (n c : Nat) (N At : Int) (bs : List Nat) (r : Bool) (w : World) (_hl : low < 4294967296) (hh : high < 4294967296) (_hc : code < 4294967296) (hr : Hid (Rd w A n bs)) (hok : Hid (okD low high code bs N At = r)) :
  Calls Tryz.prog 97 #[decV low high code A n c N At] w fun e w' => (r = true ∧ RoOk w low high code A n c N At e w') ∨ (r = false ∧ OpNo w e w') := by
 have HK := Lib.hid (show Blk (RoW w low high code A n c N At) (w.heap.size + 1) 206 #[.int .u32 (low : Int), .int .u32 (high : Int), .int .u32 (code : Int), .slice A n c, .int .i64 N, .int .i64 At] from Blk.newAt (by simp))
 have HW := Lib.hid (show Below w.heap.size w (RoW w low high code A n c N At) from ((Below.refl w.heap.size w).alloc (Nat.le_refl _) _).alloc (by simp) _)
 unfold RoW at HK HW
 unfold decV
 go_enter Tryz.func97, Tryz.ntmps97
 go_wp2_with fail
 generalize (w.alloc (.cells #[.int .u32 (low : Int), .int .u32 (high : Int), .int .u32 (code : Int), .slice A n c, .int .i64 N, .int .i64 At] 119)).alloc (.cells #[.int .u32 (low : Int), .int .u32 (high : Int), .int .u32 (code : Int), .slice A n c, .int .i64 N, .int .i64 At] 206) = w1 at HK HW ⊢
 obtain ⟨p, hp⟩ : ∃ p, p = w.heap.size + 1 := ⟨_, rfl⟩
 rw [← hp] at HK ⊢
 have HP := Lib.hid (show w.heap.size ≤ p by omega)
 clear hp
 obtain ⟨kk, hkk⟩ : ∃ kk, kind low high = kk := ⟨_, rfl⟩
 have HKK := Lib.hid hkk
 refine (excess_any low high kk w1 hkk).mono ?_
 clear hkk
 rintro e w2 ⟨rfl, hb2⟩
 have HK2 := Lib.hid (HK.out.below hb2 HK.out.lt)
 have HW2 := Lib.hid (HW.out.trans (hb2.mono HW.out.size))
 clear hb2 HW HK
 obtain ⟨x0, x1, x2, x3, x4, x5⟩ := blk6 HK2.out
 unfold excT
 by_cases h3 : kk = 3
 ·subst h3
  have HWB := Lib.hid (show wideB low high = true from by
   unfold wideB
   refine decide_eq_true ⟨?_, hh, HKK.out⟩
   rcases kind_cases low high with ⟨h, _⟩ | ⟨h, _⟩ | ⟨h, _⟩ | ⟨h, h1, h2, _⟩
   ·have := HKK.out; omega
   ·have := HKK.out; omega
   ·have := HKK.out; omega
   ·omega)
  rw [show decide ((3 : Nat) ≠ 3) = false by decide]
  by_cases h1 : code < low
  ·have d1 : decide (code < low) = true := by simpa using h1
   have HE := Lib.hid (show r = false by rw [← hok.out]; unfold okD; rw [HWB.out, decide_eq_false (show ¬ low ≤ code by omega)]; rfl)
   go_wp2_with fail
   go_quiet (fail)
   go_wp2
   go_ret2
   exact .inr ⟨HE.out, rfl, below_drewN HW2.out _⟩
  ·have d1 : decide (code < low) = false := by simpa using h1
   by_cases h2 : high < code
   ·have d2 : decide (high < code) = true := by simpa using h2
    have HE := Lib.hid (show r = false by rw [← hok.out]; unfold okD; rw [HWB.out, decide_eq_true (show low ≤ code by omega), decide_eq_false (show ¬ code ≤ high by omega)]; rfl)
    go_wp2_with fail
    go_quiet (fail)
    go_wp2
    go_ret2
    exact .inr ⟨HE.out, rfl, below_drewN HW2.out _⟩
   ·have d2 : decide (high < code) = false := by simpa using h2
    by_cases h4 : At < 32
    ·have d4 : decide (At < 32) = true := by simpa using h4
     have HE := Lib.hid (show r = false by rw [← hok.out]; unfold okD; rw [decide_eq_false (show ¬ (32 : Int) ≤ At by omega)]; simp)
     go_wp2_with fail
     go_quiet (fail)
     go_wp2
     go_ret2
     exact .inr ⟨HE.out, rfl, below_drewN HW2.out _⟩
    ·have d4 : decide (At < 32) = false := by simpa using h4
     by_cases h5 : 65600 < At
     ·have d5 : decide (65600 < At) = true := by simpa using h5
      have HE := Lib.hid (show r = false by rw [← hok.out]; unfold okD; rw [decide_eq_false (show ¬ At ≤ 65600 by omega)]; simp)
      go_wp2_with fail
      go_quiet (fail)
      go_wp2
      go_ret2
      exact .inr ⟨HE.out, rfl, below_drewN HW2.out _⟩
     ·have d5 : decide (65600 < At) = false := by simpa using h5
      obtain ⟨ok, hokB⟩ : ∃ ok, okB bs N = ok := ⟨_, rfl⟩
      have HOK := Lib.hid hokB
      clear hokB
      have HE := Lib.hid (show r = ok by rw [← hok.out]; unfold okD; rw [HWB.out, decide_eq_true (show low ≤ code by omega), decide_eq_true (show code ≤ high by omega), HOK.out, decide_eq_true (show (32 : Int) ≤ At by omega), decide_eq_true (show At ≤ 65600 by omega)]; simp)
      have hcon := check_any A n c N bs w2.drew (hr.out.below (Below.drew HW2.out))
      rw [HOK.out] at hcon
      cases ok with
      | true =>
       have HCON := Lib.hid hcon
       clear hcon
       go_wp2_with fail
       go_still_tail 44, (by kernel_rfl)
       change wpList _ _ _ _ _ w2.drew
       go_wp2_with fail
       refine HCON.out.mono ?_
       rintro e w3 ⟨rfl, hb3⟩
       have HK3 := Lib.hid (HK2.out.drew.below hb3 HK2.out.lt)
       have HW3 := Lib.hid ((Below.drew HW2.out).trans (hb3.mono (Below.drew HW2.out).size))
       clear hb3 x0 x1 x2 x3 x4 x5 HCON
       go_wp2
       go_ret2
       exact .inl ⟨HE.out, p, rfl, HP.out, HK3.out, HW3.out⟩
      | false =>
       have HCON := Lib.hid hcon
       clear hcon
       go_wp2_with fail
       go_still_tail 44, (by kernel_rfl)
       change wpList _ _ _ _ _ w2.drew
       go_wp2_with fail
       refine HCON.out.mono ?_
       rintro e w3 ⟨rfl, hb3⟩
       have HW3 := Lib.hid ((Below.drew HW2.out).trans (hb3.mono (Below.drew HW2.out).size))
       clear hb3 x0 x1 x2 x3 x4 x5 HCON
       go_wp2
       go_ret2
       exact .inr ⟨HE.out, rfl, HW3.out⟩
 ·have HE := Lib.hid (show r = false by rw [← hok.out]; unfold okD wideB; rw [decide_eq_false (show ¬ (low < high ∧ high < 4294967296 ∧ kind low high = 3) from fun h => h3 (by rw [← HKK.out]; exact h.2.2))]; rfl)
  rw [show decide (kk ≠ 3) = true by simpa using h3]
  clear h3
  go_wp2_with fail
  go_quiet (fail)
  go_wp2
  go_ret2
  exact .inr ⟨HE.out, rfl, below_drewN HW2.out _⟩
theorem NeS.grown {w : World} {b p : Nat} {cs : Array Value} {C : Option Addr} {m dd : Nat} {xs : List Int} {u u' : World} (h : NeS w b cs C m dd xs u) (hg : u.grownBy u' (some p)) (hp : b + 1 + 1 < p) (hC : ∀ ad, C = some ad → 0 < m → ad.block ≠ p) : NeS w b cs C m dd xs u' :=
 ⟨h.box.only hg (by omega), h.fr.only hg (by omega), h.res.only hg (by omega), h.rd.only hg hC, h.hb, h.blw.grown hg h.blw.size (fun j hj => by injection hj with hj; have := h.hb; omega)⟩
theorem rd_six {w : World} {A : Option Addr} {n g : Nat} {bs : List Nat} {t : TypeId} {a0 a1 a2 a4 a5 : Int} {v0 : Option Addr} {v1 v2 : Nat} (h : Rd w A n bs) (hb : Blk w g t #[.int .u32 a0, .int .u32 a1, .int .u32 a2, .slice v0 v1 v2, .int .i64 a4, .int .i64 a5]) (x0 x1 x2 x3 x4 x5 : Value) :
  Rd ((((((w.setCell ⟨g, 0, none⟩ x0).setCell ⟨g, 1, none⟩ x1).setCell ⟨g, 2, none⟩ x2).setCell ⟨g, 3, none⟩ x3).setCell ⟨g, 4, none⟩ x4).setCell ⟨g, 5, none⟩ x5) A n bs := by
 have h0 := h.setCell (p := ⟨g, 0, none⟩) x0 (fun x => by rw [hb.cell 0]; simp [byteV])
 have b0 := hb.set_ 0 x0
 have h1 := h0.setCell (p := ⟨g, 1, none⟩) x1 (fun x => by rw [b0.cell 1]; simp [byteV])
 have b1 := b0.set_ 1 x1
 have h2 := h1.setCell (p := ⟨g, 2, none⟩) x2 (fun x => by rw [b1.cell 2]; simp [byteV])
 have b2 := b1.set_ 2 x2
 have h3 := h2.setCell (p := ⟨g, 3, none⟩) x3 (fun x => by rw [b2.cell 3]; simp [byteV])
 have b3 := b2.set_ 3 x3
 have h4 := h3.setCell (p := ⟨g, 4, none⟩) x4 (fun x => by rw [b3.cell 4]; simp [byteV])
 have b4 := b3.set_ 4 x4
 exact h4.setCell (p := ⟨g, 5, none⟩) x5 (fun x => by rw [b4.cell 5]; simp [byteV])
theorem below6a {g : Nat} {w u : World} (h : Below w.heap.size w u) (hg : w.heap.size ≤ g) (a b c d e f : Value) (o : Obj) : Below w.heap.size w (((((((u.setCell ⟨g, 0, none⟩ a).setCell ⟨g, 1, none⟩ b).setCell ⟨g, 2, none⟩ c).setCell ⟨g, 3, none⟩ d).setCell ⟨g, 4, none⟩ e).setCell ⟨g, 5, none⟩ f).alloc o) :=
 (below6 h hg a b c d e f).alloc (below6 h hg a b c d e f).size o
theorem rdI_lt {w : World} {C : Option Addr} {m : Nat} {xs : List Int} (h : Fq.RdI w C m xs) : ∀ ad, C = some ad → 0 < m → ad.block < w.heap.size := by
 intro ad ha h0
 obtain ⟨ad', e, hlt, _⟩ := h.at_ h0
 rw [ha] at e
 injection e with e
 rw [e]; exact hlt
def nxErr (d : De) (L : Nat) (xs : List Int) : Int := if Fq.okF xs = true then (if L + 32 < d.at_ then 20 else 0) else 1
theorem pnext_err (d : De) (A : Option Addr) (n c L : Nat) (l : List Bool) (C : Option Addr) (m dd : Nat) (xs : List Int) (E : Int) (w : World) (hI : Hid (IsB w (.agg #[.slice A n c, .int .i64 (L : Int)]) l)) (hd : Hid (FineD d)) (h32 : 32 ≤ d.at_) (hat : d.at_ ≤ 65600) (hx : Hid (Fq.RdI w C m xs)) (hm : Hid (m ≤ maxLen)) (hE : Hid (nxErr d L xs = E)) (hE0 : ¬ E = 0) :
  Calls Tryz.prog 69 #[decV d.low d.high d.code A n c (L : Int) (d.at_ : Int), .agg #[.slice C m dd]] w (NOut w 0 0 0 0 0 0 E []) := by
 obtain ⟨hn, hN, hr, hl⟩ := isB_parts hI.out
 have HOK := Lib.hid (show okD d.low d.high d.code (pack l) (L : Int) (d.at_ : Int) = true by rw [hN]; exact okD_mk hd.out hl h32 hat)
 have Lb : L ≤ 65536 := by omega
 have HR := Lib.hid hr
 have o1 := hd.out.1.1
 have o2 := hd.out.1.2
 have k1 := hd.out.2.2.1
 have k2 := hd.out.2.2.2
 clear hn hN hr hl
 have HS0 := Lib.hid (nes_start w #[.int .u32 (d.low : Int), .int .u32 (d.high : Int), .int .u32 (d.code : Int), .slice A n c, .int .i64 (L : Int), .int .i64 (d.at_ : Int)] C m dd xs hx.out)
 have hcon := fun u (hb : Below w.heap.size w u) => reopen_any d.low d.high d.code A n c (L : Int) (d.at_ : Int) (pack l) true u (by omega) (by omega) (by omega) (Lib.hid (HR.out.below hb)) HOK
 unfold decV at hcon
 have HCON := Lib.hid hcon
 clear hcon
 unfold decV
 go_enter Tryz.func69, Tryz.ntmps69
 go_wp2_with fail
 generalize ((w.alloc (.cells #[.int .u32 (d.low : Int), .int .u32 (d.high : Int), .int .u32 (d.code : Int), .slice A n c, .int .i64 (L : Int), .int .i64 (d.at_ : Int)] 119)).alloc (.cells #[.slice C m dd] 130)).alloc (.cells #[.int .u32 0, .int .u32 0, .int .u32 0, .slice none 0 0, .int .i64 0, .int .i64 0] 119) = w0 at HS0 ⊢
 obtain ⟨b, hb⟩ : ∃ b, b = w.heap.size := ⟨_, rfl⟩
 rw [← hb] at HS0 ⊢
 have HB := Lib.hid (show w.heap.size ≤ b by omega)
 clear hb
 refine (HCON.out w0 HS0.out.blw).mono ?_
 rintro e w2 (⟨-, p, rfl, hp, hP, hb2⟩ | ⟨h, -⟩)
 case inr => cases h
 have HS2 := Lib.hid (HS0.out.next hb2)
 have HP2 := Lib.hid (show RdS w2 p d A n c (L : Int) from hP)
 clear hb2 hp hP HS0 HCON
 have x7 := Fq.blk0 HS2.out.fr
 go_wp2_with fail
 clear x7
 cases hF : Fq.okF xs with
 | false =>
  have HF := Lib.hid hF
  have HE1 := Lib.hid (show E = 1 by rw [← hE.out]; unfold nxErr; rw [hF]; rfl)
  clear hF
  refine (next_bad p d A n c (L : Int) C m dd xs w2 HP2 (Lib.hid HS2.out.rd) hm HF).mono ?_
  rintro e w3 ⟨rfl, hb3⟩
  have HS3 := Lib.hid (HS2.out.next hb3)
  clear hb3 HS2
  obtain ⟨y1, y2, y3, y4, y5, y6⟩ := blk6 HS3.out.res
  obtain ⟨z1, z2, z3, z4, z5, z6⟩ := frz6 HS3.out.res
  go_wp2
  refine bodyPost_ret (v := .tuple #[decV 0 0 0 none 0 0 0 0, .int .i64 0, .int .i64 1]) (by simp [results, Tryz.results69, go_sem, decV, y1, y2, y3, y4, y5, y6]) rfl ?_
  rw [HE1.out]
  exact NOut.err (below6 HS3.out.blw (by have := HB.out; omega) _ _ _ _ _ _)
 | true =>
  have HF := Lib.hid hF
  have hsh : L + 32 < d.at_ := by
   rcases Nat.lt_or_ge (L + 32) d.at_ with h | h
   ·exact h
   ·exfalso
    apply hE0
    rw [← hE.out]; unfold nxErr; rw [if_pos hF, if_neg (by omega)]
  have HE1 := Lib.hid (show E = 20 by rw [← hE.out]; unfold nxErr; rw [if_pos hF, if_pos hsh])
  clear hF
  refine (next_short p d A n c L C m dd xs w2 HP2 Lb hsh (by omega) (Lib.hid HS2.out.rd) hm HF).mono ?_
  rintro e w3 ⟨rfl, hb3⟩
  have HS3 := Lib.hid (HS2.out.next hb3)
  clear hb3 HS2
  obtain ⟨y1, y2, y3, y4, y5, y6⟩ := blk6 HS3.out.res
  obtain ⟨z1, z2, z3, z4, z5, z6⟩ := frz6 HS3.out.res
  go_wp2
  refine bodyPost_ret (v := .tuple #[decV 0 0 0 none 0 0 0 0, .int .i64 0, .int .i64 20]) (by simp [results, Tryz.results69, go_sem, decV, y1, y2, y3, y4, y5, y6]) rfl ?_
  rw [HE1.out]
  exact NOut.err (below6 HS3.out.blw (by have := HB.out; omega) _ _ _ _ _ _)
theorem pnext_ok (d : De) (A : Option Addr) (n c L : Nat) (l : List Bool) (C : Option Addr) (m dd : Nat) (xs : List Int) (fin : De) (w : World) (hI : Hid (IsB w (.agg #[.slice A n c, .int .i64 (L : Int)]) l)) (hd : Hid (FineD d)) (h32 : 32 ≤ d.at_) (hat : d.at_ ≤ 65600) (ha : d.at_ ≤ L + 32) (hx : Hid (Fq.RdI w C m xs)) (hm : Hid (m ≤ maxLen)) (hok : Hid (Fq.okF xs = true)) (hfin : Hid (nxE l d xs = fin)) :
  Calls Tryz.prog 69 #[decV d.low d.high d.code A n c (L : Int) (d.at_ : Int), .agg #[.slice C m dd]] w (NOut w fin.low fin.high fin.code (fin.at_ : Int) (L : Int) (nxK d xs : Int) 0 (pack l)) := by
 obtain ⟨hn, hN, hr, hl⟩ := isB_parts hI.out
 have HOK := Lib.hid (show okD d.low d.high d.code (pack l) (L : Int) (d.at_ : Int) = true by rw [hN]; exact okD_mk hd.out hl h32 hat)
 have Lb : L ≤ 65536 := by omega
 have HR := Lib.hid hr
 have o1 := hd.out.1.1
 have o2 := hd.out.1.2
 have k1 := hd.out.2.2.1
 have k2 := hd.out.2.2.2
 clear hn hN hr hl
 have HS0 := Lib.hid (nes_start w #[.int .u32 (d.low : Int), .int .u32 (d.high : Int), .int .u32 (d.code : Int), .slice A n c, .int .i64 (L : Int), .int .i64 (d.at_ : Int)] C m dd xs hx.out)
 have hcon := fun u (hb : Below w.heap.size w u) => reopen_any d.low d.high d.code A n c (L : Int) (d.at_ : Int) (pack l) true u (by omega) (by omega) (by omega) (Lib.hid (HR.out.below hb)) HOK
 unfold decV at hcon
 have HCON := Lib.hid hcon
 clear hcon
 unfold decV
 go_enter Tryz.func69, Tryz.ntmps69
 go_wp2_with fail
 generalize ((w.alloc (.cells #[.int .u32 (d.low : Int), .int .u32 (d.high : Int), .int .u32 (d.code : Int), .slice A n c, .int .i64 (L : Int), .int .i64 (d.at_ : Int)] 119)).alloc (.cells #[.slice C m dd] 130)).alloc (.cells #[.int .u32 0, .int .u32 0, .int .u32 0, .slice none 0 0, .int .i64 0, .int .i64 0] 119) = w0 at HS0 ⊢
 obtain ⟨b, hb⟩ : ∃ b, b = w.heap.size := ⟨_, rfl⟩
 rw [← hb] at HS0 ⊢
 have HB := Lib.hid (show w.heap.size ≤ b by omega)
 clear hb
 refine (HCON.out w0 HS0.out.blw).mono ?_
 rintro e w2 (⟨-, p, rfl, hp, hP, hb2⟩ | ⟨h, -⟩)
 case inr => cases h
 have HS2 := Lib.hid (HS0.out.next hb2)
 have HP2 := Lib.hid (show RdS w2 p d A n c (L : Int) from hP)
 have HLP := Lib.hid (show b + 1 + 1 < p from Nat.lt_of_lt_of_le HS0.out.res.lt hp)
 have HAP := Lib.hid (show ∀ ad, A = some ad → 0 < n → ad.block ≠ p from fun ad ha h0 => by have := HR.out.lies h0 ad ha; have := HLP.out; have := HB.out; omega)
 have HCP := Lib.hid (show ∀ ad, C = some ad → 0 < m → ad.block ≠ p from fun ad ha h0 => by have := rdI_lt hx.out ad ha h0; have := HLP.out; have := HB.out; omega)
 clear hb2 hp hP HS0 HCON
 have x7 := Fq.blk0 HS2.out.fr
 go_wp2_with fail
 clear x7
 obtain ⟨K, hK⟩ : ∃ K, K = nxK d xs := ⟨_, rfl⟩
 refine (next_ok p d A n c L l C m dd xs w2 HP2 (Lib.hid (hI.out.below HS2.out.blw)) HAP Lb hd ha (Lib.hid HS2.out.rd) hm hok).mono ?_
 rw [← hK, hfin.out]
 have HKK := Lib.hid hK
 clear hK
 rintro e w3 ⟨rfl, hs3, hg3⟩
 have HS3 := Lib.hid (HS2.out.grown hg3 HLP.out HCP.out)
 have HP3 := Lib.hid hs3
 have HI3 := Lib.hid (isB_only (hI.out.below HS2.out.blw) hg3 HAP.out)
 clear hs3 hg3 HS2 HP2
 go_wp2_with fail
 refine (rstate_any p fin A n c L l w3 HP3 HI3).mono ?_
 rintro e w4 ⟨A4, n4, c4, rfl, hb4, hr4⟩
 have HS4 := Lib.hid (HS3.out.next hb4)
 have HR4 := Lib.hid hr4
 clear hb4 hr4 HS3 HP3 HI3
 unfold decV
 have l4 := HS4.out.res.lt
 obtain ⟨y1, y2, y3, y4, y5, y6⟩ := blk6 HS4.out.res
 obtain ⟨z1, z2, z3, z4, z5, z6⟩ := frz6 HS4.out.res
 go_wp2
 exact bodyPost_ret (v := .tuple #[decV fin.low fin.high fin.code A4 n4 c4 (L : Int) (fin.at_ : Int), .int .i64 (K : Int), .int .i64 0]) (by simp [results, Tryz.results69, go_sem, decV, y1, y2, y3, y4, y5, y6, l4]) rfl ⟨A4, n4, c4, by rw [HKK.out], below6a HS4.out.blw (by have := HB.out; omega) _ _ _ _ _ _ _, (rd_six HR4.out HS4.out.res _ _ _ _ _ _).alloc _⟩
theorem DOut.err {w w' : World} {E : Int} (hb : Below w.heap.size w w') : DOut w 0 0 0 0 0 E [] (.returned (.tuple #[decV 0 0 0 none 0 0 0 0, .int .i64 E])) w' := ⟨none, 0, 0, rfl, hb, Rd.none_⟩
theorem sts_start (w : World) (A : Option Addr) (n c : Nat) (N : Int) : Blk ((w.alloc (.cells #[.slice A n c, .int .i64 N] 100)).alloc (.cells #[.int .u32 0, .int .u32 0, .int .u32 0, .slice none 0 0, .int .i64 0, .int .i64 0] 119)) (w.heap.size + 1) 119 #[.int .u32 0, .int .u32 0, .int .u32 0, .slice none 0 0, .int .i64 0, .int .i64 0] ∧ Below w.heap.size w ((w.alloc (.cells #[.slice A n c, .int .i64 N] 100)).alloc (.cells #[.int .u32 0, .int .u32 0, .int .u32 0, .slice none 0 0, .int .i64 0, .int .i64 0] 119)) :=
 ⟨Blk.newAt (by simp), ((Below.refl w.heap.size w).alloc (Nat.le_refl _) _).alloc (by simp) _⟩
theorem pstart_ok (A : Option Addr) (n c L : Nat) (l : List Bool) (w : World) (hI : Hid (IsB w (.agg #[.slice A n c, .int .i64 (L : Int)]) l)) :
  Calls Tryz.prog 64 #[.agg #[.slice A n c, .int .i64 (L : Int)]] w (DOut w 0 4294967295 (val l 32) 32 (L : Int) 0 (pack l)) := by
 have HS := Lib.hid (sts_start w A n c (L : Int))
 go_enter Tryz.func64, Tryz.ntmps64
 go_wp2_with fail
 generalize (w.alloc (.cells #[.slice A n c, .int .i64 (L : Int)] 100)).alloc (.cells #[.int .u32 0, .int .u32 0, .int .u32 0, .slice none 0 0, .int .i64 0, .int .i64 0] 119) = w0 at HS ⊢
 refine (open_ok A n c (L : Int) l w0 (Lib.hid (hI.out.below HS.out.2))).mono ?_
 rintro e w1 ⟨p, rfl, hp, hs1, hb1⟩
 have HK1 := Lib.hid (HS.out.1.below hb1 HS.out.1.lt)
 have HW1 := Lib.hid (HS.out.2.trans (hb1.mono HS.out.2.size))
 have HP1 := Lib.hid hs1
 clear hb1 hs1 hp HS
 go_wp2_with fail
 refine (rstate_any p (d0 l) A n c L l w1 HP1 (Lib.hid (hI.out.below HW1.out))).mono ?_
 rintro e w4 ⟨A4, n4, c4, rfl, hb4, hr4⟩
 have HK4 := Lib.hid (HK1.out.below hb4 HK1.out.lt)
 have HW4 := Lib.hid (HW1.out.trans (hb4.mono HW1.out.size))
 have HR4 := Lib.hid hr4
 clear hb4 hr4 HK1 HW1
 unfold decV d0
 obtain ⟨V, hV⟩ : ∃ V, V = val l 32 := ⟨_, rfl⟩
 rw [← hV]
 have HV := Lib.hid hV
 clear hV
 obtain ⟨y1, y2, y3, y4, y5, y6⟩ := blk6 HK4.out
 obtain ⟨z1, z2, z3, z4, z5, z6⟩ := frz6 HK4.out
 go_wp2
 exact bodyPost_ret (v := .tuple #[decV 0 4294967295 V A4 n4 c4 (L : Int) 32, .int .i64 0]) (by simp [results, Tryz.results64, go_sem, decV, y1, y2, y3, y4, y5, y6]) rfl ⟨A4, n4, c4, by rw [HV.out], below6 HW4.out (by omega) _ _ _ _ _ _, rd_six HR4.out HK4.out _ _ _ _ _ _⟩
end Go.Proofs.YtkdbhndegkldcaaGreatDoor.Cd
namespace Go.Proofs.YtkdbhndegkldcaaGreatDoor.Lp
open Go.RowKit Fx Fq Tb
open Cd (De FineD nxE nxK nxE_fine next_sym nxErr pnext_err pnext_ok decV dcC isB_parts)
open Yr (stR Stp)
theorem MV.keep {w0 w1 w : World} {L : List Ent} {g : Nat} {T : TypeId} {cs : Array Value} (h : MV w0 w1 L w) (hb : Blk w1 g T cs) (hn : ∀ e ∈ L, e.1 ≠ g) : Blk w g T cs := (h.2.2.2.2.2 g hb.lt hn).trans hb
theorem rd_no8 {w : World} {A : Option Addr} {n g : Nat} {bs : List Nat} {T : TypeId} {cs : Array Value} (hr : Rd w A n bs) (hb : Blk w g T cs) (h8 : ∀ (k : Nat) (x : Int), cs[k]? ≠ some (Value.int .u8 x)) {ad : Addr} (e : A = some ad) (hn : 0 < n) : g ≠ ad.block := by
 obtain ⟨ad', e', -, -, hc⟩ := hr.at_ (k := 0) hn
 have e2 : ad = ad' := Option.some.inj (e.symm.trans e')
 subst e2
 intro hg
 have h0 : ad.add 0 = ad := rfl
 rw [h0] at hc
 unfold Blk at hb
 unfold World.cell? at hc
 rw [← hg, hb] at hc
 cases hs : ad.spot.isSome with
 | true => simp [hs] at hc
 | false =>
  simp only [hs] at hc
  rw [if_neg Bool.false_ne_true] at hc
  exact h8 _ _ hc
theorem no8_dc (d : De) (A : Option Addr) (n c : Nat) (N : Int) : ∀ (k : Nat) (x : Int), (dcC d A n c N)[k]? ≠ some (Value.int .u8 x) := by
 intro k x h
 unfold dcC at h
 match k, h with
 | 0, h => cases h
 | 1, h => cases h
 | 2, h => cases h
 | 3, h => cases h
 | 4, h => cases h
 | 5, h => cases h
 | k + 6, h => simp at h
theorem no8_one {v : Value} (hv : ∀ x : Int, v ≠ Value.int .u8 x) : ∀ (k : Nat) (x : Int), (#[v] : Array Value)[k]? ≠ some (Value.int .u8 x) := by
 intro k x h
 match k, h with
 | 0, h => injection h with h; exact hv _ h
 | k + 1, h => simp at h
theorem no8_ic (zs : List Int) : ∀ (k : Nat) (x : Int), (icells zs)[k]? ≠ some (Value.int .u8 x) := by
 intro k x h
 unfold icells at h
 rw [List.getElem?_toArray, List.getElem?_map] at h
 obtain ⟨y, -, hy⟩ := Option.map_eq_some_iff.1 h
 injection hy with hk
 cases hk
structure RsI (w : World) (gF gR N : Nat) (TF : TypeId) (inp : List Bool) (s : De × List Int) (K : List Ent) (u : World) : Prop where
 bR : ∃ A n c, Blk u gR 124 (dcC s.1 A n c (inp.length : Int)) ∧ Rd u A n (pack inp)
 bF : Blk u gF TF (icells s.2)
 len : s.2.length = N
 fine : FineD s.1
 a32 : 32 ≤ s.1.at_
 a72 : s.1.at_ ≤ inp.length + 72
 blw : Below w.heap.size w u
 ks : ∀ e ∈ K, Blk u e.1 e.2.1 e.2.2 ∧ e.1 ≠ gF ∧ e.1 ≠ gR
structure RsG (w : World) (gF gR : Nat) : Prop where
 fr : gR ≠ gF
 wF : w.heap.size ≤ gF
 wR : w.heap.size ≤ gR
section
variable {w u u' : World} {gF gR N : Nat} {TF : TypeId} {inp : List Bool} {s : De × List Int} {K : List Ent}
theorem RsI.add (h : RsI w gF gR N TF inp s K u) (hb : Below u.heap.size u u') {L : List Ent} (hL : ∀ e ∈ L, u.heap.size ≤ e.1 ∧ Blk u' e.1 e.2.1 e.2.2) : RsI w gF gR N TF inp s (L ++ K) u' := by
 obtain ⟨A, n, c, h1, h2⟩ := h.bR
 refine ⟨⟨A, n, c, h1.below hb h1.lt, h2.below hb⟩, h.bF.below hb h.bF.lt, h.len, h.fine, h.a32, h.a72, h.blw.trans (hb.mono h.blw.size), fun e he => ?_⟩
 rcases List.mem_append.1 he with he | he
 ·obtain ⟨h3, h4⟩ := hL e he
  have l1 := h1.lt
  have l2 := h.bF.lt
  exact ⟨h4, by omega, by omega⟩
 ·obtain ⟨k1, k2⟩ := h.ks e he
  exact ⟨k1.below hb k1.lt, k2⟩
theorem RsI.mv (h : RsI w gF gR N TF inp s K u) (G : RsG w gF gR) {A : Option Addr} {n c : Nat} (h1 : Blk u gR 124 (dcC s.1 A n c (inp.length : Int))) : MV w u [(gR, 124, dcC s.1 A n c (inp.length : Int)), (gF, TF, icells s.2)] u := by
 refine ⟨h.blw, fun e he => ?_, fun e he => ?_, .cons (fun e he => ?_) (.cons (fun e he => absurd he (by simp)) .nil), MF.refl _ _⟩
 ·rcases List.mem_cons.1 he with rfl | he
  ·exact h1
  ·rw [List.mem_singleton] at he; subst he; exact h.bF
 ·rcases List.mem_cons.1 he with rfl | he
  ·exact G.wR
  ·rw [List.mem_singleton] at he; subst he; exact G.wF
 ·rw [List.mem_singleton] at he; subst he; exact G.fr
end
theorem isB_mk {w : World} {A : Option Addr} {n c L : Nat} {l : List Bool} (hr : Rd w A n (pack l)) (hl : l.length = L) (hL : L ≤ 65536) : IsB w (.agg #[.slice A n c, .int .i64 (L : Int)]) l := by
 subst hl
 exact ⟨A, c, by rw [hr.1], by rw [hr.1]; exact hr, hL⟩
def NxQ (w : World) (D : De) (N Kv Ev : Int) (bs : List Nat) (e : Ending) (w' : World) : Prop :=
 ∃ A n c, e = .returned (.tuple #[.agg (dcC D A n c N), .int .i64 Kv, .int .i64 Ev]) ∧ Below w.heap.size w w' ∧ Rd w' A n bs
structure NxG (d : De) (inp : List Bool) (LL : Int) (xs : List Int) (D : De) (N Kv Ev : Int) (bs : List Nat) : Prop where
 call : ∀ (A : Option Addr) (n c gt m : Nat) (w : World), Rd w A n (pack inp) → RdI w (some ⟨gt, 0, none⟩) m xs → m ≤ 300 → Calls Tryz.prog 69 #[.agg (dcC d A n c LL), .agg #[.slice (some ⟨gt, 0, none⟩) m m]] w (NxQ w D N Kv Ev bs)
theorem nx_no {d : De} {inp : List Bool} {xs : List Int} (hL : inp.length ≤ 60000) (hd : FineD d) (h32 : 32 ≤ d.at_) (h72 : d.at_ ≤ inp.length + 72) (ho : okF xs = true) (ha : ¬ d.at_ ≤ inp.length + 32) : NxG d inp (inp.length : Int) xs ⟨0, 0, 0, 0⟩ 0 0 20 [] :=
 ⟨fun A n c gt m w hr hx hm => (pnext_err d A n c inp.length inp (some ⟨gt, 0, none⟩) m m xs 20 w (Lib.hid (isB_mk hr rfl (by omega))) (Lib.hid hd) h32 (by omega) (Lib.hid hx) (Lib.hid (by unfold maxLen; omega)) (Lib.hid (by unfold nxErr; rw [if_pos ho, if_pos (by omega)])) (by decide)).mono fun e w' ⟨A', n', c', h1, h2, h3⟩ => ⟨A', n', c', h1, h2, h3⟩⟩
theorem nx_yes {d : De} {inp : List Bool} {xs : List Int} (hL : inp.length ≤ 60000) (hd : FineD d) (h32 : 32 ≤ d.at_) (ho : okF xs = true) (ha : d.at_ ≤ inp.length + 32) : NxG d inp (inp.length : Int) xs (nxE inp d xs) (inp.length : Int) (nxK d xs : Int) 0 (pack inp) :=
 ⟨fun A n c gt m w hr hx hm => (pnext_ok d A n c inp.length inp (some ⟨gt, 0, none⟩) m m xs (nxE inp d xs) w (Lib.hid (isB_mk hr rfl (by omega))) (Lib.hid hd) h32 (by omega) ha (Lib.hid hx) (Lib.hid (by unfold maxLen; omega)) (Lib.hid ho) (Lib.hid rfl)).mono fun e w' ⟨A', n', c', h1, h2, h3⟩ => ⟨A', n', c', h1, h2, h3⟩⟩
def AptK (KK : List Ent) (gs : List Nat) : Prop := ∀ e ∈ KK, ∀ g ∈ gs, g ≠ e.1
theorem AptK.cons {KK : List Ent} {gs : List Nat} {g : Nat} (h : AptK KK gs) (hg : ∀ e ∈ KK, e.1 < g) : AptK KK (g :: gs) := fun e he x hx => by
 rcases List.mem_cons.1 hx with rfl | hx
 ·exact Nat.ne_of_gt (hg e he)
 ·exact h e he x hx
def KIn (KK : List Ent) (u : World) : Prop := ∀ e ∈ KK, Blk u e.1 e.2.1 e.2.2
theorem MV.keepK {w0 w1 w : World} {L KK : List Ent} (h : MV w0 w1 L w) (hk : KIn KK w1) (hn : AptK KK (L.map (·.1))) : KIn KK w := fun e he =>
 h.keep (hk e he) fun x hx => hn e he _ (List.mem_map.2 ⟨x, hx, rfl⟩)
def No8 (cs : Array Value) : Prop := ∀ (k : Nat) (x : Int), cs[k]? ≠ some (Value.int .u8 x)
theorem apt8 {w : World} {A : Option Addr} {n g : Nat} {bs : List Nat} {T : TypeId} {cs : Array Value} {gs : List Nat} (hr : Rd w A n bs) (hb : Blk w g T cs) (h8 : No8 cs) (h : Apt A n gs) : Apt A n (g :: gs) := fun ad e hn x hx => by
 rcases List.mem_cons.1 hx with rfl | hx
 ·exact rd_no8 hr hb h8 e hn
 ·exact h ad e hn x hx
theorem apt0 (A : Option Addr) (n : Nat) : Apt A n [] := fun ad e hn x hx => absurd hx (by simp)
@[simp] theorem dcC_oneE (D : De) (A : Option Addr) (n c : Nat) (N : Int) : (dcC D A n c N).all (·.oneCell') = true := by simp [dcC, Value.oneCell']
theorem dec8 (d : De) (A : Option Addr) (n c : Nat) (N : Int) : No8 (dcC d A n c N) := no8_dc d A n c N
theorem ints8 (zs : List Int) : No8 (icells zs) := no8_ic zs
theorem sl8 (A : Option Addr) (n c : Nat) : No8 #[.slice A n c] := no8_one (fun x h => by cases h)
theorem zer8 : No8 #[.int .u32 0, .int .u32 0, .int .u32 0, .slice none 0 0, .int .i64 0, .int .i64 0] := no8_dc ⟨0, 0, 0, 0⟩ none 0 0 0
theorem widD_at (l : List Bool) : ∀ (n : Nat) (d : De), d.at_ ≤ (Cd.widD n l d).at_
 | 0, d => Nat.le_refl _
 | n + 1, d => by
  rw [Cd.widD]
  split
  ·exact Nat.le_refl _
  ·exact Nat.le_trans (Nat.le_succ _) (widD_at l n (Cd.stepD l d))
theorem nxE_ge {l : List Bool} {d : De} {xs : List Int} {m : Nat} (h : m ≤ d.at_) : m ≤ (nxE l d xs).at_ := by
 have h2 := widD_at l 40 (Cd.narD d (Cd.spA (Cd.nxQ d xs)) (Cd.spB (Cd.nxQ d xs)) (Cd.spT xs))
 exact Nat.le_trans h h2
theorem next_no {w : World} {gF gR N : Nat} {TF : TypeId} {inp : List Bool} {d : De} {F : List Int} {KK : List Ent} {u : World} {gt n i : Nat} {xs : List Int} {fst : Int} (G : Hid (RsG w gF gR)) (hL : inp.length ≤ 60000) (h : RsI w gF gR N TF inp (d, F) KK u)
  (hin : (gt, 3, icells xs) ∈ KK) (hn : xs.length = n) (hok : okF xs = true) (hl : n ≤ 300) (ha : ¬ d.at_ ≤ inp.length + 32) :
  Calls Tryz.prog 45 #[.pointer (some ⟨gR, 0, none⟩), .agg #[.slice (some ⟨gt, 0, none⟩) n n], .pointer (some ⟨gF, i, none⟩), .int .i64 fst] u (fun e u' => e = .returned (.int .i64 21) ∧ Below w.heap.size w u') := by
 obtain ⟨A, na, c, h1, h2⟩ := h.bR
 have HM := Lib.hid (h.mv G.out h1)
 have HR2 := Lib.hid h2
 have HAP0 := Lib.hid (show Apt A na [gR, gF] from fun ad e hn g hg => by
  rcases List.mem_cons.1 hg with rfl | hg
  ·exact rd_no8 h2 h1 (no8_dc _ _ _ _ _) e hn
  ·rw [List.mem_singleton] at hg
   subst hg
   exact rd_no8 h2 h.bF (no8_ic _) e hn)
 have HKI := Lib.hid (show KIn KK u from fun e he => (h.ks e he).1)
 have HAK0 := Lib.hid (show AptK KK [gR, gF] from fun e he g hg => by
  obtain ⟨-, k2, k3⟩ := h.ks e he
  rcases List.mem_cons.1 hg with rfl | hg
  ·exact k3.symm
  ·rw [List.mem_singleton] at hg
   subst hg
   exact k2.symm)
 have HAL := Lib.hid (rd_lt h2)
 have HKN := Lib.hid (show ∀ e ∈ KK, e.1 ≠ gF ∧ e.1 ≠ gR from fun e he => (h.ks e he).2)
 have hx := h.a72
 have hy := h.a32
 have HD := Lib.hid h.fine
 have HLF := Lib.hid h.len
 dsimp only at HM hx hy HD HLF
 have HIN := Lib.hid hin
 have HNN := Lib.hid hn
 have HNG := Lib.hid (nx_no hL HD.out hy hx hok ha)
 clear h h1 h2 hin hn hok ha
 generalize (inp.length : Int) = LL at HM HNG
 go_enter Tryz.func45, Tryz.ntmps45
 go_wp2_with (first | (refine aVn ?_; first | (have q:dV HM = 0:=rfl;clear q HM;intro g1 u1 HG1 HM) | (have q:dV HM = 1:=rfl;clear q HM;intro g2 u2 HG2 HM) | (have q:dV HM = 2:=rfl;clear q HM;intro g3 u3 HG3 HM) | (have q:dV HM = 3:=rfl;clear q HM;intro g4 u4 HG4 HM) | (have q:dV HM = 4:=rfl;clear q HM;intro g5 u5 HG5 HM) | (have q:dV HM = 5:=rfl;clear q HM;intro g6 u6 HG6 HM) | (have q:dV HM = 6:=rfl;clear q HM;intro g7 u7 HG7 HM) | (have q:dV HM = 7:=rfl;clear q HM;intro g8 u8 HG8 HM) | (have q:dV HM = 8:=rfl;clear q HM;intro g9 u9 HG9 HM) | (have q:dV HM = 9:=rfl;clear q HM;intro g10 u10 HG10 HM) | (have q:dV HM = 10:=rfl;clear q HM;intro g11 u11 HG11 HM) | (have q:dV HM = 11:=rfl;clear q HM;intro g12 u12 HG12 HM) | (have q:dV HM = 12:=rfl;clear q HM;intro g13 u13 HG13 HM) | (have q:dV HM = 13:=rfl;clear q HM;intro g14 u14 HG14 HM)) | (refine aVl ?_) | (refine aVs ?_; clear HM; intro us HM; dsimp only [List.set] at HM) | (refine aZe ?_))
 have HAP := Lib.hid (show Apt A na [g3, gR, gF] from Apt.cons HAP0.out HAL.out HG3.out)
 have HAK := Lib.hid (show AptK KK [g3, gR, gF] from HAK0.out.cons fun e he => Nat.lt_of_lt_of_le (HKI.out e he).lt HG3.out)
 clear HAP0 HAK0
 refine wp_region_held_drew (S := fun y => Blk y gR 124 (dcC d A na c LL) ∧ Blk y g3 130 #[.slice (some ⟨gt, 0, none⟩) n n]) (by kernel_rfl) ⟨HM.out.drew.get (by exact q7m), HM.out.drew.get (by exact q7m)⟩ (fun hHeld => ?_)
 have HMd := Lib.hid HM.out.drew
 clear HM
 have HM := HMd
 clear HMd
 generalize World.drew _ = wd at HM hHeld ⊢
 (refine tkv 0 (.pointer (some ⟨gR, 0, none⟩)) rfl ?_)
 (refine tkv 1 (.pointer (some ⟨gR, 0, none⟩)) rfl ?_)
 (refine tkg 2 (.pointer (some ⟨gR, 0, none⟩)) rfl ?_)
 (refine tk 3 rfl (yv_load rfl _ _ rfl rfl (fun u hu => run_load_blk rowDec hu.1 rfl)) ?_)
 (refine tk 4 rfl (yv_load rfl _ _ rfl rfl (fun u hu => run_load_blk rowFreq hu.2 rfl)) ?_)
 refine wpAnyH_ready (rs := [5, 10]) (by kernel_rfl) (by simp) ?_; refine AllReadyH.cons rfl (fun K hK => ?_) (AllReadyH.cons rfl (fun K hK => ?_) (AllReadyH.nil))
 rotate_left
 focus
  rw [if_pos (by rfl)]
  refine ov_alloc _ rfl rfl (by exact q7r) HM ?_
  intro g8 w5 HM5 HW5 HG8
  have HG8u := Lib.hid (Nat.le_trans HM.out.2.2.2.2.1 HG8.out)
  have HAP2 := Lib.hid (show Apt A na [g8, g3, gR, gF] from Apt.cons HAP.out HAL.out HG8u.out)
  have HAK2 := Lib.hid (show AptK KK [g8, g3, gR, gF] from HAK.out.cons fun e he => Nat.lt_of_lt_of_le (HKI.out e he).lt HG8u.out)
  clear HAP HAK HG8u
  have HAP := HAP2
  have HAK := HAK2
  clear HAP2 HAK2
  clear HM hHeld HW5
  have HM := HM5
  clear HM5
  refine hK.out _ _ ⟨HM.out.get (by exact q7m), HM.out.get (by exact q7m)⟩ (fun hHeld => ?_)
  clear hK K
  (try simp only [Act.put, qz1, qz2, qz3])
  refine wpAnyH_ready (rs := [5]) (by kernel_rfl) (by simp) ?_; refine AllReadyH.cons rfl (fun K hK => ?_) (AllReadyH.nil)
  have HRy := Lib.hid (HM.out.rdA HR2.out HAP.out)
  have HXy := Lib.hid (rdI_blkE (HM.out.keepK HKI.out HAK.out _ HIN.out))
  rw [HNN.out] at HXy
  rw [if_pos (by rfl)]; go_simp
  refine (HNG.out.call A na c gt n _ HRy.out HXy.out hl).mono ?_
  rintro e w4 ⟨A4, n4, c4, rfl, hb4, hr4⟩
  have HM4 := Lib.hid (HM.out.below hb4)
  have HK4 := Lib.hid (HM4.out.keepK HKI.out HAK.out)
  have HR4 := Lib.hid hr4
  have HA4 := Lib.hid (show Apt A4 n4 [g8, g3, gR, gF] from apt8 hr4 (HM4.out.get (by exact q7m (e := (g8, 119, #[.int .u32 0, .int .u32 0, .int .u32 0, .slice none 0 0, .int .i64 0, .int .i64 0])))) zer8 (apt8 hr4 (HM4.out.get (by exact q7m (e := (g3, 130, #[.slice (some ⟨gt, 0, none⟩) n n])))) (sl8 _ _ _) (apt8 hr4 (HM4.out.get (by exact q7m (e := (gR, 124, dcC d A na c LL)))) (dec8 _ _ _ _ _) (apt8 hr4 (HM4.out.get (by exact q7m (e := (gF, TF, icells F)))) (ints8 _) (apt0 _ _)))))
  have HMB := Lib.hid HM4.out.base
  clear HM hb4 hr4 HRy HXy hHeld HM4
  have HM := HMB
  clear HMB
  go_wp2_with fail
  refine hK.out _ _ ⟨HM.out.get (by exact q7m), HM.out.get (by exact q7m)⟩ (fun hHeld => ?_)
  clear hK K
  (try simp only [Act.put, qz1, qz2, qz3])
  (refine tkv 6 (.tuple #[.agg (dcC ⟨0, 0, 0, 0⟩ A4 n4 c4 0), .int .i64 0, .int .i64 20]) rfl ?_)
  (refine tkv 7 (.agg (dcC ⟨0, 0, 0, 0⟩ A4 n4 c4 0)) rfl ?_)
  (refine tkv 8 (.int .i64 0) rfl ?_)
  (refine tkv 9 (.int .i64 20) rfl ?_)
 rotate_left
 focus
  have HRy := Lib.hid (HM.out.rdA HR2.out HAP.out)
  have HXy := Lib.hid (rdI_blkE (HM.out.keepK HKI.out HAK.out _ HIN.out))
  rw [HNN.out] at HXy
  rw [if_pos (by rfl)]; go_simp
  refine (HNG.out.call A na c gt n _ HRy.out HXy.out hl).mono ?_
  rintro e w4 ⟨A4, n4, c4, rfl, hb4, hr4⟩
  have HM4 := Lib.hid (HM.out.below hb4)
  have HK4 := Lib.hid (HM4.out.keepK HKI.out HAK.out)
  have HR4 := Lib.hid hr4
  have HA4 := Lib.hid (show Apt A4 n4 [g3, gR, gF] from apt8 hr4 (HM4.out.get (by exact q7m (e := (g3, 130, #[.slice (some ⟨gt, 0, none⟩) n n])))) (sl8 _ _ _) (apt8 hr4 (HM4.out.get (by exact q7m (e := (gR, 124, dcC d A na c LL)))) (dec8 _ _ _ _ _) (apt8 hr4 (HM4.out.get (by exact q7m (e := (gF, TF, icells F)))) (ints8 _) (apt0 _ _))))
  have HMB := Lib.hid HM4.out.base
  clear HM hb4 hr4 HRy HXy hHeld HM4
  have HM := HMB
  clear HMB
  go_wp2_with fail
  refine hK.out _ _ ⟨HM.out.get (by exact q7m), HM.out.get (by exact q7m)⟩ (fun hHeld => ?_)
  clear hK K
  (try simp only [Act.put, qz1, qz2, qz3])
  (refine tkv 6 (.tuple #[.agg (dcC ⟨0, 0, 0, 0⟩ A4 n4 c4 0), .int .i64 0, .int .i64 20]) rfl ?_)
  (refine tkv 7 (.agg (dcC ⟨0, 0, 0, 0⟩ A4 n4 c4 0)) rfl ?_)
  (refine tkv 8 (.int .i64 0) rfl ?_)
  (refine tkv 9 (.int .i64 20) rfl ?_)
  refine wpAnyH_ready (rs := [10]) (by kernel_rfl) (by simp) ?_; refine AllReadyH.cons rfl (fun K hK => ?_) (AllReadyH.nil)
  rw [if_pos (by rfl)]
  refine ov_alloc _ rfl rfl (by exact q7r) HM ?_
  intro g8 w5 HM5 HW5 HG8
  have HA5 := Lib.hid (show Apt A4 n4 [g8, g3, gR, gF] from Apt.cons HA4.out (rd_lt HR4.out) HG8.out)
  have HAK2 := Lib.hid (show AptK KK [g8, g3, gR, gF] from HAK.out.cons fun e he => Nat.lt_of_lt_of_le (HK4.out e he).lt HG8.out)
  clear HA4 HAK
  have HA4 := HA5
  have HAK := HAK2
  clear HA5 HAK2
  clear HM hHeld HW5
  have HM := HM5
  clear HM5
  refine hK.out _ _ ⟨HM.out.get (by exact q7m), HM.out.get (by exact q7m)⟩ (fun hHeld => ?_)
  clear hK K
  (try simp only [Act.put, qz1, qz2, qz3])
 all_goals
  refine wpAnyH_ready (rs := [11]) (by kernel_rfl) (by simp) ?_; refine AllReadyH.cons rfl (fun K hK => ?_) (AllReadyH.nil)
  rw [if_pos (by rfl)]; refine ov_store _ _ _ rfl rfl rfl (by exact q7r) HM (by exact q7i) (by exact q7s) (by exact q7s) (by exact q7o) rfl ?_; clear HM; intro us HM; dsimp only [List.set] at HM
  refine hK.out _ _ ⟨HM.out.get (by exact q7m), HM.out.get (by exact q7m)⟩ (fun hHeld => ?_)
  clear hK K
  (try simp only [Act.put, qz1, qz2, qz3])
  (refine tkv 12 (.int .i64 0) rfl ?_)
  (refine tkv 13 (.int .i64 20) rfl ?_)
  refine wpAnyH_done (by kernel_rfl) ?_ _
  clear hHeld HA4 HR4 HK4 HAK
  go_wp2
  go_ret
  exact ⟨rfl, HM.out.1⟩
theorem next_yes {w : World} {gF gR N : Nat} {TF : TypeId} {inp : List Bool} {d : De} {F : List Int} {KK : List Ent} {u : World} {gt n i : Nat} {xs : List Int} {fst : Int} (G : Hid (RsG w gF gR)) (hL : inp.length ≤ 60000) (h : RsI w gF gR N TF inp (d, F) KK u)
  (hin : (gt, 3, icells xs) ∈ KK) (hn : xs.length = n) (hok : okF xs = true) (hl : n ≤ 300) (ha : d.at_ ≤ inp.length + 32) (hi : i < N) (h1 : -1000 ≤ fst) (h2 : fst ≤ 1000) :
  Calls Tryz.prog 45 #[.pointer (some ⟨gR, 0, none⟩), .agg #[.slice (some ⟨gt, 0, none⟩) n n], .pointer (some ⟨gF, i, none⟩), .int .i64 fst] u (fun e u' => e = .returned (.int .i64 0) ∧ RsI w gF gR N TF inp (nxE inp d xs, F.set i (fst + (nxK d xs : Int))) KK u') := by
 obtain ⟨A, na, c, h1, h2⟩ := h.bR
 have HM := Lib.hid (h.mv G.out h1)
 have HR2 := Lib.hid h2
 have HAP0 := Lib.hid (show Apt A na [gR, gF] from fun ad e hn g hg => by
  rcases List.mem_cons.1 hg with rfl | hg
  ·exact rd_no8 h2 h1 (no8_dc _ _ _ _ _) e hn
  ·rw [List.mem_singleton] at hg
   subst hg
   exact rd_no8 h2 h.bF (no8_ic _) e hn)
 have HKI := Lib.hid (show KIn KK u from fun e he => (h.ks e he).1)
 have HAK0 := Lib.hid (show AptK KK [gR, gF] from fun e he g hg => by
  obtain ⟨-, k2, k3⟩ := h.ks e he
  rcases List.mem_cons.1 hg with rfl | hg
  ·exact k3.symm
  ·rw [List.mem_singleton] at hg
   subst hg
   exact k2.symm)
 have HAL := Lib.hid (rd_lt h2)
 have HKN := Lib.hid (show ∀ e ∈ KK, e.1 ≠ gF ∧ e.1 ≠ gR from fun e he => (h.ks e he).2)
 have hx := h.a72
 have hy := h.a32
 have HD := Lib.hid h.fine
 have HLF := Lib.hid h.len
 dsimp only at HM hx hy HD HLF
 have HIN := Lib.hid hin
 have HNN := Lib.hid hn
 have HNG := Lib.hid (nx_yes hL HD.out hy hok ha)
 have hfin := nxE_fine (l := inp) HD.out hok
 have HFI := Lib.hid hfin.1
 have HAT := Lib.hid (show 32 ≤ (nxE inp d xs).at_ ∧ (nxE inp d xs).at_ ≤ inp.length + 72 from ⟨nxE_ge hy, by have := hfin.2; omega⟩)
 have hkb := (next_sym HD.out hok).2.2.2.2
 obtain ⟨Kv, hKv⟩ : ∃ Kv : Int, Kv = (nxK d xs : Int) := ⟨_, rfl⟩
 have k1 : 0 ≤ Kv := by omega
 have k2 : Kv ≤ 300 := by omega
 rw [← hKv] at HNG ⊢
 clear hkb hKv
 generalize nxE inp d xs = D at HNG HFI HAT ⊢
 have w1 : IntKind.i64.wrap (fst + Kv) = fst + Kv := i64_w (by omega) (by omega)
 have HLT := Lib.hid (show i < F.length by rw [HLF.out]; exact hi)
 clear h h1 h2 hin hn hok ha hfin
 obtain ⟨LL, hLL⟩ : ∃ LL, LL = (inp.length : Int) := ⟨_, rfl⟩
 have HLL := Lib.hid hLL
 rw [← hLL] at HM HNG
 clear hLL
 go_enter Tryz.func45, Tryz.ntmps45
 go_wp2_with (first | (refine aVn ?_; first | (have q:dV HM = 0:=rfl;clear q HM;intro g1 u1 HG1 HM) | (have q:dV HM = 1:=rfl;clear q HM;intro g2 u2 HG2 HM) | (have q:dV HM = 2:=rfl;clear q HM;intro g3 u3 HG3 HM) | (have q:dV HM = 3:=rfl;clear q HM;intro g4 u4 HG4 HM) | (have q:dV HM = 4:=rfl;clear q HM;intro g5 u5 HG5 HM) | (have q:dV HM = 5:=rfl;clear q HM;intro g6 u6 HG6 HM) | (have q:dV HM = 6:=rfl;clear q HM;intro g7 u7 HG7 HM) | (have q:dV HM = 7:=rfl;clear q HM;intro g8 u8 HG8 HM) | (have q:dV HM = 8:=rfl;clear q HM;intro g9 u9 HG9 HM) | (have q:dV HM = 9:=rfl;clear q HM;intro g10 u10 HG10 HM) | (have q:dV HM = 10:=rfl;clear q HM;intro g11 u11 HG11 HM) | (have q:dV HM = 11:=rfl;clear q HM;intro g12 u12 HG12 HM) | (have q:dV HM = 12:=rfl;clear q HM;intro g13 u13 HG13 HM) | (have q:dV HM = 13:=rfl;clear q HM;intro g14 u14 HG14 HM)) | (refine aVl ?_) | (refine aVs ?_; clear HM; intro us HM; dsimp only [List.set] at HM) | (refine aZe ?_))
 have HAP := Lib.hid (show Apt A na [g3, gR, gF] from Apt.cons HAP0.out HAL.out HG3.out)
 have HAK := Lib.hid (show AptK KK [g3, gR, gF] from HAK0.out.cons fun e he => Nat.lt_of_lt_of_le (HKI.out e he).lt HG3.out)
 clear HAP0 HAK0
 refine wp_region_held_drew (S := fun y => Blk y gR 124 (dcC d A na c LL) ∧ Blk y g3 130 #[.slice (some ⟨gt, 0, none⟩) n n]) (by kernel_rfl) ⟨HM.out.drew.get (by exact q7m), HM.out.drew.get (by exact q7m)⟩ (fun hHeld => ?_)
 have HMd := Lib.hid HM.out.drew
 clear HM
 have HM := HMd
 clear HMd
 generalize World.drew _ = wd at HM hHeld ⊢
 (refine tkv 0 (.pointer (some ⟨gR, 0, none⟩)) rfl ?_)
 (refine tkv 1 (.pointer (some ⟨gR, 0, none⟩)) rfl ?_)
 (refine tkg 2 (.pointer (some ⟨gR, 0, none⟩)) rfl ?_)
 (refine tk 3 rfl (yv_load rfl _ _ rfl rfl (fun u hu => run_load_blk rowDec hu.1 rfl)) ?_)
 (refine tk 4 rfl (yv_load rfl _ _ rfl rfl (fun u hu => run_load_blk rowFreq hu.2 rfl)) ?_)
 refine wpAnyH_ready (rs := [5, 10]) (by kernel_rfl) (by simp) ?_; refine AllReadyH.cons rfl (fun K hK => ?_) (AllReadyH.cons rfl (fun K hK => ?_) (AllReadyH.nil))
 rotate_left
 focus
  rw [if_pos (by rfl)]
  refine ov_alloc _ rfl rfl (by exact q7r) HM ?_
  intro g8 w5 HM5 HW5 HG8
  have HG8u := Lib.hid (Nat.le_trans HM.out.2.2.2.2.1 HG8.out)
  have HAP2 := Lib.hid (show Apt A na [g8, g3, gR, gF] from Apt.cons HAP.out HAL.out HG8u.out)
  have HAK2 := Lib.hid (show AptK KK [g8, g3, gR, gF] from HAK.out.cons fun e he => Nat.lt_of_lt_of_le (HKI.out e he).lt HG8u.out)
  clear HAP HAK HG8u
  have HAP := HAP2
  have HAK := HAK2
  clear HAP2 HAK2
  clear HM hHeld HW5
  have HM := HM5
  clear HM5
  refine hK.out _ _ ⟨HM.out.get (by exact q7m), HM.out.get (by exact q7m)⟩ (fun hHeld => ?_)
  clear hK K
  (try simp only [Act.put, qz1, qz2, qz3])
  refine wpAnyH_ready (rs := [5]) (by kernel_rfl) (by simp) ?_; refine AllReadyH.cons rfl (fun K hK => ?_) (AllReadyH.nil)
  have HRy := Lib.hid (HM.out.rdA HR2.out HAP.out)
  have HXy := Lib.hid (rdI_blkE (HM.out.keepK HKI.out HAK.out _ HIN.out))
  rw [HNN.out] at HXy
  rw [if_pos (by rfl)]; go_simp
  refine (HNG.out.call A na c gt n _ HRy.out HXy.out hl).mono ?_
  rintro e w4 ⟨A4, n4, c4, rfl, hb4, hr4⟩
  have HM4 := Lib.hid (HM.out.below hb4)
  have HK4 := Lib.hid (HM4.out.keepK HKI.out HAK.out)
  have HR4 := Lib.hid hr4
  have HA4 := Lib.hid (show Apt A4 n4 [g8, g3, gR, gF] from apt8 hr4 (HM4.out.get (by exact q7m (e := (g8, 119, #[.int .u32 0, .int .u32 0, .int .u32 0, .slice none 0 0, .int .i64 0, .int .i64 0])))) zer8 (apt8 hr4 (HM4.out.get (by exact q7m (e := (g3, 130, #[.slice (some ⟨gt, 0, none⟩) n n])))) (sl8 _ _ _) (apt8 hr4 (HM4.out.get (by exact q7m (e := (gR, 124, dcC d A na c LL)))) (dec8 _ _ _ _ _) (apt8 hr4 (HM4.out.get (by exact q7m (e := (gF, TF, icells F)))) (ints8 _) (apt0 _ _)))))
  have HMB := Lib.hid HM4.out.base
  clear HM hb4 hr4 HRy HXy hHeld HM4
  have HM := HMB
  clear HMB
  go_wp2_with fail
  refine hK.out _ _ ⟨HM.out.get (by exact q7m), HM.out.get (by exact q7m)⟩ (fun hHeld => ?_)
  clear hK K
  (try simp only [Act.put, qz1, qz2, qz3])
  (refine tkv 6 (.tuple #[.agg (dcC D A4 n4 c4 LL), .int .i64 Kv, .int .i64 0]) rfl ?_)
  (refine tkv 7 (.agg (dcC D A4 n4 c4 LL)) rfl ?_)
  (refine tkv 8 (.int .i64 Kv) rfl ?_)
  (refine tkv 9 (.int .i64 0) rfl ?_)
 rotate_left
 focus
  have HRy := Lib.hid (HM.out.rdA HR2.out HAP.out)
  have HXy := Lib.hid (rdI_blkE (HM.out.keepK HKI.out HAK.out _ HIN.out))
  rw [HNN.out] at HXy
  rw [if_pos (by rfl)]; go_simp
  refine (HNG.out.call A na c gt n _ HRy.out HXy.out hl).mono ?_
  rintro e w4 ⟨A4, n4, c4, rfl, hb4, hr4⟩
  have HM4 := Lib.hid (HM.out.below hb4)
  have HK4 := Lib.hid (HM4.out.keepK HKI.out HAK.out)
  have HR4 := Lib.hid hr4
  have HA4 := Lib.hid (show Apt A4 n4 [g3, gR, gF] from apt8 hr4 (HM4.out.get (by exact q7m (e := (g3, 130, #[.slice (some ⟨gt, 0, none⟩) n n])))) (sl8 _ _ _) (apt8 hr4 (HM4.out.get (by exact q7m (e := (gR, 124, dcC d A na c LL)))) (dec8 _ _ _ _ _) (apt8 hr4 (HM4.out.get (by exact q7m (e := (gF, TF, icells F)))) (ints8 _) (apt0 _ _))))
  have HMB := Lib.hid HM4.out.base
  clear HM hb4 hr4 HRy HXy hHeld HM4
  have HM := HMB
  clear HMB
  go_wp2_with fail
  refine hK.out _ _ ⟨HM.out.get (by exact q7m), HM.out.get (by exact q7m)⟩ (fun hHeld => ?_)
  clear hK K
  (try simp only [Act.put, qz1, qz2, qz3])
  (refine tkv 6 (.tuple #[.agg (dcC D A4 n4 c4 LL), .int .i64 Kv, .int .i64 0]) rfl ?_)
  (refine tkv 7 (.agg (dcC D A4 n4 c4 LL)) rfl ?_)
  (refine tkv 8 (.int .i64 Kv) rfl ?_)
  (refine tkv 9 (.int .i64 0) rfl ?_)
  refine wpAnyH_ready (rs := [10]) (by kernel_rfl) (by simp) ?_; refine AllReadyH.cons rfl (fun K hK => ?_) (AllReadyH.nil)
  rw [if_pos (by rfl)]
  refine ov_alloc _ rfl rfl (by exact q7r) HM ?_
  intro g8 w5 HM5 HW5 HG8
  have HA5 := Lib.hid (show Apt A4 n4 [g8, g3, gR, gF] from Apt.cons HA4.out (rd_lt HR4.out) HG8.out)
  have HAK2 := Lib.hid (show AptK KK [g8, g3, gR, gF] from HAK.out.cons fun e he => Nat.lt_of_lt_of_le (HK4.out e he).lt HG8.out)
  clear HA4 HAK
  have HA4 := HA5
  have HAK := HAK2
  clear HA5 HAK2
  clear HM hHeld HW5
  have HM := HM5
  clear HM5
  refine hK.out _ _ ⟨HM.out.get (by exact q7m), HM.out.get (by exact q7m)⟩ (fun hHeld => ?_)
  clear hK K
  (try simp only [Act.put, qz1, qz2, qz3])
 all_goals
  refine wpAnyH_ready (rs := [11]) (by kernel_rfl) (by simp) ?_; refine AllReadyH.cons rfl (fun K hK => ?_) (AllReadyH.nil)
  rw [if_pos (by rfl)]; refine ov_store _ _ _ rfl rfl rfl (by exact q7r) HM (by exact q7i) (by exact q7s) (by exact q7s) (by exact q7o) rfl ?_; clear HM; intro us HM; dsimp only [List.set] at HM
  refine hK.out _ _ ⟨HM.out.get (by exact q7m), HM.out.get (by exact q7m)⟩ (fun hHeld => ?_)
  clear hK K
  (try simp only [Act.put, qz1, qz2, qz3])
  (refine tkv 12 (.int .i64 Kv) rfl ?_)
  (refine tkv 13 (.int .i64 0) rfl ?_)
  refine wpAnyH_done (by kernel_rfl) ?_ _
  clear hHeld
  go_wp2_with (first | (refine wv_zeroF rfl rfl ?_) | (first | (refine aVn ?_; first | (have q:dV HM = 0:=rfl;clear q HM;intro g1 u1 HG1 HM) | (have q:dV HM = 1:=rfl;clear q HM;intro g2 u2 HG2 HM) | (have q:dV HM = 2:=rfl;clear q HM;intro g3 u3 HG3 HM) | (have q:dV HM = 3:=rfl;clear q HM;intro g4 u4 HG4 HM) | (have q:dV HM = 4:=rfl;clear q HM;intro g5 u5 HG5 HM) | (have q:dV HM = 5:=rfl;clear q HM;intro g6 u6 HG6 HM) | (have q:dV HM = 6:=rfl;clear q HM;intro g7 u7 HG7 HM) | (have q:dV HM = 7:=rfl;clear q HM;intro g8 u8 HG8 HM) | (have q:dV HM = 8:=rfl;clear q HM;intro g9 u9 HG9 HM) | (have q:dV HM = 9:=rfl;clear q HM;intro g10 u10 HG10 HM) | (have q:dV HM = 10:=rfl;clear q HM;intro g11 u11 HG11 HM) | (have q:dV HM = 11:=rfl;clear q HM;intro g12 u12 HG12 HM) | (have q:dV HM = 12:=rfl;clear q HM;intro g13 u13 HG13 HM) | (have q:dV HM = 13:=rfl;clear q HM;intro g14 u14 HG14 HM)) | (refine aVl ?_) | (refine aVs ?_; clear HM; intro us HM; dsimp only [List.set] at HM) | (refine aZe ?_)) | (refine aVe ?_) | (refine aVp ?_; clear HM; intro us HM; dsimp only [List.set] at HM) | (refine aXl ?_))
  go_ret
  exact ⟨rfl, ⟨A4, n4, c4, by have h := HM.out.get (by exact q7m (e := (gR, 124, dcC D A4 n4 c4 LL))); rw [HLL.out] at h; exact h, HM.out.rdA HR4.out HA4.out⟩, HM.out.get (by exact q7m), by dsimp only; rw [List.length_set]; exact HLF.out, HFI.out, HAT.out.1, HAT.out.2, HM.out.1, fun e he => ⟨HM.out.keepK HK4.out HAK.out e he, HKN.out e he⟩⟩
end Go.Proofs.YtkdbhndegkldcaaGreatDoor.Lp
namespace Go.Proofs.YtkdbhndegkldcaaGreatDoor
open Go.RowKit
def OfPost (w : World) (n : Nat) (bs : List Nat) (e : Ending) (w' : World) : Prop :=
 ∃ g, e = .returned (.agg #[.slice (some ⟨g, 0, none⟩) n n, .int .i64 (8 * (n : Int))]) ∧ w.heap.size ≤ g ∧ Blk w' g 5 (bcells bs) ∧ Below w.heap.size w w'
theorem splice_all (bs cur : List Nat) (h : cur.length = bs.length) : (bcells cur).toList.take 0 ++ (bs.map byteV ++ (bcells cur).toList.drop (0 + (bs.map byteV).length)) = bs.map byteV := by
 have : (bcells cur).toList.drop (0 + (bs.map byteV).length) = [] := List.drop_eq_nil_of_le (by simp [bcells, h])
 rw [this]
 simp
theorem of_core (ad : Addr) (n c : Nat) (bs : List Nat) (w : World) (hr : Hid (Rd w (some ad) n bs)) (hn0 : 0 < n) (hn : n ≤ 8192) :
  Calls Tryz.prog 65 #[.slice (some ad) n c] w (OfPost w n bs) := by
 have hmk := run_make_row' (P := Tryz.prog) 34 5 (.int .u8 0) 1 Tryz.underlying34 info_u8 rfl .i64 .i64 n (by omega) (by omega)
 have hrd := (hr.out.alloc (.cells #[.slice none 0 0, .int .i64 0] 100)).alloc (.cells (madeCells #[Value.int .u8 0] n) 5)
 have hblk : Blk ((w.alloc (.cells #[.slice none 0 0, .int .i64 0] 100)).alloc (.cells (madeCells #[Value.int .u8 0] n) 5)) (w.heap.size + 1) 5 (bcells (packF n (bitF []))) := by
  rw [← madeZero]
  exact Blk.newAt (by simp)
 have hbl := hr.out.1
 have hcp := run_copy_row (P := Tryz.prog) _ 34 34 3 5 (w.heap.size + 1) 0 n n ad n c (bcells (packF n (bitF []))) 5 (bs.map byteV) Tryz.underlying34 size_u8 hblk (by rw [List.length_map, hbl]; exact (Nat.min_self n).symm) (by
  intro j v hv
  rw [List.getElem?_map] at hv
  obtain ⟨x, hx, rfl⟩ := Option.map_eq_some_iff.1 hv
  obtain ⟨ad', e, hc⟩ := hrd.2.2 hn0
  injection e with e
  subst e
  exact hc j x hx) (by rw [List.length_map, bcells_size, packF_length]; omega) (by
  intro v hv
  obtain ⟨x, _, rfl⟩ := List.mem_map.1 hv
  rfl)
 have esp : (bcells (packF n (bitF []))).toList.take 0 ++ bs.map byteV ++ (bcells (packF n (bitF []))).toList.drop (0 + (bs.map byteV).length) = bs.map byteV := by
  rw [List.append_assoc]
  exact splice_all bs _ (by rw [packF_length, hbl])
 rw [esp] at hcp
 have B0 : Blk ((w.alloc (.cells #[.slice none 0 0, .int .i64 0] 100)).alloc (.cells (madeCells #[Value.int .u8 0] n) 5)) w.heap.size 100 #[.slice none 0 0, .int .i64 0] := (Blk.new _ _ _).alloc _
 obtain ⟨w2, hw2⟩ : ∃ w2, w2 = ((w.alloc (.cells #[.slice none 0 0, .int .i64 0] 100)).alloc (.cells (madeCells #[Value.int .u8 0] n) 5)).setRow (w.heap.size + 1) (bs.map byteV).toArray := ⟨_, rfl⟩
 have C0 : Blk w2 w.heap.size 100 #[.slice none 0 0, .int .i64 0] := by rw [hw2]; exact (setRow_other _ _ _ _ (by omega)).trans B0
 have C1 : Blk w2 (w.heap.size + 1) 5 (bcells bs) := by rw [hw2]; exact setRow_heap _ _ _ _ _ _ hblk
 have CB : Below w.heap.size w w2 := by rw [hw2]; exact below_setRow (((Below.refl _ _).alloc (Nat.le_refl _) _).alloc (by simp) _) (by omega) _
 rw [← hw2] at hcp
 have z0 : w2.cell? ⟨w.heap.size, 0, none⟩ = some (.slice none 0 0) := C0.cell 0
 have z1 : w2.cell? ⟨w.heap.size, 1, none⟩ = some (.int .i64 0) := C0.cell 1
 have f0 := C0.frozen 0
 have f1 := C0.frozen 1
 have HC1 := Lib.hid C1
 have HCB := Lib.hid CB
 clear hrd hblk hbl esp B0 hw2 C0 C1 CB
 go_enter Tryz.func65, Tryz.ntmps65
 go_wp2
 refine bodyPost_ret (v := .agg #[.slice (some ⟨w.heap.size + 1, 0, none⟩) n n, .int .i64 (8 * (n : Int))]) (by simp [results, Tryz.results65, go_sem, z0, z1]) rfl ⟨w.heap.size + 1, rfl, by omega, ?_, ?_⟩
 ·exact (HC1.out.far (by simp) _).far (by simp) _
 ·exact (HCB.out.setCell (by simp) _).setCell (by simp) _
theorem of_zero (A : Option Addr) (c : Nat) (w : World) :
  Calls Tryz.prog 65 #[.slice A 0 c] w (OfPost w 0 []) := by
 have hmk := run_make_row' (P := Tryz.prog) 34 5 (.int .u8 0) 1 Tryz.underlying34 info_u8 rfl .i64 .i64 0 (by omega) (by omega)
 have hmk2 : ∀ W : World, (Instr.makeSlice 34 (.int .i64 0) (.int .i64 0)).run Tryz.prog W = .ok (.slice (some ⟨W.heap.size, 0, none⟩) 0 0) (W.alloc (.cells (madeCells #[.int .u8 0] 0) 5)) := fun W => hmk W
 have hcp := fun W dp => run_copy_none (P := Tryz.prog) W 34 34 3 5 dp A 0 0 0 c Tryz.underlying34 size_u8 rfl
 have em : madeCells #[Value.int .u8 0] 0 = bcells [] := by rw [madeZero]; rfl
 have HEM := Lib.hid em
 clear em
 clear hmk
 go_enter Tryz.func65, Tryz.ntmps65
 go_wp2
 refine bodyPost_ret (v := .agg #[.slice (some ⟨w.heap.size + 1, 0, none⟩) 0 0, .int .i64 0]) (by simp [results, Tryz.results65, go_sem]) rfl ⟨w.heap.size + 1, rfl, by omega, ?_, ?_⟩
 ·rw [HEM.out]
  exact Blk.newAt (by simp)
 ·exact ((Below.refl _ _).alloc (Nat.le_refl _) _).alloc (by simp) _
theorem of_any (A : Option Addr) (n c : Nat) (bs : List Nat) (w : World) (hr : Rd w A n bs) (hn : n ≤ 8192) :
  Calls Tryz.prog 65 #[.slice A n c] w (OfPost w n bs) := by
 by_cases h0 : 0 < n
 ·obtain ⟨ad, rfl, _⟩ := hr.2.2 h0
  exact of_core ad n c bs w (Lib.hid hr) h0 hn
 ·obtain rfl : n = 0 := by omega
  obtain rfl : bs = [] := List.eq_nil_of_length_eq_zero hr.1
  exact of_zero A c w
end Go.Proofs.YtkdbhndegkldcaaGreatDoor
namespace Go.Proofs.YtkdbhndegkldcaaGreatDoor.Lp
open Go.RowKit Fx Fq Tb
open Cd (De FineD fineD0 d0 nxE nxK decV dcC isB_parts pstart_ok)
open Yr (stR inB rdR rd_thru thru kT kindR lvO nmO chkB wrB)
theorem telRead {w : World} {gF gR N : Nat} {TF : TypeId} {inp : List Bool} (G : RsG w gF gR) (hL : inp.length ≤ 60000) :
  TelOk w 45 #[.pointer (some ⟨gR, 0, none⟩)] #[] gF N TF (stR inp) (fun s => s.2) (fun _ => 0) (RsI w gF gR N TF inp) where
 enters := enters_of Tryz.func45 (by kernel_rfl) rfl
 add := fun h hb hL => h.add hb hL
 sub := fun h hs => ⟨h.bR, h.bF, h.len, h.fine, h.a32, h.a72, h.blw, fun e he => h.ks e (hs.mem he)⟩
 get := fun h he => (h.ks _ he).1
 row := fun h => ⟨h.bF, h.len, h.blw⟩
 keeps := fun {s xs i fst s'} h j hj => by
  unfold stR at h
  split at h
  ·injection h with h
   subst h
   simp only [List.getD_eq_getElem?_getD, List.getElem?_set_ne (Ne.symm hj)]
  ·cases h
 fwd := fun _ _ => Nat.zero_le _
 tells := fun s K u gt xs i fst hi hin hok hl hN h1 h2 _ => by
  obtain ⟨d, F⟩ := s
  by_cases ha : d.at_ ≤ inp.length + 32
  ·have e : stR inp (d, F) xs i fst = some (nxE inp d xs, F.set i (fst + (nxK d xs : Int))) := by unfold stR; rw [if_pos ha]
   rw [e]
   exact (next_yes (n := xs.length) (Lib.hid G) hL hi hin rfl hok hl ha hN h1 h2).mono fun e u' hr => hr
  ·have e : stR inp (d, F) xs i fst = none := by unfold stR; rw [if_neg ha]
   rw [e]
   exact (next_no (n := xs.length) (Lib.hid G) hL hi hin rfl hok hl ha).mono fun e u' hr => ⟨21, rfl, hr.1, hr.2⟩
theorem wv_builtC {ops : Array Oper} {rest : List Oper} {o : Oper} {a : Act} {w : World} {Q : Exit → Act → World → Prop} (hgd : Region.wanted o (yielded ops a.tmps) = true) (T : TypeId) (parts : Array (Nat × Operand)) (ho : o.op = .build T parts) (cs : Array Value)
  (hf : Tryz.prog.built T (parts.map fun (i, x) => (i, a.eval x)).toList = some cs)
  (h : wpList Tryz.prog ops Q rest (a.put o.dst (.agg cs)) w) : wpList Tryz.prog ops Q (o :: rest) a w :=
 wl_step hgd fun K hK => by
  have := hK _ _ h
  refine wp_build T parts ho (by rw [hf]; rfl) ?_
  rw [hf]
  exact this
theorem wv_built1 {ops : Array Oper} {rest : List Oper} {o : Oper} {a : Act} {w : World} {Q : Exit → Act → World → Prop} (hgd : Region.wanted o (yielded ops a.tmps) = true) (T : TypeId) (i : Nat) (x : Operand) (ho : o.op = .build T #[(i, x)]) {v : Value} (hx : a.eval x = v) (cs : Array Value)
  (hf : Tryz.prog.built T [(i, v)] = some cs) (h : wpList Tryz.prog ops Q rest (a.put o.dst (.agg cs)) w) : wpList Tryz.prog ops Q (o :: rest) a w :=
 wv_builtC hgd T #[(i, x)] ho cs (by simpa [hx] using hf) h
theorem built_reader (d : De) (A : Option Addr) (n c : Nat) (N : Int) : Tryz.prog.built 124 [(0, .agg (dcC d A n c N))] = some (dcC d A n c N) := by kernel_rfl
def OpQ (w : World) (bs : List Nat) (e : Ending) (w' : World) : Prop :=
 ∃ gR, e = .returned (.tuple #[.pointer (some ⟨gR, 0, none⟩), .int .i64 0]) ∧ w.heap.size ≤ gR ∧ (∃ A n c, Blk w' gR 124 (dcC (d0 (inB bs)) A n c ((inB bs).length : Int)) ∧ Rd w' A n (pack (inB bs))) ∧ Below w.heap.size w w'
theorem inB_len (bs : List Nat) : (inB bs).length = 8 * bs.length := bitsIn_length _ _
theorem open_no0 (A : Option Addr) (c : Nat) (w : World) : Calls Tryz.prog 43 #[.slice A 0 c] w (ValQ w (.tuple #[.pointer none, .int .i64 21])) := by
 have HM := Lib.hid (Mem.start w)
 go_enter Tryz.func43, Tryz.ntmps43
 go_wp2
 go_ret2
 exact ⟨rfl, HM.out.1⟩
theorem open_no (A : Option Addr) (n c : Nat) (w : World) (h : ¬ (1 ≤ n ∧ n ≤ 40)) : Calls Tryz.prog 43 #[.slice A n c] w (ValQ w (.tuple #[.pointer none, .int .i64 21])) := by
 by_cases h0 : n = 0
 ·subst h0
  exact open_no0 A c w
 ·have d0 : ((n : Int) == 0) = false := by simp; omega
  have d1 : (40 : Int) < (n : Int) := by omega
  have HM := Lib.hid (Mem.start w)
  clear h h0
  go_enter Tryz.func43, Tryz.ntmps43
  go_wp2
  go_ret2
  exact ⟨rfl, HM.out.1⟩
theorem open_yes (A : Option Addr) (n c : Nat) (bs : List Nat) (w : World) (hr : Hid (Rd w A n bs)) (h1 : 1 ≤ n) (h2 : n ≤ 40) : Calls Tryz.prog 43 #[.slice A n c] w (OpQ w bs) := by
 have d0' : ((n : Int) == 0) = false := by simp; omega
 have d1 : ¬ (40 : Int) < (n : Int) := by omega
 obtain ⟨L, hL⟩ : ∃ L : Nat, L = 8 * n := ⟨_, rfl⟩
 have e8 : 8 * (n : Int) = (L : Int) := by omega
 obtain ⟨l, hl⟩ : ∃ l, l = inB bs := ⟨_, rfl⟩
 have HL := Lib.hid (show l.length = L by rw [hl, inB_len, hr.out.1, hL])
 have HPK := Lib.hid (show pack l = bs by rw [hl]; exact pack_bitsIn_whole bs hr.out.2.1)
 have HLI := Lib.hid hl
 have hLb : L ≤ 320 := by omega
 clear hL hl
 go_enter Tryz.func43, Tryz.ntmps43
 go_wp2_with fail
 refine (of_any A n c bs w hr.out (by omega)).mono ?_
 rintro e w1 ⟨g, rfl, hg, hB, hb⟩
 rw [e8]
 have HB1 := Lib.hid hb
 have hrd := Rd.of_blk hB hr.out.2.1
 rw [hr.out.1] at hrd
 have HI := Lib.hid (isB_mk (A := some ⟨g, 0, none⟩) (n := n) (c := n) (l := l) (by rw [HPK.out]; exact hrd) HL.out (by omega))
 clear hg hB hb hrd e8
 go_wp2_with fail
 refine (pstart_ok (some ⟨g, 0, none⟩) n n L l w1 HI).mono ?_
 rintro e w2 ⟨A2, n2, c2, rfl, hb2, hr2⟩
 have HM := Lib.hid (MV.start w2)
 have HB2 := Lib.hid (HB1.out.trans (hb2.mono HB1.out.size))
 have HR2 := Lib.hid hr2
 rw [show decV 0 4294967295 (Cd.val l 32) A2 n2 c2 (L : Int) 32 = .agg (dcC (d0 l) A2 n2 c2 (L : Int)) from rfl]
 obtain ⟨D, hD⟩ : ∃ D, D = d0 l := ⟨_, rfl⟩
 rw [← hD]
 have HD := Lib.hid hD
 clear hb2 hr2 hD HI HB1
 go_wp2_with (first | (refine wv_built1 rfl 124 0 (.tmp 22) rfl (v := .agg (dcC D A2 n2 c2 (L : Int))) rfl (dcC D A2 n2 c2 (L : Int)) (built_reader D A2 n2 c2 (L : Int)) ?_) | (first | (refine aVn ?_; first | (have q:dV HM = 0:=rfl;clear q HM;intro g1 u1 HG1 HM) | (have q:dV HM = 1:=rfl;clear q HM;intro g2 u2 HG2 HM) | (have q:dV HM = 2:=rfl;clear q HM;intro g3 u3 HG3 HM) | (have q:dV HM = 3:=rfl;clear q HM;intro g4 u4 HG4 HM)) | (refine aVl ?_) | (refine aVs ?_; clear HM; intro us HM; dsimp only [List.set] at HM) | (refine aZe ?_)))
 go_ret2
 have hap : Apt A2 n2 [g2, g1] := Apt.cons (Apt.cons (apt0 _ _) (rd_lt HR2.out) HG1.out) (rd_lt HR2.out) HG2.out
 refine ⟨g2, rfl, Nat.le_trans HB2.out.size HG2.out, ⟨A2, n2, c2, ?_, ?_⟩, HB2.out.trans (HM.out.1.mono HB2.out.size)⟩
 ·have h := HM.out.get (by exact q7m (e := (g2, 124, dcC D A2 n2 c2 (L : Int))))
  rw [HD.out, HLI.out] at h
  rw [← HLI.out, HL.out, HLI.out]
  exact h
 ·rw [← HLI.out]
  exact HM.out.rdA HR2.out hap
open Cd (De FineD fineD0 d0 nxE nxK decV dcC isB_parts)
open Yr (stR inB rdR rd_thru thru kT kindR lvO nmO chkB wrB frR_of)
theorem eqB_any (A B : Option Addr) (n c m d : Nat) (xs bs : List Nat) (w : World) (ha : Hid (Rd w A n xs)) (hb : Hid (Rd w B m bs)) :
  Calls Tryz.prog 70 #[.slice A n c, .slice B m d] w (ValQ w (.bool (decide (xs = bs)))) := by
 have e1 := run_str c ha.out
 have e2 := run_str d hb.out
 have e3 := str_beqF xs bs ha.out.2.1 hb.out.2.1
 have HM := Lib.hid (Mem.start w)
 generalize decide (xs = bs) = r at e3 ⊢
 go_enter Tryz.func70, Tryz.ntmps70
 go_wp2
 go_ret
 exact ⟨rfl, HM.out.1⟩
def hjB (F : List Int) (p : List Int) (bs : List Nat) : Bool := decide (chkB (F.getD 0 0) (lvO F) (nmO F) p = true ∧ wrB (F.getD 0 0) (lvO F) (nmO F) p = bs)
theorem frS_O {F : List Int} (h : F.length = 23) : FrS F (F.getD 0 0) (lvO F) (nmO F) := frS_of F h
theorem hj_any (F p : List Int) (bs : List Nat) (gR : Nat) (D : De) (A : Option Addr) (n c : Nat) (N : Int) (w : World) (LF : F.length = 23) (lp : p.length = 6) (he : Edg w) (hb : Hid (Blk w gR 124 (dcC D A n c N))) (hr : Hid (Rd w A n bs)) :
  Calls Tryz.prog 46 #[.pointer (some ⟨gR, 0, none⟩), .agg (icells F), .agg (icells p)] w (ValQ w (.bool (hjB F p bs))) := by
 have HLF := Lib.hid LF
 have LP := Lib.hid lp
 have HM := Lib.hid (Mem.start w)
 have HE := Lib.hid he
 cases hc : chkB (F.getD 0 0) (lvO F) (nmO F) p with
 | false =>
  have HV : hjB F p bs = false := by unfold hjB; rw [hc]; simp
  rw [HV]
  have HW := Lib.hid (fun u (hu : Edg u) => fwrite_no F _ _ _ p u (frS_O LF) lp hu hc)
  clear LF lp he hc HV
  go_enter Tryz.func46, Tryz.ntmps46
  go_wp2_with (first | (first | (refine aNw ?_; first | (have q:dL HM = 0:=rfl;clear q HM;intro g1 u1 HM) | (have q:dL HM = 1:=rfl;clear q HM;intro g2 u2 HM) | (have q:dL HM = 2:=rfl;clear q HM;intro g3 u3 HM) | (have q:dL HM = 3:=rfl;clear q HM;intro g4 u4 HM)) | (refine aLo ?_) | (refine aSt ?_; clear HM; intro us HM; dsimp only [List.set] at HM) | (refine aZe ?_)) | (refine aLs ?_) | (refine aCf ?_))
  refine (HW.out _ (HE.out.mem HM.out)).mono ?_
  rintro e w2 ⟨rfl, h1⟩
  replace HM := Lib.hid (HM.out.below h1)
  clear h1 HW
  go_wp2
  go_ret
  exact ⟨rfl, HM.out.1⟩
 | true =>
  have HV : hjB F p bs = decide (wrB (F.getD 0 0) (lvO F) (nmO F) p = bs) := by unfold hjB; rw [hc]; simp
  rw [HV]
  have HW := Lib.hid (fun u (hu : Edg u) => fwrite_yes F _ _ _ p u (frS_O LF) lp hu hc)
  generalize wrB (F.getD 0 0) (lvO F) (nmO F) p = xs at HW ⊢
  clear LF lp he hc HV
  go_enter Tryz.func46, Tryz.ntmps46
  go_wp2_with (first | (first | (refine aNw ?_; first | (have q:dL HM = 0:=rfl;clear q HM;intro g1 u1 HM) | (have q:dL HM = 1:=rfl;clear q HM;intro g2 u2 HM) | (have q:dL HM = 2:=rfl;clear q HM;intro g3 u3 HM) | (have q:dL HM = 3:=rfl;clear q HM;intro g4 u4 HM)) | (refine aLo ?_) | (refine aSt ?_; clear HM; intro us HM; dsimp only [List.set] at HM) | (refine aZe ?_)) | (refine aLs ?_) | (refine aCf ?_))
  refine (HW.out _ (HE.out.mem HM.out)).mono ?_
  rintro e w2 ⟨A2, n2, c2, rfl, -, hr2, h1⟩
  have HM2 := Lib.hid (HM.out.below h1)
  have HR2 := Lib.hid hr2
  clear h1 hr2 HM HW
  have HM := HM2
  clear HM2
  have c3 := (hb.out.below HM.out.1 hb.out.lt).cell 3
  rw [show (dcC D A n c N)[3]? = some (.slice A n c) from rfl] at c3
  go_wp2_with fail
  refine (eqB_any A2 A n2 c2 n c xs bs w2 HR2 (Lib.hid (hr.out.below HM.out.1))).mono ?_
  rintro e w3 ⟨rfl, h1⟩
  have HB3 := Lib.hid (HM.out.1.trans (h1.mono HM.out.1.size))
  clear h1 c3
  go_wp2
  go_ret
  exact ⟨rfl, HB3.out⟩
open Yr (stR inB rdR rd_thru thru kT kindR lvO nmO chkB wrB rd_one wrB_len chkB_iff)
theorem wv_allocI {ops : Array Oper} {rest : List Oper} {o : Oper} {a : Act} {w w0 w1 : World} {Q : Exit → Act → World → Prop} {L : List Ent} (hgd : Region.wanted o (yielded ops a.tmps) = true) (ho : o.op = .alloc 3) (hm : Hid (MV w0 w1 L w))
  (h : ∀ g w', Hid (w1.heap.size ≤ g) → Hid (MV w0 w1 ((g, 3, icells [0]) :: L) w') → wpList Tryz.prog ops Q rest (a.put o.dst (.pointer (some ⟨g, 0, none⟩))) w') : wpList Tryz.prog ops Q (o :: rest) a w :=
 wl_step hgd fun K hK => by
  have hz : (zeroValue 3).run Tryz.prog w = .ok (.int .i64 0) w := by kernel_rfl
  have := hK _ _ (h w.heap.size _ (Lib.hid hm.out.2.2.2.2.1) (Lib.hid (hm.out.alloc 3 (icells [0]))))
  unfold Oper.wp execOp
  simp only [ho, Instr.alloc, newVar, newRow, Sem.run_bind, hz, Result.andThen, Value.cells, Sem.run_pure]
  exact this
theorem RsI.start {w0 u : World} {gF gR N n c : Nat} {TF : TypeId} {inp : List Bool} {F : List Int} {A : Option Addr} (hB : Blk u gR 124 (dcC (d0 inp) A n c (inp.length : Int))) (hr : Rd u A n (pack inp)) (hF : Blk u gF TF (icells F)) (hl : F.length = N) (hb : Below w0.heap.size w0 u) {K : List Ent} (hk : ∀ e ∈ K, Blk u e.1 e.2.1 e.2.2 ∧ e.1 ≠ gF ∧ e.1 ≠ gR) : RsI w0 gF gR N TF inp (d0 inp, F) K u :=
 ⟨⟨A, n, c, hB, hr⟩, hF, hl, fineD0 inp, Nat.le_refl _, by show 32 ≤ inp.length + 72; omega, hb, hk⟩
open Yr (stR inB rdR rd_thru thru kT kindR lvO nmO chkB wrB rd_one wrB_len chkB_iff lvO_length row_ext lvO_get)
theorem rdR_far {bs : List Nat} {p : List Int} (h : ¬ (1 ≤ bs.length ∧ bs.length ≤ 40)) : rdR bs p = none := by
 cases e : rdR bs p with
 | none => rfl
 | some x =>
  obtain ⟨K, l, q⟩ := x
  obtain ⟨c1, c2, c3⟩ := rd_one e
  have := wrB_len ((chkB_iff K l q p).1 c1)
  rw [c2] at this
  omega
theorem frL_O {F : List Int} (h : F.length = 23) : frL (F.getD 0 0) (lvO F) (nmO F) = F := by
 match F, h with
 | x :: t, h =>
  have ht : t.length = 22 := by simpa using h
  unfold frL lvO nmO
  show x :: (((x :: t).drop 1).take 6 ++ ((x :: t).drop 7).take 16) = x :: t
  rw [List.drop_succ_cons, List.drop_zero, List.drop_succ_cons, List.take_of_length_le (l := t.drop 6) (by rw [List.length_drop]; omega), List.take_append_drop]
theorem rdV_some {bs : List Nat} {p : List Int} {d : De} {F : List Int} (hp : chkL p = true) (LF : F.length = 23) (h : thru (stR (inB bs)) (fun s => s.2) p (d0 (inB bs), zr 23) = some (d, F)) : rdV bs p = if hjB F p bs = true then .tuple #[.agg (icells F), .int .i64 0] else .tuple #[.agg (icells (zr 23)), .int .i64 21] := by
 have h2 := rd_thru (bs := bs) (p := p)
 rw [h] at h2
 have h3 := h2 LF
 unfold rdV
 rw [if_pos hp]
 by_cases hc : chkB (F.getD 0 0) (lvO F) (nmO F) p = true ∧ wrB (F.getD 0 0) (lvO F) (nmO F) p = bs
 ·rw [if_pos hc] at h3
  rw [h3, if_pos (by unfold hjB; exact decide_eq_true hc)]
  show Value.tuple #[.agg (icells (frL (F.getD 0 0) (lvO F) (nmO F))), .int .i64 0] = _
  rw [frL_O LF]
 ·rw [if_neg hc] at h3
  rw [h3, if_neg (by unfold hjB; rw [decide_eq_false hc]; exact Bool.false_ne_true)]
theorem rdV_none {bs : List Nat} {p : List Int} (hp : chkL p = true) (h : thru (stR (inB bs)) (fun s => s.2) p (d0 (inB bs), zr 23) = none) : rdV bs p = .tuple #[.agg (icells (zr 23)), .int .i64 21] := by
 have h2 := rd_thru (bs := bs) (p := p)
 rw [h] at h2
 have h3 : rdR bs p = none := h2
 unfold rdV
 rw [if_pos hp, h3]
theorem fread_arg (A : Option Addr) (n c : Nat) (bs : List Nat) (p : List Int) (w : World) (lp : p.length = 6) (hp : chkL p = false) :
  Calls Tryz.prog 23 #[.slice A n c, .agg (icells p)] w (ValQ w (rdV bs p)) := by
 have HV := Lib.hid (show rdV bs p = .tuple #[.agg (icells (zr 23)), .int .i64 1] by unfold rdV; rw [if_neg (by rw [hp]; exact Bool.false_ne_true)])
 have HC := Lib.hid (fun u => bcheck_any p false 1 u lp hp rfl)
 have LP := Lib.hid lp
 have HM := Lib.hid (MV.start w)
 clear lp hp
 go_enter Tryz.func23, Tryz.ntmps23
 go_wp2_with (first | (refine wv_zeroF rfl rfl ?_) | (first | (refine aVn ?_; first | (have q:dV HM = 0:=rfl;clear q HM;intro g1 u1 HG1 HM) | (have q:dV HM = 1:=rfl;clear q HM;intro g2 u2 HG2 HM) | (have q:dV HM = 2:=rfl;clear q HM;intro g3 u3 HG3 HM) | (have q:dV HM = 3:=rfl;clear q HM;intro g4 u4 HG4 HM)) | (refine aVl ?_) | (refine aVs ?_; clear HM; intro us HM; dsimp only [List.set] at HM) | (refine aZe ?_)) | (refine aVe ?_) | (refine aVp ?_; clear HM; intro us HM; dsimp only [List.set] at HM) | (refine aXl ?_))
 refine (HC.out _).mono ?_
 rintro e w2 ⟨rfl, h1⟩
 have HM2 := Lib.hid (HM.out.below h1).base
 clear h1 HM HC
 have HM := HM2
 clear HM2
 go_wp2_with (first | (refine wv_zeroF rfl rfl ?_) | (first | (refine aVn ?_; first | (have q:dV HM = 0:=rfl;clear q HM;intro g1 u1 HG1 HM) | (have q:dV HM = 1:=rfl;clear q HM;intro g2 u2 HG2 HM) | (have q:dV HM = 2:=rfl;clear q HM;intro g3 u3 HG3 HM) | (have q:dV HM = 3:=rfl;clear q HM;intro g4 u4 HG4 HM)) | (refine aVl ?_) | (refine aVs ?_; clear HM; intro us HM; dsimp only [List.set] at HM) | (refine aZe ?_)) | (refine aVe ?_) | (refine aVp ?_; clear HM; intro us HM; dsimp only [List.set] at HM) | (refine aXl ?_))
 exact bodyPost_ret (v := .tuple #[.agg (icells (zr 23)), .int .i64 1]) (vres_two rfl _ rfl rfl rowFr HM (by exact q7m) (by exact q7s)) rfl ⟨by rw [HV.out], HM.out.1⟩
theorem fread_far (A : Option Addr) (n c : Nat) (bs : List Nat) (p : List Int) (w : World) (hr : Hid (Rd w A n bs)) (lp : p.length = 6) (hp : chkL p = true) (h : ¬ (1 ≤ n ∧ n ≤ 40)) :
  Calls Tryz.prog 23 #[.slice A n c, .agg (icells p)] w (ValQ w (rdV bs p)) := by
 have HV := Lib.hid (show rdV bs p = .tuple #[.agg (icells (zr 23)), .int .i64 21] by unfold rdV; rw [if_pos hp, rdR_far (by rw [hr.out.1]; exact h)])
 have HC := Lib.hid (fun u => bcheck_any p true 0 u lp hp rfl)
 have HO := Lib.hid (fun u => open_no A n c u h)
 have LP := Lib.hid lp
 have HM := Lib.hid (MV.start w)
 clear lp hp h
 go_enter Tryz.func23, Tryz.ntmps23
 go_wp2_with (first | (refine wv_zeroF rfl rfl ?_) | (first | (refine aVn ?_; first | (have q:dV HM = 0:=rfl;clear q HM;intro g1 u1 HG1 HM) | (have q:dV HM = 1:=rfl;clear q HM;intro g2 u2 HG2 HM) | (have q:dV HM = 2:=rfl;clear q HM;intro g3 u3 HG3 HM) | (have q:dV HM = 3:=rfl;clear q HM;intro g4 u4 HG4 HM)) | (refine aVl ?_) | (refine aVs ?_; clear HM; intro us HM; dsimp only [List.set] at HM) | (refine aZe ?_)) | (refine aVe ?_) | (refine aVp ?_; clear HM; intro us HM; dsimp only [List.set] at HM) | (refine aXl ?_))
 refine (HC.out _).mono ?_
 rintro e w2 ⟨rfl, h1⟩
 have HM2 := Lib.hid (HM.out.below h1).base
 clear h1 HM HC
 have HM := HM2
 clear HM2
 go_wp2_with (first | (refine wv_zeroF rfl rfl ?_) | (first | (refine aVn ?_; first | (have q:dV HM = 0:=rfl;clear q HM;intro g1 u1 HG1 HM) | (have q:dV HM = 1:=rfl;clear q HM;intro g2 u2 HG2 HM) | (have q:dV HM = 2:=rfl;clear q HM;intro g3 u3 HG3 HM) | (have q:dV HM = 3:=rfl;clear q HM;intro g4 u4 HG4 HM)) | (refine aVl ?_) | (refine aVs ?_; clear HM; intro us HM; dsimp only [List.set] at HM) | (refine aZe ?_)) | (refine aVe ?_) | (refine aVp ?_; clear HM; intro us HM; dsimp only [List.set] at HM) | (refine aXl ?_))
 refine (HO.out _).mono ?_
 rintro e w3 ⟨rfl, h1⟩
 have HM2 := Lib.hid (HM.out.below h1).base
 clear h1 HM HO
 have HM := HM2
 clear HM2
 go_wp2_with (first | (refine wv_zeroF rfl rfl ?_) | (first | (refine aVn ?_; first | (have q:dV HM = 0:=rfl;clear q HM;intro g1 u1 HG1 HM) | (have q:dV HM = 1:=rfl;clear q HM;intro g2 u2 HG2 HM) | (have q:dV HM = 2:=rfl;clear q HM;intro g3 u3 HG3 HM) | (have q:dV HM = 3:=rfl;clear q HM;intro g4 u4 HG4 HM)) | (refine aVl ?_) | (refine aVs ?_; clear HM; intro us HM; dsimp only [List.set] at HM) | (refine aZe ?_)) | (refine aVe ?_) | (refine aVp ?_; clear HM; intro us HM; dsimp only [List.set] at HM) | (refine aXl ?_))
 exact bodyPost_ret (v := .tuple #[.agg (icells (zr 23)), .int .i64 21]) (vres_two rfl _ rfl rfl rowFr HM (by exact q7m) (by exact q7s)) rfl ⟨by rw [HV.out], HM.out.1⟩
theorem fread_yes (A : Option Addr) (n c : Nat) (bs : List Nat) (p : List Int) (w : World) (hr : Hid (Rd w A n bs)) (lp : p.length = 6) (he : Edg w) (hp : chkL p = true) (h1 : 1 ≤ n) (h2 : n ≤ 40) :
  Calls Tryz.prog 23 #[.slice A n c, .agg (icells p)] w (ValQ w (rdV bs p)) := by
 have HC := Lib.hid (fun u => bcheck_any p true 0 u lp hp rfl)
 have HO := Lib.hid (fun u (h : Rd u A n bs) => open_yes A n c bs u (Lib.hid h) h1 h2)
 have HP := Lib.hid hp
 have LP := Lib.hid lp
 have HE := Lib.hid he
 have HLb := Lib.hid (show (inB bs).length ≤ 60000 by rw [inB_len, hr.out.1]; omega)
 have HPK := Lib.hid (show pack (inB bs) = bs from pack_bitsIn_whole bs hr.out.2.1)
 have HM := Lib.hid (MV.start w)
 have hmf : ∀ (fn : Fn) (first cap : Array Value) (w : World), (Instr.makeFunc fn first cap).run Tryz.prog w = .ok (.func fn first cap) w := fun _ _ _ _ => rfl
 clear lp hp he h1 h2
 go_enter Tryz.func23, Tryz.ntmps23
 go_wp2_with (first | (refine wv_zeroF rfl rfl ?_) | (first | (refine aVn ?_; first | (have q:dV HM = 0:=rfl;clear q HM;intro g1 u1 HG1 HM) | (have q:dV HM = 1:=rfl;clear q HM;intro g2 u2 HG2 HM) | (have q:dV HM = 2:=rfl;clear q HM;intro g3 u3 HG3 HM) | (have q:dV HM = 3:=rfl;clear q HM;intro g4 u4 HG4 HM)) | (refine aVl ?_) | (refine aVs ?_; clear HM; intro us HM; dsimp only [List.set] at HM) | (refine aZe ?_)) | (refine aVe ?_) | (refine aVp ?_; clear HM; intro us HM; dsimp only [List.set] at HM) | (refine aXl ?_))
 refine (HC.out _).mono ?_
 rintro e w2 ⟨rfl, h1⟩
 have HM2 := Lib.hid (HM.out.below h1).base
 clear h1 HM HC
 have HM := HM2
 clear HM2
 go_wp2_with (first | (refine wv_zeroF rfl rfl ?_) | (first | (refine aVn ?_; first | (have q:dV HM = 0:=rfl;clear q HM;intro g1 u1 HG1 HM) | (have q:dV HM = 1:=rfl;clear q HM;intro g2 u2 HG2 HM) | (have q:dV HM = 2:=rfl;clear q HM;intro g3 u3 HG3 HM) | (have q:dV HM = 3:=rfl;clear q HM;intro g4 u4 HG4 HM)) | (refine aVl ?_) | (refine aVs ?_; clear HM; intro us HM; dsimp only [List.set] at HM) | (refine aZe ?_)) | (refine aVe ?_) | (refine aVp ?_; clear HM; intro us HM; dsimp only [List.set] at HM) | (refine aXl ?_))
 refine (HO.out _ (hr.out.below HM.out.1)).mono ?_
 rintro e w3 ⟨gR, rfl, hg, ⟨A3, n3, c3, hB, hR⟩, hb⟩
 have HM0 := HM
 have hA3 := rd_lt hR
 have l2 := (HM.out.get (by exact q7m (e := (g2, 57, icells (zr 23))))).lt
 have b1 := HM.out.get (by exact q7m (e := (g1, 29, icells p)))
 have HLD := Lib.hid (fun (u : World) (hu : Below w2.heap.size w2 u) => run_load_blk arrLev.row (b1.below hu b1.lt) ((icells_size p).trans LP.out))
 have HE2 := Lib.hid (HE.out.below HM.out.1)
 have HBR := Lib.hid hB
 have HRR := Lib.hid hR
 have HGR := Lib.hid hg
 have HB3 := Lib.hid hb
 obtain ⟨gP, hgP⟩ : ∃ gP, gP = g1 := ⟨_, rfl⟩
 obtain ⟨gO, hgO⟩ : ∃ gO, gO = g2 := ⟨_, rfl⟩
 subst hgP hgO
 clear HM HO hg hB hR hb b1
 have HM := Lib.hid (((MV.start w2).below HB3.out).base)
 go_wp2_with (first | (refine wv_loadE rfl _ _ rfl rfl (Lib.hid (HLD.out _ HM.out.1)) ?_) | (first | (refine wv_zeroF rfl rfl ?_) | (first | (refine aVn ?_; first | (have q:dV HM = 0:=rfl;clear q HM;intro g1 u1 HG1 HM) | (have q:dV HM = 1:=rfl;clear q HM;intro g2 u2 HG2 HM) | (have q:dV HM = 2:=rfl;clear q HM;intro g3 u3 HG3 HM) | (have q:dV HM = 3:=rfl;clear q HM;intro g4 u4 HG4 HM)) | (refine aVl ?_) | (refine aVs ?_; clear HM; intro us HM; dsimp only [List.set] at HM) | (refine aZe ?_)) | (refine aVe ?_) | (refine aVp ?_; clear HM; intro us HM; dsimp only [List.set] at HM) | (refine aXl ?_)))
 have n2 := HBR.out.lt
 have HI := Lib.hid (show RsI w2 g1 gR 23 57 (inB bs) (d0 (inB bs), zr 23) [] u1 from RsI.start (K := []) (HM.out.keep HBR.out (fun e he => by rw [List.mem_singleton] at he; subst he; have := HG1.out; show g1 ≠ gR; omega)) (HM.out.rdA HRR.out (Apt.cons (apt0 _ _) hA3 HG1.out)) (HM.out.get (by exact q7m)) (zr_length 23) HM.out.1 (fun e he => nomatch he))
 have HT := Lib.hid (telRead (N := 23) (TF := 57) (inp := inB bs) (⟨by have := HG1.out; omega, by have := HG1.out; have := HB3.out.size; omega, HGR.out⟩ : RsG w2 g1 gR) HLb.out)
 have HC := Lib.hid (thru_any (d0 (inB bs), zr 23) [] u1 p HT HI HE2 LP.out HP.out rfl)
 have HLT := Lib.hid (show w2.heap.size ≤ g1 by have := HG1.out; have := HB3.out.size; omega)
 clear HI HT HM HLD
 cases ho : thru (stR (inB bs)) (fun s => s.2) p (d0 (inB bs), zr 23) with
 | none =>
  have HV := Lib.hid (rdV_none HP.out ho)
  rw [ho] at HC
  clear ho
  refine HC.out.mono ?_
  rintro e w4 ⟨E, hE, rfl, hb⟩
  have hE2 : ¬ E = 0 := by simpa using hE
  have HM := Lib.hid (HM0.out.below hb).base
  clear hb HC HM0
  go_wp2_with (first | (refine wv_zeroF rfl rfl ?_) | (first | (refine aVn ?_; first | (have q:dV HM = 0:=rfl;clear q HM;intro g1 u1 HG1 HM) | (have q:dV HM = 1:=rfl;clear q HM;intro g2 u2 HG2 HM) | (have q:dV HM = 2:=rfl;clear q HM;intro g3 u3 HG3 HM) | (have q:dV HM = 3:=rfl;clear q HM;intro g4 u4 HG4 HM)) | (refine aVl ?_) | (refine aVs ?_; clear HM; intro us HM; dsimp only [List.set] at HM) | (refine aZe ?_)) | (refine aVe ?_) | (refine aVp ?_; clear HM; intro us HM; dsimp only [List.set] at HM) | (refine aXl ?_))
  exact bodyPost_ret (v := .tuple #[.agg (icells (zr 23)), .int .i64 21]) (vres_two rfl _ rfl rfl rowFr HM (by exact q7m) (by exact q7s)) rfl ⟨by rw [HV.out], HM.out.1⟩
 | some x =>
  obtain ⟨d, F⟩ := x
  rw [ho] at HC
  refine HC.out.mono ?_
  rintro e w4 ⟨rfl, hi⟩
  have lf : F.length = 23 := hi.len
  have HV := Lib.hid (rdV_some HP.out lf ho)
  have LF := Lib.hid lf
  obtain ⟨A4, n4, c4, hB4, hR4⟩ := hi.bR
  rw [HPK.out] at hR4
  have HM := Lib.hid ((HM0.out.below hi.blw).addF hi.bF (Nat.le_trans HM0.out.1.size HLT.out) (fun e he => Nat.lt_of_lt_of_le (HM0.out.2.1 e he).lt HLT.out))
  have HJ := Lib.hid (hj_any F p bs gR d A4 n4 c4 _ w4 lf LP.out (HE.out.below HM.out.1) (Lib.hid hB4) (Lib.hid hR4))
  clear ho hi lf hB4 hR4 HC HM0
  generalize hjB F p bs = v at HV HJ
  dsimp only at HM
  cases v with
  | true =>
   go_wp2_with (first | (refine wv_zeroF rfl rfl ?_) | (first | (refine aVn ?_; first | (have q:dV HM = 0:=rfl;clear q HM;intro g1 u1 HG1 HM) | (have q:dV HM = 1:=rfl;clear q HM;intro g2 u2 HG2 HM) | (have q:dV HM = 2:=rfl;clear q HM;intro g3 u3 HG3 HM) | (have q:dV HM = 3:=rfl;clear q HM;intro g4 u4 HG4 HM)) | (refine aVl ?_) | (refine aVs ?_; clear HM; intro us HM; dsimp only [List.set] at HM) | (refine aZe ?_)) | (refine aVe ?_) | (refine aVp ?_; clear HM; intro us HM; dsimp only [List.set] at HM) | (refine aXl ?_))
   refine HJ.out.mono ?_
   rintro e w5 ⟨rfl, h1⟩
   have HM2 := Lib.hid (HM.out.below h1).base
   clear h1 HM HJ
   have HM := HM2
   clear HM2
   go_wp2_with (first | (refine wv_zeroF rfl rfl ?_) | (first | (refine aVn ?_; first | (have q:dV HM = 0:=rfl;clear q HM;intro g1 u1 HG1 HM) | (have q:dV HM = 1:=rfl;clear q HM;intro g2 u2 HG2 HM) | (have q:dV HM = 2:=rfl;clear q HM;intro g3 u3 HG3 HM) | (have q:dV HM = 3:=rfl;clear q HM;intro g4 u4 HG4 HM)) | (refine aVl ?_) | (refine aVs ?_; clear HM; intro us HM; dsimp only [List.set] at HM) | (refine aZe ?_)) | (refine aVe ?_) | (refine aVp ?_; clear HM; intro us HM; dsimp only [List.set] at HM) | (refine aXl ?_))
   exact bodyPost_ret (v := .tuple #[.agg (icells F), .int .i64 0]) (vres_two rfl _ rfl rfl rowFr HM (by exact q7m) (by exact q7s)) rfl ⟨by rw [HV.out]; simp, HM.out.1⟩
  | false =>
   go_wp2_with (first | (refine wv_zeroF rfl rfl ?_) | (first | (refine aVn ?_; first | (have q:dV HM = 0:=rfl;clear q HM;intro g1 u1 HG1 HM) | (have q:dV HM = 1:=rfl;clear q HM;intro g2 u2 HG2 HM) | (have q:dV HM = 2:=rfl;clear q HM;intro g3 u3 HG3 HM) | (have q:dV HM = 3:=rfl;clear q HM;intro g4 u4 HG4 HM)) | (refine aVl ?_) | (refine aVs ?_; clear HM; intro us HM; dsimp only [List.set] at HM) | (refine aZe ?_)) | (refine aVe ?_) | (refine aVp ?_; clear HM; intro us HM; dsimp only [List.set] at HM) | (refine aXl ?_))
   refine HJ.out.mono ?_
   rintro e w5 ⟨rfl, h1⟩
   have HM2 := Lib.hid (HM.out.below h1).base
   clear h1 HM HJ
   have HM := HM2
   clear HM2
   go_wp2_with (first | (refine wv_zeroF rfl rfl ?_) | (first | (refine aVn ?_; first | (have q:dV HM = 0:=rfl;clear q HM;intro g1 u1 HG1 HM) | (have q:dV HM = 1:=rfl;clear q HM;intro g2 u2 HG2 HM) | (have q:dV HM = 2:=rfl;clear q HM;intro g3 u3 HG3 HM) | (have q:dV HM = 3:=rfl;clear q HM;intro g4 u4 HG4 HM)) | (refine aVl ?_) | (refine aVs ?_; clear HM; intro us HM; dsimp only [List.set] at HM) | (refine aZe ?_)) | (refine aVe ?_) | (refine aVp ?_; clear HM; intro us HM; dsimp only [List.set] at HM) | (refine aXl ?_))
   exact bodyPost_ret (v := .tuple #[.agg (icells (zr 23)), .int .i64 21]) (vres_two rfl _ rfl rfl rowFr HM (by exact q7m) (by exact q7s)) rfl ⟨by rw [HV.out]; simp, HM.out.1⟩
theorem fread_any (A : Option Addr) (n c : Nat) (bs : List Nat) (p : List Int) (w : World) (hr : Hid (Rd w A n bs)) (lp : p.length = 6) (he : Edg w) :
  Calls Tryz.prog 23 #[.slice A n c, .agg (icells p)] w (ValQ w (rdV bs p)) := by
 cases hp : chkL p with
 | false => exact fread_arg A n c bs p w lp hp
 | true =>
  by_cases h : 1 ≤ n ∧ n ≤ 40
  ·exact fread_yes A n c bs p w hr lp he hp h.1 h.2
  ·exact fread_far A n c bs p w hr lp hp h
open Yr (rdR rd_one rd_back Fr chkB chkB_iff gsR_len rdR_gs)
theorem rest_his {s : Sy} (h : okSy s = true) (hh : s.hush = true) : restS s = .ok (hisS { s with l := s.l, live := false }) := by
 unfold restS
 rw [if_pos h, if_pos hh]
 have hv : s.live = false := by
  cases e : s.live with
  | false => rfl
  | true => exact absurd ⟨e, hh⟩ (okSy_iff.1 h).2.2
 cases s
 simp only at hv
 rw [hv]
theorem rest_snd {s : Sy} (h : okSy s = true) (hh : s.hush = false) : restS s = .ok (sndS { s with live := false } (zr 16)) := by
 unfold restS
 rw [if_pos h, if_neg (by rw [hh]; exact Bool.false_ne_true)]
theorem mrest_any {w0 w1 w : World} {m : Nat} (s : Sy) (hm : Hid (MV w0 w1 [(m, 70, syC s)] w)) (hs : Hid (SyW s)) (hk : okSy s = true) (he : Hid (Edg w0)) :
  Calls Tryz.prog 39 #[.pointer (some ⟨m, 0, none⟩)] w (SdQ w0 w1 m (restS s)) := by
 have HM := hm
 have HSW := hs
 have HE := he
 have LZ := Lib.hid (zr_length 16)
 obtain ⟨k1, k2, k3⟩ := okSy_iff.1 hk
 cases hh : s.hush with
 | true =>
  rw [rest_his hk hh]
  have HHU := Lib.hid hh
  have HNO := Lib.hid (fun (a b : World) (h : Hid (MV w0 a [(m, 70, syC s)] b)) => mnoise_any s s.l h hs hs.out.ll k2 k1 he)
  generalize hisS { s with l := s.l, live := false } = r at HNO ⊢
  obtain ⟨s3, p⟩ := r
  unfold SdQ at HNO ⊢
  dsimp only at HNO ⊢
  clear hm hs hk he k1 k2 k3 hh
  go_enter Tryz.func39, Tryz.ntmps39
  go_wp2_with (first | (refine aQl ?_) | (refine aQs ?_; clear HM; intro us HM; dsimp only [List.set] at HM) | (refine aQt ?_; clear HM HSW; intro us HM HSW; dsimp only [List.set] at HM HSW) | (refine aQv ?_; clear HM; intro us HM; dsimp only [List.set] at HM) | (refine aQb ?_) | (refine aQn ?_; first | (have q:dV HM = 0:=rfl;clear q HM;intro g1 u1 HG1 HM) | (have q:dV HM = 1:=rfl;clear q HM;intro g2 u2 HG2 HM) | (have q:dV HM = 2:=rfl;clear q HM;intro g3 u3 HG3 HM) | (have q:dV HM = 3:=rfl;clear q HM;intro g4 u4 HG4 HM)))
  refine (HNO.out _ _ (Lib.hid (HM.out.sub (by exact q7v)))).mono ?_
  rintro e w4 ⟨rfl, hw, hp, hm⟩
  have HSW3 := Lib.hid hw
  have LP := Lib.hid hp
  have HM2 := Lib.hid (HM.out.after (by exact q7i) hm)
  clear hw hp hm HM HNO HSW
  have HM := HM2
  clear HM2
  dsimp only [List.set] at HM
  go_wp2_with (first | (refine aQl ?_) | (refine aQs ?_; clear HM; intro us HM; dsimp only [List.set] at HM) | (refine aQt ?_; clear HM HSW; intro us HM HSW; dsimp only [List.set] at HM HSW) | (refine aQv ?_; clear HM; intro us HM; dsimp only [List.set] at HM) | (refine aQb ?_) | (refine aQn ?_; first | (have q:dV HM = 0:=rfl;clear q HM;intro g1 u1 HG1 HM) | (have q:dV HM = 1:=rfl;clear q HM;intro g2 u2 HG2 HM) | (have q:dV HM = 2:=rfl;clear q HM;intro g3 u3 HG3 HM) | (have q:dV HM = 3:=rfl;clear q HM;intro g4 u4 HG4 HM)))
  refine bodyPost_ret (v := .tuple #[.agg (icells p), .int .i64 0]) (vres_two rfl _ rfl rfl (by exact q7r) HM (by exact q7m) (by exact q7s)) rfl ⟨rfl, HSW3.out, LP.out, (by have HP := HM.out; (repeat (replace HP := HP.popH (by with_reducible assumption))); exact HP)⟩
 | false =>
  rw [rest_snd hk hh]
  have HHU := Lib.hid hh
  have HNO := Lib.hid (fun (a b : World) (h : Hid (MV w0 a [(m, 70, syC { s with live := false })] b)) => msound_any { s with live := false } (zr 16) h (Lib.hid (hs.out.setLive false)) LZ.out okX_zr k1)
  generalize sndS { s with live := false } (zr 16) = r at HNO ⊢
  obtain ⟨s3, p⟩ := r
  unfold SdQ at HNO ⊢
  dsimp only at HNO ⊢
  clear hm hs hk he k1 k2 k3 hh
  go_enter Tryz.func39, Tryz.ntmps39
  go_wp2_with (first | (refine aQl ?_) | (refine aQs ?_; clear HM; intro us HM; dsimp only [List.set] at HM) | (refine aQt ?_; clear HM HSW; intro us HM HSW; dsimp only [List.set] at HM HSW) | (refine aQv ?_; clear HM; intro us HM; dsimp only [List.set] at HM) | (refine aQb ?_) | (refine aQn ?_; first | (have q:dV HM = 0:=rfl;clear q HM;intro g1 u1 HG1 HM) | (have q:dV HM = 1:=rfl;clear q HM;intro g2 u2 HG2 HM) | (have q:dV HM = 2:=rfl;clear q HM;intro g3 u3 HG3 HM) | (have q:dV HM = 3:=rfl;clear q HM;intro g4 u4 HG4 HM)))
  refine (HNO.out _ _ (Lib.hid (HM.out.sub (by exact q7v)))).mono ?_
  rintro e w4 ⟨rfl, hw, hp, hm⟩
  have HSW3 := Lib.hid hw
  have LP := Lib.hid hp
  have HM2 := Lib.hid (HM.out.after (by exact q7i) hm)
  clear hw hp hm HM HNO HSW
  have HM := HM2
  clear HM2
  dsimp only [List.set] at HM
  go_wp2_with (first | (refine aQl ?_) | (refine aQs ?_; clear HM; intro us HM; dsimp only [List.set] at HM) | (refine aQt ?_; clear HM HSW; intro us HM HSW; dsimp only [List.set] at HM HSW) | (refine aQv ?_; clear HM; intro us HM; dsimp only [List.set] at HM) | (refine aQb ?_) | (refine aQn ?_; first | (have q:dV HM = 0:=rfl;clear q HM;intro g1 u1 HG1 HM) | (have q:dV HM = 1:=rfl;clear q HM;intro g2 u2 HG2 HM) | (have q:dV HM = 2:=rfl;clear q HM;intro g3 u3 HG3 HM) | (have q:dV HM = 3:=rfl;clear q HM;intro g4 u4 HG4 HM)))
  refine bodyPost_ret (v := .tuple #[.agg (icells p), .int .i64 0]) (vres_two rfl _ rfl rfl (by exact q7r) HM (by exact q7m) (by exact q7s)) rfl ⟨rfl, HSW3.out, LP.out, (by have HP := HM.out; (repeat (replace HP := HP.popH (by with_reducible assumption))); exact HP)⟩
theorem mtalk_any {w0 w1 w : World} {m : Nat} (s : Sy) (F : List Int) (K : Int) (l q : List Int) (hm : Hid (MV w0 w1 [(m, 70, syC s)] w)) (hs : Hid (SyW s)) (hF : FrS F K l q) (hy : mayB q l = true) (ht : okW s.t = true) (he : Hid (Edg w0)) :
  Calls Tryz.prog 57 #[.pointer (some ⟨m, 0, none⟩), .agg (icells F)] w (SdQ w0 w1 m (.ok (sndS { s with l := l, live := true, hush := false } (greatL q l)))) := by
 have HM := hm
 have HSW := hs
 have HE := he
 have HGR := Lib.hid (fun u => qgreat_any q l u hF.lq hF.ll)
 rw [greatV_ok hy] at HGR
 have LF := Lib.hid hF.len
 have SL := Lib.hid hF.lev
 have SQ := Lib.hid hF.num
 have LL := Lib.hid hF.ll
 have LQ := Lib.hid hF.lq
 have LX := Lib.hid (show (greatL q l).length = 16 from tab_length 16 _)
 have HNO := Lib.hid (fun (a c : World) (h : Hid (MV w0 a [(m, 70, syC ⟨s.t, l, true, false, s.seed⟩)] c)) => msound_any ⟨s.t, l, true, false, s.seed⟩ (greatL q l) h (Lib.hid ⟨hs.out.lt, hF.ll, hs.out.sd⟩) LX.out (okX_great q l) ht)
 generalize greatL q l = x at HNO HGR LX ⊢
 generalize sndS _ x = r at HNO ⊢
 obtain ⟨s3, p⟩ := r
 unfold SdQ at HNO ⊢
 dsimp only at HNO ⊢
 clear hm hs hF hy ht he
 go_enter Tryz.func57, Tryz.ntmps57
 go_wp2_with (first | (refine aQl ?_) | (refine aQs ?_; clear HM; intro us HM; dsimp only [List.set] at HM) | (refine aQt ?_; clear HM HSW; intro us HM HSW; dsimp only [List.set] at HM HSW) | (refine aQv ?_; clear HM; intro us HM; dsimp only [List.set] at HM) | (refine aQb ?_) | (refine aQn ?_; first | (have q:dV HM = 0:=rfl;clear q HM;intro g1 u1 HG1 HM) | (have q:dV HM = 1:=rfl;clear q HM;intro g2 u2 HG2 HM) | (have q:dV HM = 2:=rfl;clear q HM;intro g3 u3 HG3 HM) | (have q:dV HM = 3:=rfl;clear q HM;intro g4 u4 HG4 HM)))
 refine (HGR.out _ (HE.out.below HM.out.1)).mono ?_
 rintro e w3 ⟨rfl, hb⟩
 replace HM := Lib.hid (HM.out.below hb)
 clear hb HGR
 go_wp2_with (first | (refine aQl ?_) | (refine aQs ?_; clear HM; intro us HM; dsimp only [List.set] at HM) | (refine aQt ?_; clear HM HSW; intro us HM HSW; dsimp only [List.set] at HM HSW) | (refine aQv ?_; clear HM; intro us HM; dsimp only [List.set] at HM) | (refine aQb ?_) | (refine aQn ?_; first | (have q:dV HM = 0:=rfl;clear q HM;intro g1 u1 HG1 HM) | (have q:dV HM = 1:=rfl;clear q HM;intro g2 u2 HG2 HM) | (have q:dV HM = 2:=rfl;clear q HM;intro g3 u3 HG3 HM) | (have q:dV HM = 3:=rfl;clear q HM;intro g4 u4 HG4 HM)))
 refine (HNO.out _ _ (Lib.hid (HM.out.sub (by exact q7v)))).mono ?_
 rintro e w4 ⟨rfl, hw, hp, hm⟩
 have HSW3 := Lib.hid hw
 have LP := Lib.hid hp
 have HM2 := Lib.hid (HM.out.after (by exact q7i) hm)
 clear hw hp hm HM HNO HSW
 have HM := HM2
 clear HM2
 dsimp only [List.set] at HM
 go_wp2_with (first | (refine aQl ?_) | (refine aQs ?_; clear HM; intro us HM; dsimp only [List.set] at HM) | (refine aQt ?_; clear HM HSW; intro us HM HSW; dsimp only [List.set] at HM HSW) | (refine aQv ?_; clear HM; intro us HM; dsimp only [List.set] at HM) | (refine aQb ?_) | (refine aQn ?_; first | (have q:dV HM = 0:=rfl;clear q HM;intro g1 u1 HG1 HM) | (have q:dV HM = 1:=rfl;clear q HM;intro g2 u2 HG2 HM) | (have q:dV HM = 2:=rfl;clear q HM;intro g3 u3 HG3 HM) | (have q:dV HM = 3:=rfl;clear q HM;intro g4 u4 HG4 HM)))
 refine bodyPost_ret (v := .tuple #[.agg (icells p), .int .i64 0]) (vres_two rfl _ rfl rfl (by exact q7r) HM (by exact q7m) (by exact q7s)) rfl ⟨rfl, HSW3.out, LP.out, (by have HP := HM.out; (repeat (replace HP := HP.popH (by with_reducible assumption))); exact HP)⟩
end Go.Proofs.YtkdbhndegkldcaaGreatDoor.Lp
