/-
  Own texts, laid together: Qo.
-/
import Derived.Test.YtcnckamocbaceaaDoorQn
/- Qo -/
namespace Go.Proofs.YtcnckamocbaceaaDoor.Lp
open Go.RowKit Go.Proofs.YtcnckamocbaceaaDoor.Fx Go.Proofs.YtcnckamocbaceaaDoor.Fq Go.Proofs.YtcnckamocbaceaaDoor.Tb
theorem small_at (x l : List Int) {k : Nat} (hk : k < 16) : (smallL x l).getD k 0 = smallF x (ssL l) (msL l) k := tab_getD _ hk
/-- what was made small may be -/
theorem small_may {x l : List Int} (hc : chkL l = true) : mayB (smallL x l) l = true := by
  unfold mayB
  rw [hc, Bool.true_and]
  have key : ∀ n, n ≤ 16 → mayN (smallL x l) (msL l) n = true := fun n => by
    induction n with
    | zero => intro _; rfl
    | succ n ih =>
      intro hn
      rw [mayN_succ, ih (by omega), small_at x l (by omega), smallF_is]
      have hm := msL_bd l (k := n) (by omega)
      generalize (msL l).getD n 0 = m at hm ⊢
      generalize divI (x.getD n 0) ((ssL l).getD n 0) = d
      split
      · rw [decide_eq_true (show -m ≤ min (max d (-m)) m by omega), decide_eq_true (show min (max d (-m)) m ≤ m by omega)]; rfl
      · rw [decide_eq_true (show -m ≤ 0 by omega), decide_eq_true (show (0 : Int) ≤ m by omega)]; rfl
  exact key 16 (by omega)
/-- steps and mosts where levels may be -/
theorem ss_at {l : List Int} (hc : chkL l = true) {k : Nat} (hk : k < 16) : (ssL l).getD k 0 = stF l (shareL l 120) k := by unfold ssL; rw [if_pos hc]; exact tab_getD _ hk
theorem ms_at {l : List Int} (hc : chkL l = true) {k : Nat} (hk : k < 16) : (msL l).getD k 0 = moF (shareL l 120) k := by unfold msL; rw [if_pos hc]; exact tab_getD _ hk
/-- in a band without bits: silence -/
theorem near_none {x l : List Int} (hc : chkL l = true) {k : Nat} (hk : k < 16) (h0 : (shareL l 120).getD (bnd k) 0 = 0) : (smallL x l).getD k 0 = 0 ∧ (greatL (smallL x l) l).getD k 0 = 0 := by
  have es := ss_at hc hk
  rw [stF_is, h0, if_neg (by decide)] at es
  have e1 : (smallL x l).getD k 0 = 0 := by rw [small_at x l hk, smallF_is, es, if_neg (by decide)]
  refine ⟨e1, ?_⟩
  unfold greatL
  rw [tab_getD _ hk, greatF_is, e1, es]
  decide
/-- in a band with bits: off by half a step at the most -/
theorem near_some {x : List Int} (hx : okX x = true) (hc : chkL (measL x) = true) {k : Nat} (hk : k < 16) {y z : Nat} (hy : (measL x).getD (bnd k) 0 = (y : Int)) (hz : (shareL (measL x) 120).getD (bnd k) 0 = (z : Int)) (h1 : 1 ≤ z) :
    2 * ((greatL (smallL x (measL x)) (measL x)).getD k 0 - x.getD k 0) ≤ (stepN y z : Int) ∧ -(stepN y z : Int) ≤ 2 * ((greatL (smallL x (measL x)) (measL x)).getD k 0 - x.getD k 0) ∧
      -(mostN z : Int) ≤ (smallL x (measL x)).getD k 0 ∧ (smallL x (measL x)).getD k 0 ≤ (mostN z : Int) := by
  have hb := (bnd_all k hk).1
  have ha := (share_ok (measL x) (B := 120) (by decide)).1.2 (bnd k) hb
  have hl := inR_bd hc (by omega) (by omega) (bnd k)
  have es := ss_at hc hk
  have em := ms_at hc hk
  have hn := near_peak hx hk hb rfl
  have hv := inR_bd hx (by omega) (by omega) k
  rw [show levB x (bnd k) = (measL x).getD (bnd k) 0 from (tab_getD _ hb).symm, hy] at hn
  rw [stF_is, hy, hz, if_pos (by omega)] at es
  rw [moF_is, hz, if_pos (by omega)] at em
  rw [hz] at ha
  rw [hy] at hl
  rw [show ((y : Int)).toNat = y from rfl] at hn es
  rw [show ((z : Int)).toNat = z from rfl] at es em
  have r1 := stepN_reach (l := y) (k := z) h1
  have s2 := stepN_bd (l := y) (k := z) (by omega) h1 (by omega)
  have e1 : (smallL x (measL x)).getD k 0 = smallF x (ssL (measL x)) (msL (measL x)) k := small_at x _ hk
  have e2 : (greatL (smallL x (measL x)) (measL x)).getD k 0 = greatF (smallL x (measL x)) (ssL (measL x)) k := tab_getD _ hk
  rw [greatF_is] at e2
  rw [smallF_is, es, em, if_pos (by omega)] at e1
  rw [es] at e2
  rw [e2, e1]
  generalize stepN y z = s at r1 s2
  generalize mostN z = m at r1
  generalize peakN y = p at r1 hn
  generalize x.getD k 0 = v at hn hv
  have h4 : ((m * s : Nat) : Int) = (m : Int) * (s : Int) := Int.natCast_mul m s
  have w1 := divI_within (a := v) (s := (s : Int)) (m := (m : Int)) (by omega) (by omega) (by omega)
  have n1 := divI_near (a := v) (s := (s : Int)) (by omega)
  generalize divI v (s : Int) = d at w1 n1
  have ed : min (max d (-(m : Int))) (m : Int) = d := by omega
  rw [ed]
  generalize d * (s : Int) = t at n1
  refine ⟨by omega, by omega, by omega, by omega⟩
end Go.Proofs.YtcnckamocbaceaaDoor.Lp
