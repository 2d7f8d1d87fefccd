/-
  Own texts, laid together: Gs.
-/
import Derived.Test.YtgelgbfnioagbaaGr
/- Gs -/
namespace Go.Proofs.Ytgelgbfnioagbaa.Cd
open Go.RowKit
theorem symL_cons (l : List Bool) (d : De) (xs : List Int) (r : List (List Int)) : symL l d (xs :: r) = (nxK d xs : Int) :: symL l (nxE l d xs) r := by
  unfold symL
  rw [List.length_cons, List.range_succ_eq_map, List.map_cons, List.map_map]
  rfl
theorem in_back {inp : List Bool} {ps : List Pr} : ∀ {e : En}, Fine e → allErr e ps = 0 → In inp (stE e ps) → In inp e := by
  induction ps with
  | nil => intro e _ _ h; exact h
  | cons q r ih =>
    intro e h h0 hi
    cases hq : okP q with
    | false => rw [allErr_no hq] at h0; cases h0
    | true =>
      rcases putC_cases (put1 e q) with ⟨c, _, _⟩ | c
      · rw [allErr_ok hq c] at h0
        rw [stE_cons] at hi
        exact (In.put h.1 h.2.1 (symP_of hq).2.2.2 (ih (h.put hq c) h0 hi)).2
      · rw [allErr_long hq c] at h0; cases h0
theorem len_mono {ps : List Pr} : ∀ {e : En}, Fine e → allErr e ps = 0 → len e ≤ len (stE e ps) := by
  induction ps with
  | nil => intro e _ _; exact Nat.le_refl _
  | cons q r ih =>
    intro e h h0
    cases hq : okP q with
    | false => rw [allErr_no hq] at h0; cases h0
    | true =>
      rcases putC_cases (put1 e q) with ⟨c, _, _⟩ | c
      · rw [allErr_ok hq c] at h0
        have h1 := ih (h.put hq c) h0
        obtain ⟨_, _, k, hk, _⟩ := put_facts h.1 h.2.1 (symP_of hq).2.2.2
        rw [stE_cons]
        have : len (put1 e q) = len e + k := hk
        omega
      · rw [allErr_long hq c] at h0; cases h0
theorem next_back {inp : List Bool} {e : En} {d : De} {q : Pr} (h : Fine e) (hq : okP q = true) (hs : Sync inp e d) (hi : In inp (put1 e q)) : (nxK d q.2 : Int) = q.1 ∧ Sync inp (put1 e q) (nxE inp d q.2) := by
  have hsp := symP_of hq
  obtain ⟨y1, y2, y3, y4, y5⟩ := next_sync h.1 h.2.1 hsp.2.2.2 hi hs
  have hq' := hq
  unfold okP Fq.symB at hq'
  simp only [Bool.and_eq_true, decide_eq_true_eq] at hq'
  obtain ⟨hok, h0, h1⟩ := hq'
  have b1 := Fq.okF_bd hok (i := q.1.toNat) (by omega)
  have b2 := Fq.okF_bd hok (i := q.1.toNat + 1) (by omega)
  have hk : nxK d q.2 = q.1.toNat := symK_is hok ⟨by omega, by unfold spA at y1; omega, by unfold spB at y2; omega⟩
  have hk2 : (nxK d q.2 : Int) = q.1 := by rw [hk]; omega
  refine ⟨hk2, ?_⟩
  have eq : nxQ d q.2 = q := by unfold nxQ; rw [hk2]
  have e1 : nxE inp d q.2 = widD 40 inp ⟨(nar e (spA q) (spB q) (spT q.2)).low, (nar e (spA q) (spB q) (spT q.2)).high, d.code, d.at_⟩ := by
    unfold nxE nxD narD
    rw [eq, hs.1, hs.2.1]
    rfl
  rw [e1]
  exact y5
theorem back_all {inp : List Bool} {ps : List Pr} : ∀ {e : En} {d : De}, Fine e → allErr e ps = 0 → Sync inp e d → In inp (stE e ps) → len (stE e ps) ≤ inp.length → backErr inp d (ps.map (·.2)) = 0 ∧ symL inp d (ps.map (·.2)) = ps.map (·.1) := by
  induction ps with
  | nil => intro e d _ _ _ _ _; exact ⟨rfl, rfl⟩
  | cons q r ih =>
    intro e d h h0 hs hi hl
    have hlm := len_mono h h0
    cases hq : okP q with
    | false => rw [allErr_no hq] at h0; cases h0
    | true =>
      rcases putC_cases (put1 e q) with ⟨c, _, _⟩ | c
      · rw [allErr_ok hq c] at h0
        rw [stE_cons] at hi hl hlm
        have hi1 := in_back (h.put hq c) h0 hi
        obtain ⟨n1, n2⟩ := next_back h hq hs hi1
        obtain ⟨r1, r2⟩ := ih (h.put hq c) h0 n2 hi hl
        have hok : Fq.okF q.2 = true := (symP_of hq).2.1
        have hat : d.at_ ≤ inp.length + 32 := by rw [hs.2.2.1]; omega
        rw [List.map_cons, List.map_cons, backErr_ok hok hat, symL_cons, n1, r2]
        exact ⟨r1, rfl⟩
      · rw [allErr_long hq c] at h0; cases h0
/-- all symbols of what was put, with anything behind -/
theorem all_back {ps : List Pr} (h0 : allErr e0 ps = 0) (tail : List Bool) :
    backErr (endBits (stE e0 ps) ++ tail) (d0 (endBits (stE e0 ps) ++ tail)) (ps.map (·.2)) = 0 ∧ symL (endBits (stE e0 ps) ++ tail) (d0 (endBits (stE e0 ps) ++ tail)) (ps.map (·.2)) = ps.map (·.1) := by
  have hf := (allErr_zero fine0 h0).1
  refine back_all fine0 h0 (e0_sync _) (end_in hf.1 hf.2.1 tail) ?_
  rw [List.length_append, endBits_length]
  omega
theorem prs_snd {ss : List Int} {ts : List Tb} (h : ss.length = ts.length) : (prs ss ts).map (·.2) = tbs ts := by
  unfold prs tbs
  rw [List.map_snd_zip]
  rw [List.length_map]; omega
theorem prs_fst {ss : List Int} {ts : List Tb} (h : ss.length = ts.length) : (prs ss ts).map (·.1) = ss := by
  unfold prs
  rw [List.map_fst_zip]
  rw [List.length_map]; omega
end Go.Proofs.Ytgelgbfnioagbaa.Cd
