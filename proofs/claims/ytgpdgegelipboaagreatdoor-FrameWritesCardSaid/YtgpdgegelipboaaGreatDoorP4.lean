/-
  Own texts, laid together: YA, Ye, Yg, Yh, Yi, Ea, Ec, Ee, Ef, Eg, Eh, MR, Ei, Ej, Em, En, Yt, Eb.
-/
import Derived.Test.YtgpdgegelipboaaGreatDoorP3
set_option linter.unusedSimpArgs false
set_option linter.unusedVariables false
set_option maxRecDepth 100000
namespace Go.Proofs.YtgpdgegelipboaaGreatDoor.Yr
open Go.RowKit Cd
open Lp (tab tab_getD tab_length chkL shareL msL mayB mayN mayN_at bnd bnd_all mostN moF costL costL_eq OkA share_ok moF_is mostN_bd moL)
theorem totF_acc' (zs : List Int) : Fq.totF true (Fq.acc zs) = Fq.tot zs := by
  unfold Fq.totF
  rw [Fq.acc_length, Nat.add_sub_cancel, Fq.acc_getD _ _ (Nat.le_refl _)]
  simp
theorem ms_at {l : List Int} (hc : chkL l = true) {k : Nat} (hk : k < 16) : (msL l).getD k 0 = moF (shareL l 120) k := by
  unfold msL; rw [if_pos hc]; exact tab_getD _ hk
def kindN : List Int := [6, 9, 1]
def chgN : List Int := [1, 1, 2, 3, 5, 9, 16, 30, 60, 30, 16, 9, 5, 3, 2, 1]
def smN (m : Nat) : List Int := (List.range (2 * m + 1)).map fun (j : Nat) => (m : Int) + 1 - max ((j : Int) - (m : Int)) ((m : Int) - (j : Int))
def kT : List Int := Fq.acc kindN
def cT : List Int := Fq.acc chgN
def lT : List Int := evT
def smT (m : Nat) : List Int := Fq.acc (smN m)
theorem smN_length (m : Nat) : (smN m).length = 2 * m + 1 := by simp [smN]
theorem smT_length (m : Nat) : (smT m).length = 2 * m + 2 := by unfold smT; rw [Fq.acc_length, smN_length]
theorem kT_ok : Fq.okF kT = true := by decide +kernel
theorem cT_ok : Fq.okF cT = true := by decide +kernel
theorem lT_ok : Fq.okF lT = true := evT_ok
theorem lT_length : lT.length = 257 := evT_length
theorem kT_length : kT.length = 4 := by decide +kernel
theorem cT_length : cT.length = 17 := by decide +kernel
theorem kT_tot : spT kT = 16 := by decide +kernel
theorem cT_tot : spT cT = 193 := by decide +kernel
theorem tot_rep (n : Nat) : Fq.tot (List.replicate n 1) = (n : Int) := by
  induction n with
  | zero => rfl
  | succ n ih => rw [List.replicate_succ, Fq.tot_cons, ih]; omega
theorem lT_tot : spT lT = 256 := by unfold spT lT evT; rw [totF_acc', tot_rep]; rfl
theorem smN_sum : ∀ k, k < 8 → Fq.tot (smN (mostN k)) = ((2 ^ (2 * k) : Nat) : Int) := by decide +kernel
theorem smN_in (m : Nat) : ∀ x ∈ smN m, 1 ≤ x ∧ x ≤ (m : Int) + 1 := fun x hx => by
  unfold smN at hx
  rw [List.mem_map] at hx
  obtain ⟨j, hj, rfl⟩ := hx
  have := List.mem_range.1 hj
  omega
theorem pow_le14 {k : Nat} (h : k < 8) : 2 ^ (2 * k) ≤ 16384 := Nat.pow_le_pow_right (n := 2) (i := 2 * k) (j := 14) (by omega) (by omega)
theorem smN_ok {k : Nat} (hk : k < 8) : Fq.okN (smN (mostN k)) = true := by
  have hm := mostN_bd k (by omega)
  have h := smN_sum k hk
  have hp := pow_le14 hk
  unfold Fq.okN
  refine decide_eq_true ⟨by rw [smN_length]; omega, by rw [smN_length]; omega, fun x hx => ?_, by rw [h]; omega⟩
  have := smN_in _ x hx
  omega
theorem smT_ok {k : Nat} (hk : k < 8) : Fq.okF (smT (mostN k)) = true := Fq.okF_acc (smN_ok hk)
theorem smT_tot {k : Nat} (hk : k < 8) : spT (smT (mostN k)) = 2 ^ (2 * k) := by
  unfold spT smT
  rw [totF_acc', smN_sum k hk]
  exact Int.toNat_natCast _
def lvP (K : Int) (l p : List Int) (b : Nat) : Pr := if K = 1 then (l.getD b 0 - p.getD b 0 + 8, cT) else (l.getD b 0, lT)
def headP (K : Int) (l p : List Int) : List Pr := (K, kT) :: (List.range 6).map (lvP K l p)
def numsP (q ms : List Int) : Nat → List Pr
  | 0 => []
  | k + 1 => numsP q ms k ++ if 0 < ms.getD k 0 then [(q.getD k 0 + ms.getD k 0, smT (ms.getD k 0).toNat)] else []
theorem numsP_succ (q ms : List Int) (k : Nat) : numsP q ms (k + 1) = numsP q ms k ++ if 0 < ms.getD k 0 then [(q.getD k 0 + ms.getD k 0, smT (ms.getD k 0).toNat)] else [] := rfl
def symsP (K : Int) (l q p : List Int) : List Pr := headP K l p ++ if K = 2 then [] else numsP q (msL l) 16
def nearN (l p : List Int) : Nat → Bool
  | 0 => true
  | k + 1 => nearN l p k && (decide (p.getD k 0 - 8 ≤ l.getD k 0) && decide (l.getD k 0 ≤ p.getD k 0 + 7))
theorem nearN_succ (l p : List Int) (k : Nat) : nearN l p (k + 1) = (nearN l p k && (decide (p.getD k 0 - 8 ≤ l.getD k 0) && decide (l.getD k 0 ≤ p.getD k 0 + 7))) := rfl
theorem nearN_at {l p : List Int} : ∀ n k, k < n → nearN l p n = true → p.getD k 0 - 8 ≤ l.getD k 0 ∧ l.getD k 0 ≤ p.getD k 0 + 7
  | n + 1, k, hk, h => by
    rw [nearN_succ, Bool.and_eq_true, Bool.and_eq_true, decide_eq_true_eq, decide_eq_true_eq] at h
    by_cases e : k = n
    · subst e; exact h.2
    · exact nearN_at n k (by omega) h.1
def nearB (l p : List Int) : Bool := chkL l && (chkL p && nearN l p 6)
def chkB (K : Int) (l q p : List Int) : Bool :=
  (decide (0 ≤ K) && decide (K ≤ 2)) && (chkL l && (chkL p && ((decide (K ≠ 1) || nearN l p 6) && ((decide (K ≠ 2) || decide (q = Lp.zr 16)) && mayB q l))))
structure Fr (K : Int) (l q p : List Int) : Prop where
  kind : 0 ≤ K ∧ K ≤ 2
  lev : chkL l = true
  ahead : chkL p = true
  near : K = 1 → nearN l p 6 = true
  sid : K = 2 → q = Lp.zr 16
  may : mayB q l = true
theorem chkB_iff (K : Int) (l q p : List Int) : chkB K l q p = true ↔ Fr K l q p := by
  unfold chkB
  simp only [Bool.and_eq_true, Bool.or_eq_true, decide_eq_true_eq]
  constructor
  · rintro ⟨h1, h2, h3, h4, h5, h6⟩
    exact ⟨h1, h2, h3, fun e => h4.resolve_left fun k => k e, fun e => h5.resolve_left fun k => k e, h6⟩
  · rintro ⟨h1, h2, h3, h4, h5, h6⟩
    refine ⟨h1, h2, h3, ?_, ?_, h6⟩
    · by_cases e : K = 1
      · exact .inr (h4 e)
      · exact .inl e
    · by_cases e : K = 2
      · exact .inr (h5 e)
      · exact .inl e
end Go.Proofs.YtgpdgegelipboaaGreatDoor.Yr
namespace Go.Proofs.YtgpdgegelipboaaGreatDoor.Yr
open Go.RowKit Cd
open Lp (tab tab_getD tab_length zr_getD chkL shareL msL mayB mayN mayN_at bnd bnd_all mostN moF costL costL_eq OkA share_ok moF_is mostN_bd moL inR_bd)
theorem okP_of {xs : List Int} {s : Int} (ho : Fq.okF xs = true) (h0 : 0 ≤ s) (h1 : s < (xs.length : Int) - 1) : okP (s, xs) = true := by
  unfold okP Fq.symB
  rw [ho, Bool.true_and]
  exact decide_eq_true ⟨h0, h1⟩
def wtT (T : Nat) : Nat := if T = 193 then 8 else T.log2
def wSum : List Pr → Nat
  | [] => 0
  | q :: r => (wtT (spT q.2) + 1) + wSum r
theorem wSum_append (a b : List Pr) : wSum (a ++ b) = wSum a + wSum b := by
  induction a with
  | nil => simp [wSum]
  | cons q r ih => rw [List.cons_append]; simp only [wSum]; rw [ih]; omega
def Good (q : Pr) : Prop := okP q = true ∧ spT q.2 ≤ 2 ^ wtT (spT q.2)
theorem puts_long {ps : List Pr} : ∀ {e : En} {M : Nat}, Fine e → LongR e M → (∀ q ∈ ps, Good q) → M + wSum ps ≤ 60000 → allErr e ps = 0 ∧ Fine (stE e ps) ∧ LongR (stE e ps) (M + wSum ps) := by
  induction ps with
  | nil => intro e M hf hl _ _; exact ⟨rfl, hf, hl⟩
  | cons q r ih =>
    intro e M hf hl hg hM
    obtain ⟨g1, g2⟩ := hg q (by simp)
    have hs := (symP_of g1).2.2.2
    have hl2 := hl.put hf g1 (n := wtT (spT q.2)) (Nat.le_trans g2 (Nat.le_mul_of_pos_left _ (by have := hs.1; omega)))
    obtain ⟨a, b, _⟩ := put_facts hf.1 hf.2.1 hs
    have hlen := long_end a b hl2
    simp only [wSum] at hM ⊢
    unfold len at hlen
    have hc : putC (put1 e q) = 0 := by
      unfold putC
      rw [if_pos]
      unfold put1
      constructor <;> omega
    rw [allErr_ok g1 hc, stE_cons]
    obtain ⟨r1, r2, r3⟩ := ih (hf.put g1 hc) hl2 (fun x hx => hg x (by simp [hx])) (by omega)
    refine ⟨r1, r2, ?_⟩
    rw [show M + (wtT (spT q.2) + 1 + wSum r) = M + (wtT (spT q.2) + 1) + wSum r by omega]
    exact r3
theorem good_k {K : Int} (h : 0 ≤ K ∧ K ≤ 2) : Good (K, kT) := ⟨okP_of kT_ok h.1 (by rw [kT_length]; omega), by rw [kT_tot]; decide⟩
theorem good_lv {K : Int} {l q p : List Int} (h : Fr K l q p) {b : Nat} (hb : b < 6) : Good (lvP K l p b) ∧ wtT (spT (lvP K l p b).2) = 8 := by
  unfold lvP
  by_cases e : K = 1
  · rw [if_pos e]
    have hn := nearN_at 6 b hb (h.near e)
    have w : wtT (spT cT) = 8 := by rw [cT_tot]; rfl
    exact ⟨⟨okP_of cT_ok (by omega) (by rw [cT_length]; omega), by rw [w, cT_tot]; decide⟩, w⟩
  · rw [if_neg e]
    have hl := inR_bd h.lev (by omega) (by omega) b
    have w : wtT (spT lT) = 8 := by rw [lT_tot]; decide
    exact ⟨⟨okP_of lT_ok (by omega) (by rw [lT_length]; omega), by rw [w, lT_tot]; decide⟩, w⟩
theorem lv_all {K : Int} {l q p : List Int} (h : Fr K l q p) : ∀ k, k ≤ 6 → (∀ x ∈ (List.range k).map (lvP K l p), Good x) ∧ wSum ((List.range k).map (lvP K l p)) = 9 * k
  | 0, _ => ⟨by simp, rfl⟩
  | k + 1, hk => by
    obtain ⟨i1, i2⟩ := lv_all h k (by omega)
    obtain ⟨g1, g2⟩ := good_lv h (b := k) (by omega)
    rw [List.range_succ, List.map_append, List.map_cons, List.map_nil]
    refine ⟨fun x hx => ?_, ?_⟩
    · rcases List.mem_append.1 hx with hx | hx
      · exact i1 x hx
      · rw [List.mem_singleton] at hx; subst hx; exact g1
    · rw [wSum_append, i2]; simp only [wSum]; rw [g2]; omega
theorem head_all {K : Int} {l q p : List Int} (h : Fr K l q p) : (∀ x ∈ headP K l p, Good x) ∧ wSum (headP K l p) = 59 := by
  obtain ⟨i1, i2⟩ := lv_all h 6 (by omega)
  unfold headP
  refine ⟨fun x hx => ?_, ?_⟩
  · rcases List.mem_cons.1 hx with hx | hx
    · subst hx; exact good_k h.kind
    · exact i1 x hx
  · simp only [wSum]; rw [i2, kT_tot]; decide
theorem good_num {k : Nat} {x : Int} (h1 : 1 ≤ k) (hk : k ≤ 7) (hx : -(mostN k : Int) ≤ x ∧ x ≤ (mostN k : Int)) : Good (x + (mostN k : Int), smT (mostN k)) ∧ wtT (spT (smT (mostN k))) = 2 * k := by
  have w : wtT (spT (smT (mostN k))) = 2 * k := by
    rw [smT_tot (by omega)]
    exact (show ∀ k, k < 8 → wtT (2 ^ (2 * k)) = 2 * k by decide +kernel) k (by omega)
  refine ⟨⟨okP_of (smT_ok (by omega)) (by omega) (by rw [smT_length]; omega), ?_⟩, w⟩
  show spT (smT (mostN k)) ≤ 2 ^ wtT (spT (smT (mostN k)))
  rw [w, smT_tot (by omega)]
  exact Nat.le_refl _
theorem ms_cases {l : List Int} (hc : chkL l = true) {n : Nat} (hn : n < 16) : ∃ k : Nat, k ≤ 7 ∧ (shareL l 120).getD (bnd n) 0 = (k : Int) ∧ ((k = 0 ∧ (msL l).getD n 0 = 0) ∨ (1 ≤ k ∧ (msL l).getD n 0 = (mostN k : Int))) := by
  have ha := (share_ok l (B := 120) (by decide)).1.2 (bnd n) (bnd_all n hn).1
  refine ⟨((shareL l 120).getD (bnd n) 0).toNat, by omega, by omega, ?_⟩
  rw [ms_at hc hn, moF_is]
  by_cases h0 : 0 < (shareL l 120).getD (bnd n) 0
  · rw [if_pos h0]; exact .inr ⟨by omega, rfl⟩
  · rw [if_neg h0]; exact .inl ⟨by omega, rfl⟩
theorem mostN_pos' {k : Nat} (h : 1 ≤ k) : 0 < (mostN k : Int) := by
  have := Go.Proofs.YtgpdgegelipboaaGreatDoor.Lp.mostN_pos h; omega
theorem nums_all {l q : List Int} (hc : chkL l = true) (hm : mayN q (msL l) 16 = true) : ∀ k, k ≤ 16 → (∀ x ∈ numsP q (msL l) k, Good x) ∧ ((wSum (numsP q (msL l) k) : Nat) : Int) ≤ Lp.sumN (fun n => 2 * (shareL l 120).getD (bnd n) 0 + 1) k
  | 0, _ => ⟨by simp [numsP], by simp [numsP, wSum, Lp.sumN]⟩
  | k + 1, hk => by
    obtain ⟨i1, i2⟩ := nums_all hc hm k (by omega)
    obtain ⟨z, z7, za, zm⟩ := ms_cases hc (n := k) (by omega)
    have hq := mayN_at 16 k (by omega) hm
    rw [numsP_succ, Lp.sumN_succ, za]
    rcases zm with ⟨z0, zm⟩ | ⟨z1, zm⟩
    · rw [zm, if_neg (by omega), List.append_nil]
      exact ⟨i1, by omega⟩
    · rw [zm] at hq ⊢
      have hp := mostN_pos' z1
      obtain ⟨g1, g2⟩ := good_num (x := q.getD k 0) z1 z7 hq
      rw [if_pos hp, Int.toNat_natCast]
      refine ⟨fun x hx => ?_, ?_⟩
      · rcases List.mem_append.1 hx with hx | hx
        · exact i1 x hx
        · rw [List.mem_singleton] at hx; subst hx; exact g1
      · rw [wSum_append]; simp only [wSum]; rw [g2]; omega
theorem sum_cost (a : List Int) : Lp.sumN (fun n => 2 * a.getD (bnd n) 0 + 1) 16 = 2 * costL a + 16 := by
  rw [costL_eq]
  simp only [Lp.sumN, show bnd 0 = 0 from rfl, show bnd 1 = 1 from rfl, show bnd 2 = 2 from rfl, show bnd 3 = 2 from rfl, show bnd 4 = 3 from rfl, show bnd 5 = 3 from rfl, show bnd 6 = 4 from rfl, show bnd 7 = 4 from rfl, show bnd 8 = 4 from rfl, show bnd 9 = 4 from rfl, show bnd 10 = 5 from rfl, show bnd 11 = 5 from rfl, show bnd 12 = 5 from rfl, show bnd 13 = 5 from rfl, show bnd 14 = 5 from rfl, show bnd 15 = 5 from rfl]
  omega
theorem fr_bits {K : Int} {l q p : List Int} (h : Fr K l q p) : allErr e0 (symsP K l q p) = 0 ∧ (endBits (stE e0 (symsP K l q p))).length ≤ 317 ∧ (∀ x ∈ symsP K l q p, Good x) := by
  obtain ⟨a1, a2⟩ := head_all h
  have hm := h.may
  unfold mayB at hm
  rw [Bool.and_eq_true] at hm
  obtain ⟨b1, b2⟩ := nums_all h.lev hm.2 16 (by omega)
  rw [sum_cost] at b2
  have hcost := (share_ok l (B := 120) (by decide)).2
  have key : (∀ x ∈ symsP K l q p, Good x) ∧ wSum (symsP K l q p) ≤ 315 := by
    unfold symsP
    by_cases e : K = 2
    · rw [if_pos e, List.append_nil]; exact ⟨a1, by omega⟩
    · rw [if_neg e]
      refine ⟨fun x hx => ?_, by rw [wSum_append]; omega⟩
      rcases List.mem_append.1 hx with hx | hx
      · exact a1 x hx
      · exact b1 x hx
  obtain ⟨r1, r2, r3⟩ := puts_long fine0 long0 key.1 (by omega)
  refine ⟨r1, ?_, key.1⟩
  have := long_end r2.1 r2.2.1 r3
  rw [endBits_length]
  omega
end Go.Proofs.YtgpdgegelipboaaGreatDoor.Yr
namespace Go.Proofs.YtgpdgegelipboaaGreatDoor.Yr
open Go.RowKit Cd
open Lp (tab tab_getD tab_get tab_length tab_congr tab_self zr_getD zr_length chkL shareL msL mayB mayN mayN_at bnd bnd_all mostN msL_length inR_bd)
def tabK (K : Int) : List Int := if K = 1 then cT else lT
def hdT (K : Int) : List (List Int) := kT :: List.replicate 6 (tabK K)
def numT (ms : List Int) : Nat → List (List Int)
  | 0 => []
  | k + 1 => numT ms k ++ if 0 < ms.getD k 0 then [smT (ms.getD k 0).toNat] else []
theorem numT_succ (ms : List Int) (k : Nat) : numT ms (k + 1) = numT ms k ++ if 0 < ms.getD k 0 then [smT (ms.getD k 0).toNat] else [] := rfl
theorem numsP_snd (q ms : List Int) : ∀ k, (numsP q ms k).map (·.2) = numT ms k
  | 0 => rfl
  | k + 1 => by
    rw [numsP_succ, numT_succ, List.map_append, numsP_snd q ms k]
    congr 1
    split <;> rfl
theorem lvP_snd (K : Int) (l p : List Int) (b : Nat) : (lvP K l p b).2 = tabK K := by
  unfold lvP tabK; split <;> rfl
theorem headP_snd (K : Int) (l p : List Int) : (headP K l p).map (·.2) = hdT K := by
  unfold headP hdT
  rw [List.map_cons, List.map_map]
  congr 1
  refine List.eq_replicate_iff.2 ⟨by simp, fun x hx => ?_⟩
  rw [List.mem_map] at hx
  obtain ⟨b, -, rfl⟩ := hx
  exact lvP_snd K l p b
def plc (ms : List Int) : Nat → Nat
  | 0 => 0
  | k + 1 => plc ms k + if 0 < ms.getD k 0 then 1 else 0
theorem plc_succ (ms : List Int) (k : Nat) : plc ms (k + 1) = plc ms k + if 0 < ms.getD k 0 then 1 else 0 := rfl
theorem numT_length (ms : List Int) : ∀ k, (numT ms k).length = plc ms k
  | 0 => rfl
  | k + 1 => by
    rw [numT_succ, List.length_append, numT_length ms k, plc_succ]
    congr 1
    by_cases h : 0 < ms.getD k 0
    · rw [if_pos h, if_pos h]; rfl
    · rw [if_neg h, if_neg h]; rfl
theorem plc_mono (ms : List Int) : ∀ {j k : Nat}, j ≤ k → plc ms j ≤ plc ms k
  | j, 0, h => by rw [Nat.le_zero.1 h]; exact Nat.le_refl _
  | j, k + 1, h => by
    by_cases e : j = k + 1
    · rw [e]; exact Nat.le_refl _
    · have := plc_mono ms (j := j) (k := k) (by omega)
      rw [plc_succ]
      exact Nat.le_trans this (Nat.le_add_right _ _)
def lvG (K : Int) (ss p : List Int) : List Int := tab 6 fun b => if K = 1 then p.getD b 0 + ss.getD (b + 1) 0 - 8 else ss.getD (b + 1) 0
def nmF (ss ms : List Int) (n : Nat) : Int := if 0 < ms.getD n 0 then ss.getD (7 + plc ms n) 0 - ms.getD n 0 else 0
def kindR (inp : List Bool) : Int := (nxK (d0 inp) kT : Int)
def lvR (inp : List Bool) (p : List Int) : List Int := lvG (kindR inp) (symL inp (d0 inp) (hdT (kindR inp))) p
def gsR (inp : List Bool) (p : List Int) : Option (Int × List Int × List Int) :=
  if backErr inp (d0 inp) (hdT (kindR inp)) = 0 then
    if kindR inp = 2 then some (kindR inp, lvR inp p, Lp.zr 16)
    else if backErr inp (d0 inp) (hdT (kindR inp) ++ numT (msL (lvR inp p)) 16) = 0 then
      some (kindR inp, lvR inp p, tab 16 (nmF (symL inp (d0 inp) (hdT (kindR inp) ++ numT (msL (lvR inp p)) 16)) (msL (lvR inp p))))
    else none
  else none
theorem backErr_pre {l : List Bool} {d : De} {a b : List (List Int)} (h : backErr l d (a ++ b) = 0) : backErr l d a = 0 := by
  have := backErr_take a.length h
  rwa [List.take_left] at this
theorem symL_pre (l : List Bool) (d : De) (a b : List (List Int)) : symL l d a = (symL l d (a ++ b)).take a.length := by
  have := symL_take_all l (a ++ b) d a.length
  rwa [List.take_left] at this
theorem symL_head (l : List Bool) (d : De) (xs : List Int) (r : List (List Int)) : (symL l d (xs :: r)).getD 0 0 = (nxK d xs : Int) := by rw [symL_cons]; rfl
theorem nums_at (q ms : List Int) : ∀ k n, n < k → 0 < ms.getD n 0 → ((numsP q ms k).map (·.1)).getD (plc ms n) 0 = q.getD n 0 + ms.getD n 0
  | k + 1, n, hn, h0 => by
    have hl : ((numsP q ms k).map (·.1)).length = plc ms k := by rw [List.length_map, ← numT_length ms k, ← numsP_snd q ms k, List.length_map]
    rw [numsP_succ, List.map_append]
    by_cases e : n = k
    · subst e
      rw [if_pos h0]
      simp only [List.getD_eq_getElem?_getD]
      rw [List.getElem?_append_right (by omega), hl, Nat.sub_self]
      rfl
    · have ih := nums_at q ms k n (by omega) h0
      have hlt : plc ms n < plc ms k := by
        have := plc_mono ms (j := n + 1) (k := k) (by omega)
        have h1 : plc ms (n + 1) = plc ms n + 1 := by rw [plc_succ, if_pos h0]
        omega
      simp only [List.getD_eq_getElem?_getD] at ih ⊢
      rw [List.getElem?_append_left (by omega)]
      exact ih
theorem gs_back {K : Int} {l q p : List Int} (h : Fr K l q p) (ll : l.length = 6) (lq : q.length = 16) (hms : ∀ n, n < 16 → (msL l).getD n 0 ≤ 0 → q.getD n 0 = 0) (tail : List Bool) :
    gsR (endBits (stE e0 (symsP K l q p)) ++ tail) p = some (K, l, q) := by
  obtain ⟨f1, -, -⟩ := fr_bits h
  obtain ⟨b1, b2⟩ := all_back f1 tail
  generalize endBits (stE e0 (symsP K l q p)) ++ tail = inp at b1 b2
  have e1 : ∃ R, symsP K l q p = headP K l p ++ R ∧ R = if K = 2 then [] else numsP q (msL l) 16 := ⟨_, rfl, rfl⟩
  obtain ⟨R, e1, eR⟩ := e1
  rw [e1, List.map_append, headP_snd] at b1 b2
  rw [List.map_append] at b2
  have hk : kindR inp = K := by
    have h1 : (symL inp (d0 inp) (hdT K ++ R.map (·.2))).getD 0 0 = ((headP K l p).map (·.1) ++ R.map (·.1)).getD 0 0 := by rw [b2]
    unfold hdT at h1
    rw [List.cons_append, symL_head] at h1
    unfold kindR
    rw [h1]
    rfl
  have hb := backErr_pre b1
  have hs : symL inp (d0 inp) (hdT K) = (headP K l p).map (·.1) := by
    have h1 := symL_pre inp (d0 inp) (hdT K) (R.map (·.2))
    rw [b2] at h1
    rw [h1]
    have h2 : (hdT K).length = ((headP K l p).map (·.1)).length := by rw [← headP_snd K l p, List.length_map, List.length_map]
    rw [h2, List.take_left]
  have hl : lvR inp p = l := by
    unfold lvR lvG
    rw [hk, hs]
    refine (tab_congr (g := fun b => l.getD b 0) fun b hb6 => ?_).trans (tab_self ll)
    have h1 : ((headP K l p).map (·.1)).getD (b + 1) 0 = (lvP K l p b).1 := by
      unfold headP
      rw [List.map_cons, List.map_map]
      simp only [List.getD_eq_getElem?_getD, List.getElem?_cons_succ, List.getElem?_map, List.getElem?_range hb6]
      rfl
    rw [h1]
    unfold lvP
    by_cases e : K = 1
    · rw [if_pos e, if_pos e]; show p.getD b 0 + (l.getD b 0 - p.getD b 0 + 8) - 8 = l.getD b 0; omega
    · rw [if_neg e, if_neg e]
  unfold gsR
  rw [hk, hl, if_pos hb]
  by_cases e : K = 2
  · rw [if_pos e, ← h.sid e]
  · rw [if_neg e]
    rw [if_neg e] at eR
    rw [eR, numsP_snd] at b1
    rw [eR, numsP_snd] at b2
    have hq : tab 16 (nmF ((headP K l p).map (·.1) ++ (numsP q (msL l) 16).map (·.1)) (msL l)) = q := by
      refine (tab_congr (g := fun n => q.getD n 0) fun n hn => ?_).trans (tab_self lq)
      unfold nmF
      by_cases h0 : 0 < (msL l).getD n 0
      · rw [if_pos h0]
        have h7 : ((headP K l p).map (·.1)).length = 7 := by simp [headP]
        have h2 := nums_at q (msL l) 16 n hn h0
        simp only [List.getD_eq_getElem?_getD] at h2 ⊢
        rw [List.getElem?_append_right (by omega), h7, Nat.add_sub_cancel_left, h2]
        omega
      · rw [if_neg h0]; exact (hms n hn (by omega)).symm
    rw [if_pos b1, b2, hq]
theorem bits_tail (l : List Bool) : ∃ tail, bitsIn (pack l) (8 * (pack l).length) = l ++ tail := by
  obtain ⟨m, hm⟩ : ∃ m, (l.length + 7) / 8 = m := ⟨_, rfl⟩
  have h1 : l.length ≤ 8 * m := by omega
  refine ⟨List.replicate (8 * m - l.length) false, ?_⟩
  have hlen : (l ++ List.replicate (8 * m - l.length) false).length = 8 * m := by rw [List.length_append, List.length_replicate]; omega
  have hp : pack l = pack (l ++ List.replicate (8 * m - l.length) false) := by
    unfold pack
    rw [hlen, hm, show (8 * m + 7) / 8 = m by omega]
    refine packF_congr fun i hi => ?_
    unfold bitF
    simp only [List.getD_eq_getElem?_getD]
    by_cases hl : i < l.length
    · rw [List.getElem?_append_left hl]
    · rw [List.getElem?_append_right (by omega), List.getElem?_eq_none (by omega)]
      rw [List.getElem?_replicate]
      split <;> rfl
  have h2 := bitsIn_pack (l ++ List.replicate (8 * m - l.length) false)
  rw [hlen, ← hp] at h2
  rw [pack_length, hm]
  exact h2
def wrB (K : Int) (l q p : List Int) : List Nat := pack (endBits (stE e0 (symsP K l q p)))
def inB (bs : List Nat) : List Bool := bitsIn bs (8 * bs.length)
def rdR (bs : List Nat) (p : List Int) : Option (Int × List Int × List Int) :=
  if bs.length ≤ 40 then
    match gsR (inB bs) p with
    | some (K, l, q) => if chkB K l q p = true ∧ wrB K l q p = bs then some (K, l, q) else none
    | none => none
  else none
theorem may_zero {q l : List Int} (h : mayB q l = true) {n : Nat} (hn : n < 16) (h0 : (msL l).getD n 0 ≤ 0) : q.getD n 0 = 0 := by
  unfold mayB at h
  rw [Bool.and_eq_true] at h
  have h1 := mayN_at 16 n hn h.2
  have h2 := Go.Proofs.YtgpdgegelipboaaGreatDoor.Lp.msL_bd l hn
  omega
theorem wrB_len {K : Int} {l q p : List Int} (h : Fr K l q p) : (wrB K l q p).length ≤ 40 ∧ 0 < (wrB K l q p).length := by
  obtain ⟨-, f2, -⟩ := fr_bits h
  unfold wrB
  rw [pack_length]
  have := endBits_length (stE e0 (symsP K l q p))
  omega
theorem rd_back {K : Int} {l q p : List Int} (h : Fr K l q p) (ll : l.length = 6) (lq : q.length = 16) : rdR (wrB K l q p) p = some (K, l, q) := by
  obtain ⟨tail, ht⟩ := bits_tail (endBits (stE e0 (symsP K l q p)))
  have hg := gs_back h ll lq (fun n hn h0 => may_zero h.may hn h0) tail
  have hg2 : gsR (inB (wrB K l q p)) p = some (K, l, q) := by unfold inB wrB; rw [ht]; exact hg
  unfold rdR
  rw [if_pos (wrB_len h).1, hg2]
  exact if_pos ⟨(chkB_iff K l q p).2 h, rfl⟩
theorem rd_one {bs : List Nat} {p : List Int} {K : Int} {l q : List Int} (h : rdR bs p = some (K, l, q)) : chkB K l q p = true ∧ wrB K l q p = bs ∧ bs.length ≤ 40 := by
  unfold rdR at h
  split at h
  · rename_i hl
    split at h
    · rename_i K' l' q' e
      split at h
      · rename_i hc
        injection h with h
        injection h with h1 h2
        injection h2 with h2 h3
        subst h1 h2 h3
        exact ⟨hc.1, hc.2, hl⟩
      · cases h
    · cases h
  · cases h
theorem gsR_len {inp : List Bool} {p : List Int} {K : Int} {l q : List Int} (h : gsR inp p = some (K, l, q)) : l.length = 6 ∧ q.length = 16 := by
  unfold gsR at h
  split at h
  · split at h
    · injection h with h
      injection h with h1 h2
      injection h2 with h2 h3
      subst h2 h3
      exact ⟨tab_length _ _, zr_length _⟩
    · split at h
      · injection h with h
        injection h with h1 h2
        injection h2 with h2 h3
        subst h2 h3
        exact ⟨tab_length _ _, tab_length _ _⟩
      · cases h
  · cases h
end Go.Proofs.YtgpdgegelipboaaGreatDoor.Yr
namespace Go.Proofs.YtgpdgegelipboaaGreatDoor.Yr
open Go.RowKit Cd
open Lp (tab tab_getD chkL msL mayB)
theorem rdR_gs {bs : List Nat} {p : List Int} {K : Int} {l q : List Int} (h : rdR bs p = some (K, l, q)) : gsR (inB bs) p = some (K, l, q) := by
  unfold rdR at h
  split at h
  · split at h
    · rename_i K' l' q' e
      split at h
      · rw [e]; exact h
      · cases h
    · cases h
  · cases h
end Go.Proofs.YtgpdgegelipboaaGreatDoor.Yr
namespace Go.Proofs.YtgpdgegelipboaaGreatDoor.Lp
open Go.RowKit Fx Fq Tb
open Yr (nearN nearB chkB Fr nearN_succ chkB_iff)
theorem arrFr : Arr 26 23 := by
  have h : (Tryz.prog.underlying 26).any TypeDesc.isRow = true := by kernel_rfl
  refine ⟨?_, by kernel_rfl⟩
  cases hq : Tryz.prog.underlying 26 with
  | none => rw [hq] at h; cases h
  | some d => exact ⟨d, rfl, by rw [hq] at h; exact h⟩
def frL (K : Int) (l q : List Int) : List Int := K :: (l ++ q)
structure FrS (F : List Int) (K : Int) (l q : List Int) : Prop where
  len : F.length = 23
  ll : l.length = 6
  lq : q.length = 16
  k0 : F.getD 0 0 = K
  lev : (F.drop 1).take 6 = l
  num : (F.drop 7).take 16 = q
theorem frS_of (F : List Int) (h : F.length = 23) : FrS F (F.getD 0 0) ((F.drop 1).take 6) ((F.drop 7).take 16) :=
  ⟨h, by rw [List.length_take, List.length_drop, h]; rfl, by rw [List.length_take, List.length_drop, h]; rfl, rfl, rfl, rfl⟩
section
variable {w0 w : World} {L : List (Nat × TypeId × List Int)} {g n o : Nat} {T T' : TypeId} {xs ys : List Int}
theorem sub_get (hy : (xs.drop o).take n = ys) {j : Nat} {x : Int} (hx : ys[j]? = some x) : xs[o + j]? = some x := by
  rw [← hy, List.getElem?_take] at hx
  split at hx
  · rwa [List.getElem?_drop] at hx
  · cases hx
theorem run_load_sub (ha : Arr T' n) (hm : Mem w0 L w) (hin : (g, T, xs) ∈ L) (hy : (xs.drop o).take n = ys) (hl : ys.length = n) : (loadVar T' ⟨g, o, none⟩).run Tryz.prog w = .ok (.agg (icells ys)) w := by
  obtain ⟨d, h1, h2⟩ := ha.1
  refine run_loadVar_mid w g o T' (ys.map fun x => Value.int .i64 x) d (fun j v hv => ?_) h1 h2 (by rw [ha.size, List.length_map, hl])
  rw [List.getElem?_map] at hv
  cases hx : ys[j]? with
  | none => rw [hx] at hv; cases hv
  | some x =>
    rw [hx] at hv
    injection hv with hv
    subst hv
    have h3 := sub_get hy hx
    have h4 := (List.getElem?_eq_some_iff.1 h3).1
    have h5 := hm.cell hin (k := o + j) h4
    rw [h5, List.getD_eq_getElem?_getD, h3]
    rfl
end
section
variable {ops : Array Oper} {rest : List Oper} {o : Oper} {a : Act} {w w0 : World} {Q : Exit → Act → World → Prop} {L : List (Nat × TypeId × List Int)}
theorem wl_loadS (hgd : Region.wanted o (yielded ops a.tmps) = true) (T' : TypeId) (x : Operand) (ho : o.op = .load T' x) {g f n : Nat} (hx : a.eval x = .pointer (some ⟨g, f, none⟩)) (ha : Arr T' n) {T : TypeId} {xs ys : List Int} (hm : Hid (Mem w0 L w))
    (hin : (g, T, xs) ∈ L) (hy : Hid ((xs.drop f).take n = ys)) (hl : Hid (ys.length = n)) (h : wpList Tryz.prog ops Q rest (a.put o.dst (.agg (icells ys))) w) : wpList Tryz.prog ops Q (o :: rest) a w :=
  wl_step hgd fun K hK => by
    have := hK _ _ h
    unfold Oper.wp execOp
    simp only [ho, hx, Instr.loadAt, Instr.sureAddr, Sem.run_bind, Sem.run_pure, Result.andThen_ok, run_load_sub ha hm.out hin hy.out hl.out]
    exact this
theorem wl_skip (hgd : Region.wanted o (yielded ops a.tmps) = false) (h : wpList Tryz.prog ops Q rest (a.put o.dst undef) w) : wpList Tryz.prog ops Q (o :: rest) a w :=
  wpList_step fun K hK => by rw [if_neg (by rw [hgd]; exact Bool.false_ne_true)]; exact hK _ _ h
theorem wl_cellF (hgd : Region.wanted o (yielded ops a.tmps) = true) (x : Operand) (ho : o.op = .load 3 x) {g k : Nat}
    (hx : a.eval x = .pointer (some ⟨g, k, none⟩)) (hm : Hid (Mem w0 L w)) {T : TypeId} {xs : List Int} (hin : (g, T, xs) ∈ L) {v : Int} (hv : Hid (k < xs.length ∧ xs.getD k 0 = v))
    (h : wpList Tryz.prog ops Q rest (a.put o.dst (.int .i64 v)) w) : wpList Tryz.prog ops Q (o :: rest) a w :=
  wl_step hgd fun K hK => by
    have := hK _ _ h
    have hg : (isAgg 3).run Tryz.prog w = .ok false w := by kernel_rfl
    have hc := hm.out.cell hin hv.out.1
    rw [hv.out.2] at hc
    unfold Oper.wp execOp
    simp only [ho, hx, Instr.loadAt, Instr.sureAddr, Sem.run_bind, Sem.run_pure, Result.andThen_ok, loadVar, hg, run_load, hc, Bool.false_eq_true, if_false]
    exact this
end
theorem subF {xs ys : List Int} {f n : Nat} (h : Hid ((xs.drop f).take n = ys) := by with_reducible assumption) : Hid ((xs.drop f).take n = ys) := h
theorem celF {xs : List Int} {k : Nat} {v : Int} (h : Hid (k < xs.length ∧ xs.getD k 0 = v) := by with_reducible assumption) : Hid (k < xs.length ∧ xs.getD k 0 = v) := h
theorem near_mono {l p : List Int} : ∀ {k n : Nat}, k ≤ n → nearN l p k = false → nearN l p n = false
  | k, 0, h, h0 => by rw [Nat.le_zero.1 h] at h0; exact h0
  | k, n + 1, h, h0 => by
    by_cases e : k = n + 1
    · rw [← e]; exact h0
    · rw [nearN_succ, near_mono (k := k) (n := n) (by omega) h0]; rfl
set_option maxHeartbeats 4000000 in
theorem rnear_any (l p : List Int) (w : World) (ll : l.length = 6) (lp : p.length = 6) :
    Calls Tryz.prog 14 #[.agg (icells l), .agg (icells p)] w (ValQ w (.bool (nearB l p))) := by
  have LL := Lib.hid ll
  have LP := Lib.hid lp
  have HM := Lib.hid (Mem.start w)
  cases hl : chkL l with
  | false =>
    have HC := Lib.hid (fun u => rbcheck_any l false 1 u ll hl rfl)
    rw [show nearB l p = false by unfold nearB; rw [hl]; rfl]
    clear ll lp hl
    go_enter Tryz.func14, Tryz.ntmps14
    go_wp2_with (first | ((first | refine wl_box rfl _ _ rfl rfl HM ?_ | refine wl_alloc rfl _ rfl (by exact arrOf) HM ?_); first | (have q:dL HM = 0:=rfl;clear q HM;intro g1 u1 HM) | (have q:dL HM = 1:=rfl;clear q HM;intro g2 u2 HM) | (have q:dL HM = 2:=rfl;clear q HM;intro g3 u3 HM) | (have q:dL HM = 3:=rfl;clear q HM;intro g4 u4 HM)) | (refine wl_load rfl _ _ rfl rfl (by exact arrOf) HM (by exact memOf) (by exact lenOf) ?_) | (refine wl_storeM rfl _ _ _ rfl rfl rfl (by exact arrOf) HM (by exact idxOf) (by exact lenOf) (by exact lenOf) ?_; clear HM; intro us HM; dsimp only [List.set] at HM) | (refine wl_zero rfl _ rfl (by exact arrOf) (by kernel_rfl) ?_))
    refine (HC.out _).mono ?_
    rintro e w2 ⟨rfl, h1⟩
    have HM2 := Lib.hid (HM.out.below h1)
    clear h1 HM HC
    have HM := HM2
    clear HM2
    go_wp2_with (first | ((first | refine wl_box rfl _ _ rfl rfl HM ?_ | refine wl_alloc rfl _ rfl (by exact arrOf) HM ?_); first | (have q:dL HM = 0:=rfl;clear q HM;intro g1 u1 HM) | (have q:dL HM = 1:=rfl;clear q HM;intro g2 u2 HM) | (have q:dL HM = 2:=rfl;clear q HM;intro g3 u3 HM) | (have q:dL HM = 3:=rfl;clear q HM;intro g4 u4 HM)) | (refine wl_load rfl _ _ rfl rfl (by exact arrOf) HM (by exact memOf) (by exact lenOf) ?_) | (refine wl_storeM rfl _ _ _ rfl rfl rfl (by exact arrOf) HM (by exact idxOf) (by exact lenOf) (by exact lenOf) ?_; clear HM; intro us HM; dsimp only [List.set] at HM) | (refine wl_zero rfl _ rfl (by exact arrOf) (by kernel_rfl) ?_))
    go_ret
    exact ⟨rfl, HM.out.1⟩
  | true =>
    have HC := Lib.hid (fun u => rbcheck_any l true 0 u ll hl rfl)
    cases hp : chkL p with
    | false =>
      have HD := Lib.hid (fun u => rbcheck_any p false 1 u lp hp rfl)
      rw [show nearB l p = false by unfold nearB; rw [hl, hp]; rfl]
      clear ll lp hl hp
      go_enter Tryz.func14, Tryz.ntmps14
      go_wp2_with (first | ((first | refine wl_box rfl _ _ rfl rfl HM ?_ | refine wl_alloc rfl _ rfl (by exact arrOf) HM ?_); first | (have q:dL HM = 0:=rfl;clear q HM;intro g1 u1 HM) | (have q:dL HM = 1:=rfl;clear q HM;intro g2 u2 HM) | (have q:dL HM = 2:=rfl;clear q HM;intro g3 u3 HM) | (have q:dL HM = 3:=rfl;clear q HM;intro g4 u4 HM)) | (refine wl_load rfl _ _ rfl rfl (by exact arrOf) HM (by exact memOf) (by exact lenOf) ?_) | (refine wl_storeM rfl _ _ _ rfl rfl rfl (by exact arrOf) HM (by exact idxOf) (by exact lenOf) (by exact lenOf) ?_; clear HM; intro us HM; dsimp only [List.set] at HM) | (refine wl_zero rfl _ rfl (by exact arrOf) (by kernel_rfl) ?_))
      refine (HC.out _).mono ?_
      rintro e w2 ⟨rfl, h1⟩
      have HM2 := Lib.hid (HM.out.below h1)
      clear h1 HM HC
      have HM := HM2
      clear HM2
      go_wp2_with (first | ((first | refine wl_box rfl _ _ rfl rfl HM ?_ | refine wl_alloc rfl _ rfl (by exact arrOf) HM ?_); first | (have q:dL HM = 0:=rfl;clear q HM;intro g1 u1 HM) | (have q:dL HM = 1:=rfl;clear q HM;intro g2 u2 HM) | (have q:dL HM = 2:=rfl;clear q HM;intro g3 u3 HM) | (have q:dL HM = 3:=rfl;clear q HM;intro g4 u4 HM)) | (refine wl_load rfl _ _ rfl rfl (by exact arrOf) HM (by exact memOf) (by exact lenOf) ?_) | (refine wl_storeM rfl _ _ _ rfl rfl rfl (by exact arrOf) HM (by exact idxOf) (by exact lenOf) (by exact lenOf) ?_; clear HM; intro us HM; dsimp only [List.set] at HM) | (refine wl_zero rfl _ rfl (by exact arrOf) (by kernel_rfl) ?_))
      refine (HD.out _).mono ?_
      rintro e w2 ⟨rfl, h1⟩
      have HM2 := Lib.hid (HM.out.below h1)
      clear h1 HM HD
      have HM := HM2
      clear HM2
      go_wp2_with (first | ((first | refine wl_box rfl _ _ rfl rfl HM ?_ | refine wl_alloc rfl _ rfl (by exact arrOf) HM ?_); first | (have q:dL HM = 0:=rfl;clear q HM;intro g1 u1 HM) | (have q:dL HM = 1:=rfl;clear q HM;intro g2 u2 HM) | (have q:dL HM = 2:=rfl;clear q HM;intro g3 u3 HM) | (have q:dL HM = 3:=rfl;clear q HM;intro g4 u4 HM)) | (refine wl_load rfl _ _ rfl rfl (by exact arrOf) HM (by exact memOf) (by exact lenOf) ?_) | (refine wl_storeM rfl _ _ _ rfl rfl rfl (by exact arrOf) HM (by exact idxOf) (by exact lenOf) (by exact lenOf) ?_; clear HM; intro us HM; dsimp only [List.set] at HM) | (refine wl_zero rfl _ rfl (by exact arrOf) (by kernel_rfl) ?_))
      go_ret
      exact ⟨rfl, HM.out.1⟩
    | true =>
      have HD := Lib.hid (fun u => rbcheck_any p true 0 u lp hp rfl)
      have HV := Lib.hid (show nearB l p = nearN l p 6 by unfold nearB; rw [hl, hp]; rfl)
      have H1 := Lib.hid (fun k => inR_bd hl (by omega) (by omega) k)
      have H2 := Lib.hid (fun k => inR_bd hp (by omega) (by omega) k)
      generalize nearB l p = V at HV
      clear ll lp hl hp
      go_enter Tryz.func14, Tryz.ntmps14
      go_wp2_with (first | ((first | refine wl_box rfl _ _ rfl rfl HM ?_ | refine wl_alloc rfl _ rfl (by exact arrOf) HM ?_); first | (have q:dL HM = 0:=rfl;clear q HM;intro g1 u1 HM) | (have q:dL HM = 1:=rfl;clear q HM;intro g2 u2 HM) | (have q:dL HM = 2:=rfl;clear q HM;intro g3 u3 HM) | (have q:dL HM = 3:=rfl;clear q HM;intro g4 u4 HM)) | (refine wl_load rfl _ _ rfl rfl (by exact arrOf) HM (by exact memOf) (by exact lenOf) ?_) | (refine wl_storeM rfl _ _ _ rfl rfl rfl (by exact arrOf) HM (by exact idxOf) (by exact lenOf) (by exact lenOf) ?_; clear HM; intro us HM; dsimp only [List.set] at HM) | (refine wl_zero rfl _ rfl (by exact arrOf) (by kernel_rfl) ?_))
      refine (HC.out _).mono ?_
      rintro e w2 ⟨rfl, h1⟩
      have HM2 := Lib.hid (HM.out.below h1)
      clear h1 HM HC
      have HM := HM2
      clear HM2
      go_wp2_with (first | ((first | refine wl_box rfl _ _ rfl rfl HM ?_ | refine wl_alloc rfl _ rfl (by exact arrOf) HM ?_); first | (have q:dL HM = 0:=rfl;clear q HM;intro g1 u1 HM) | (have q:dL HM = 1:=rfl;clear q HM;intro g2 u2 HM) | (have q:dL HM = 2:=rfl;clear q HM;intro g3 u3 HM) | (have q:dL HM = 3:=rfl;clear q HM;intro g4 u4 HM)) | (refine wl_load rfl _ _ rfl rfl (by exact arrOf) HM (by exact memOf) (by exact lenOf) ?_) | (refine wl_storeM rfl _ _ _ rfl rfl rfl (by exact arrOf) HM (by exact idxOf) (by exact lenOf) (by exact lenOf) ?_; clear HM; intro us HM; dsimp only [List.set] at HM) | (refine wl_zero rfl _ rfl (by exact arrOf) (by kernel_rfl) ?_))
      refine (HD.out _).mono ?_
      rintro e w2 ⟨rfl, h1⟩
      have HM2 := Lib.hid (HM.out.below h1)
      clear h1 HM HD
      have HM := HM2
      clear HM2
      go_wp2_with (first | ((first | refine wl_box rfl _ _ rfl rfl HM ?_ | refine wl_alloc rfl _ rfl (by exact arrOf) HM ?_); first | (have q:dL HM = 0:=rfl;clear q HM;intro g1 u1 HM) | (have q:dL HM = 1:=rfl;clear q HM;intro g2 u2 HM) | (have q:dL HM = 2:=rfl;clear q HM;intro g3 u3 HM) | (have q:dL HM = 3:=rfl;clear q HM;intro g4 u4 HM)) | (refine wl_load rfl _ _ rfl rfl (by exact arrOf) HM (by exact memOf) (by exact lenOf) ?_) | (refine wl_storeM rfl _ _ _ rfl rfl rfl (by exact arrOf) HM (by exact idxOf) (by exact lenOf) (by exact lenOf) ?_; clear HM; intro us HM; dsimp only [List.set] at HM) | (refine wl_zero rfl _ rfl (by exact arrOf) (by kernel_rfl) ?_))
      go_loopw [14] (fun vi wr => ∃ k : Nat, k ≤ 6 ∧ vi = .int .i64 (k : Int) ∧ nearN l p k = true ∧ Hid (Mem w [(g2, 23, p), (g1, 23, l)] wr)) (fun vi _ => 6 - (intOf vi).toNat)
      case atStart => exact ⟨0, by omega, rfl, rfl, HM⟩
      case round =>
        clear HM
        obtain ⟨k, hk, rfl, hn, HM⟩ := hrel
        by_cases hlt : k < 6
        · have k6 : (k : Int) < 6 := by omega
          have HS := Lib.hid (nearN_succ l p k)
          have HN := Lib.hid (fun h => near_mono (l := l) (p := p) (k := k + 1) (n := 6) (by omega) h)
          rw [hn, Bool.true_and] at HS
          have c1 := HM.out.cell (.tail _ (.head _)) (k := k) (by rw [LL.out]; exact hlt)
          have c2 := HM.out.cell (.head _) (k := k) (by rw [LP.out]; exact hlt)
          obtain ⟨x1, x2⟩ := H1.out k
          obtain ⟨y1, y2⟩ := H2.out k
          generalize l.getD k 0 = x at c1 HS x1 x2
          generalize p.getD k 0 = y at c2 HS y1 y2
          have w1 : IntKind.i64.wrap (y - 8) = y - 8 := i64_w (by omega) (by omega)
          have w2 : IntKind.i64.wrap (y + 7) = y + 7 := i64_w (by omega) (by omega)
          clear hn x1 x2 y1 y2
          by_cases h1 : y - 8 ≤ x
          · have d1 : decide (x < y - 8) = false := decide_eq_false (by omega)
            by_cases h2 : x ≤ y + 7
            · have d2 : decide (y + 7 < x) = false := decide_eq_false (by omega)
              rw [decide_eq_true h1, decide_eq_true h2] at HS
              clear h1 h2 HN
              go_wp2_with fail
              go_quiet (fail)
              have HM2 := Lib.hid (HM.out.drewN nq)
              clear HM c1 c2 w1 w2 d1 d2
              have HM := HM2
              clear HM2
              generalize World.drewN _ _ = wd at HM ⊢
              go_wp2_with fail
              go_roundw
              case rel => exact ⟨k + 1, by omega, by go_num, by rw [HS.out]; rfl, HM⟩
              case measure => simp [intOf]; omega
            · have d2 : decide (y + 7 < x) = true := decide_eq_true (by omega)
              rw [decide_eq_true h1, decide_eq_false h2] at HS
              have HF := Lib.hid (HN.out HS.out)
              rw [← HV.out] at HF
              have e := HF.out
              subst e
              clear h1 h2 HN HS
              go_wp2_with fail
              go_quiet (fail)
              have HM2 := Lib.hid (HM.out.drewN nq)
              clear HM c1 c2 w1 w2 d1 d2
              have HM := HM2
              clear HM2
              generalize World.drewN _ _ = wd at HM ⊢
              go_wp2_with fail
              go_ret
              exact ⟨rfl, HM.out.1⟩
          · have d1 : decide (x < y - 8) = true := decide_eq_true (by omega)
            rw [decide_eq_false h1, Bool.false_and] at HS
            have HF := Lib.hid (HN.out HS.out)
            rw [← HV.out] at HF
            have e := HF.out
            subst e
            clear h1 HN HS
            go_wp2_with fail
            go_quiet (fail)
            have HM2 := Lib.hid (HM.out.drewN nq)
            clear HM c1 c2 w1 w2 d1
            have HM := HM2
            clear HM2
            generalize World.drewN _ _ = wd at HM ⊢
            go_wp2_with fail
            go_ret
            exact ⟨rfl, HM.out.1⟩
        · obtain rfl : k = 6 := by omega
          rw [← HV.out] at hn
          subst hn
          go_wp2_with fail
          go_ret
          exact ⟨rfl, HM.out.1⟩
end Go.Proofs.YtgpdgegelipboaaGreatDoor.Lp
namespace Go.Proofs.YtgpdgegelipboaaGreatDoor.Fq
open Go.RowKit
open Tb (iV own_rdI own_snocI info_partsT info_intT)
theorem getD_takeF {xs : List Int} {n k : Nat} (h : k < n) : (xs.take n).getD k 0 = xs.getD k 0 := by
  simp only [List.getD_eq_getElem?_getD, List.getElem?_take, h, if_true]
theorem RdI.far {w : World} {A : Option Addr} {n : Nat} {zs : List Int} (h : RdI w A n zs) {p : Addr} (hA : ∀ ad, A = some ad → 0 < n → ad.block ≠ p.block) (v : Value) : RdI (w.setCell p v) A n zs :=
  ⟨h.1, fun hn => by
    obtain ⟨ad, e, hc⟩ := h.2 hn
    refine ⟨ad, e, fun j x hx => ?_⟩
    exact (World.cell?_setCell_far w p (ad.add j) v (by rw [block_of_add]; exact fun e2 => hA ad e hn e2.symm)).trans (hc j x hx)⟩
def TabOk (w : World) (xs : List Int) (e : Ending) (w' : World) : Prop :=
  ∃ ad n c, e = .returned (.tuple #[.agg #[.slice (some ad) n c], .int .i64 0]) ∧ w.heap.size ≤ ad.block ∧ RdI w' (some ad) n xs ∧ Below w.heap.size w w'
def TabV (w : World) (xs : List Int) (e : Ending) (w' : World) : Prop :=
  ∃ ad n c, e = .returned (.agg #[.slice (some ad) n c]) ∧ w.heap.size ≤ ad.block ∧ RdI w' (some ad) n xs ∧ Below w.heap.size w w'
theorem acc_take1 (zs : List Int) : (acc zs).take 1 = [0] := by
  unfold acc
  rw [← List.map_take, List.take_range, Nat.min_eq_left (by omega)]
  rfl
theorem acc_takeS (zs : List Int) (k : Nat) (h : k < zs.length) : (acc zs).take (k + 1 + 1) = (acc zs).take (k + 1) ++ [(acc zs).getD k 0 + zs.getD k 0] := by
  rw [take_snocI _ _ (by rw [acc_length]; omega), acc_getD _ _ (by omega), acc_getD _ _ (by omega), tot_snoc _ _ h]
theorem own_one (w : World) (x : Int) (B : Nat) (hB : B ≤ w.heap.size) : (w.alloc (.cells #[.int .i64 x] 3)).ownsRow B 3 1 (.slice (some ⟨w.heap.size, 0, none⟩) 1 1) 1 ([x].map iV) :=
  ⟨rfl, .inr ⟨w.heap.size, 1, #[.int .i64 x], rfl, hB, Blk.new w _ _, by omega, by decide, rfl, rfl⟩⟩
structure NwS (w : World) (B k : Nat) (zs : List Int) (v : Value) (u : World) : Prop where
  row : u.ownsRow B 3 1 v (k + 1) (((acc zs).take (k + 1)).map iV)
  box : Blk u w.heap.size 40 #[.slice none 0 0]
  hB : w.heap.size < B
  hu : B ≤ u.heap.size
  blw : Below w.heap.size w u
theorem NwS.step {w u u' : World} {B k : Nat} {zs : List Int} {v v' : Value} {o : Obj} {y : Int} (h : NwS w B k zs v u) (hy : (acc zs).take (k + 1 + 1) = (acc zs).take (k + 1) ++ [y])
    (hown : u'.ownsRow B 3 1 v' (k + 1 + 1) (((acc zs).take (k + 1)).map iV ++ [.int .i64 y])) (hg : (u.alloc o).grownBy u' v.ownBlock) : NwS w B (k + 1) zs v' u' := by
  have hne : v.ownBlock ≠ some w.heap.size := fun e => by have := (h.row.lt _ e).1; have := h.hB; omega
  have hs := hg.size
  simp at hs
  refine ⟨by rw [hy, List.map_append]; exact hown, (h.box.alloc o).row hg hne, h.hB, by have := h.hu; omega, ?_⟩
  exact (h.blw.alloc h.blw.size o).grown hg (h.blw.alloc h.blw.size o).size (fun j hj => by have := (h.row.lt j hj).1; have := h.hB; omega)
set_option maxHeartbeats 4000000 in
theorem rnew_ok (A : Option Addr) (n c : Nat) (zs : List Int) (w : World) (hr : Hid (RdI w A n zs)) (hok : okN zs = true) :
    Calls Tryz.prog 69 #[.slice A n c] w (TabOk w (acc zs)) := by
  obtain ⟨i0, hi0, hz0, hz1, hz2⟩ := info_partsT info_intT
  have hk := hok
  unfold okN at hk
  obtain ⟨h1, h2, h3, -⟩ := of_decide_eq_true hk
  have hl := hr.out.1
  rw [hl] at h1 h2
  have HL := Lib.hid hl
  have HX := Lib.hid h3
  have HF := Lib.hid (okF_acc hok)
  have d0 : ((n : Int) == 0) = false := by simp; omega
  have d1 : ¬ 256 < (n : Int) := by omega
  clear hk h3 hl hok
  go_enter Tryz.func69, Tryz.ntmps69
  go_wp2_with fail
  have HB := Lib.hid (show NwS w (w.heap.size + 1) 0 zs (.slice (some ⟨w.heap.size + 1, 0, none⟩) 1 1) ((w.alloc (.cells #[.slice none 0 0] 40)).alloc (.cells #[.int .i64 0] 3)) from by
    have e : (w.alloc (.cells #[.slice none 0 0] 40)).heap.size = w.heap.size + 1 := by simp
    refine ⟨?_, (Blk.new w _ _).alloc _, by omega, by simp, ((Below.refl w.heap.size w).alloc (Nat.le_refl _) _).alloc (by rw [e]; omega) _⟩
    rw [acc_take1, ← e]
    exact own_one _ 0 _ (Nat.le_refl _))
  generalize (w.alloc (.cells #[.slice none 0 0] 40)).alloc (.cells #[.int .i64 0] 3) = w0 at HB ⊢
  obtain ⟨B, hB⟩ : ∃ B, B = w.heap.size + 1 := ⟨_, rfl⟩
  rw [← hB] at HB ⊢
  clear hB
  go_loopw [4, 6, 19] (fun v4 _ vi wr => ∃ k : Nat, vi = .int .i64 (k : Int) ∧ k ≤ n ∧ Hid (NwS w B k zs v4 wr)) (fun _ _ vi _ => n - (intOf vi).toNat)
  case atStart => exact ⟨0, rfl, by omega, HB⟩
  case round =>
    obtain ⟨k, rfl, hk, HZ⟩ := hrel
    clear HB
    by_cases hlt : k < n
    · obtain ⟨ad, rfl, -, x0⟩ := (hr.out.below HZ.out.blw).at_ hlt
      obtain ⟨A4, c4, rfl, h4⟩ := own_rdI HZ.out.row
      obtain ⟨ad4, rfl, -, x4⟩ := h4.at_ (k := k) (by omega)
      have HY := Lib.hid (acc_takeS zs k (by rw [HL.out]; exact hlt))
      have hb1 := HX.out _ (mem_getD (l := zs) (k := k) (by rw [HL.out]; exact hlt))
      have hb2 := okF_bd HF.out (i := k) (by rw [acc_length, HL.out]; omega)
      rw [show ((acc zs).take (k + 1)).getD k 0 = (acc zs).getD k 0 from getD_takeF (by omega)] at x4
      generalize (acc zs).getD k 0 = a at x4 HY hb2
      generalize zs.getD k 0 = x at x0 HY hb1
      obtain ⟨b1, b2⟩ := hb1
      obtain ⟨b3, b4⟩ := hb2
      have d2 : ¬ x < 1 := by omega
      have d3 : ¬ 16384 < x := by omega
      obtain ⟨m, hm⟩ : ∃ m, m = k + 1 := ⟨_, rfl⟩
      have e1 : (m : Int) - 1 = (k : Int) := by omega
      have HM := Lib.hid hm
      have l2 : k < m := by omega
      have HO := Lib.hid HZ.out.row
      rw [← hm] at HO ⊢
      clear h4 hm
      go_wp2_with (at_builtin; refine wpList_append_own_at _ rfl (.tmp 30) (.tmp 39) 33 rfl B 3 i0 _ 1 8 Tryz.underlying33 hi0 hz0 hz1 hz2 rfl (by omega) _ m _ rfl (HO.out.alloc _) ⟨wr.heap.size, 0, none⟩ 1 1 [.int .i64 (a + x)] rfl rfl (cell_one_new _ _ _) (by intro u hu; simp at hu; subst hu; rfl) (by unfold maxLen; omega) (by omega) (by have := HZ.out.hu; simp; omega) ?_; intro v1 w4 hown1 hg1 _ _; have HS4 := Lib.hid (show NwS w B (k + 1) zs v1 w4 from HZ.out.step HY.out (by rw [← HM.out]; exact hown1) hg1); clear hown1 hg1)
      go_roundw
      case rel => exact ⟨k + 1, by go_num, by omega, HS4⟩
      case measure => simp [intOf]; omega
    · obtain rfl : k = n := by omega
      obtain ⟨A4, c4, rfl, h4⟩ := own_rdI HZ.out.row
      obtain ⟨ad4, rfl, -, x4⟩ := h4.at_ (k := k) (by omega)
      have hb2 := okF_bd HF.out (i := k) (by rw [acc_length, HL.out]; omega)
      rw [show ((acc zs).take (k + 1)).getD k 0 = (acc zs).getD k 0 from getD_takeF (by omega)] at x4
      rw [List.take_of_length_le (by rw [acc_length, HL.out]; omega)] at h4
      generalize (acc zs).getD k 0 = a at x4 hb2
      obtain ⟨b3, b4⟩ := hb2
      obtain ⟨m, hm⟩ : ∃ m, m = k + 1 := ⟨_, rfl⟩
      have e1 : (m : Int) - 1 = (k : Int) := by omega
      have l2 : k < m := by omega
      have d3 : ¬ 16384 < a := by omega
      rw [← hm] at h4 ⊢
      have H4 := Lib.hid h4
      have HM := Lib.hid hm
      have c0 := HZ.out.box.cell 0
      have f0 := HZ.out.box.frozen 0
      simp at c0
      have HK := Lib.hid HZ.out.box
      clear h4 hm
      go_wp2
      refine bodyPost_ret (v := .tuple #[.agg #[.slice (some ad4) m c4], .int .i64 0]) (by simp [results, Tryz.results69, go_sem, c0]) rfl ⟨_, m, c4, rfl, ?_, ?_, HZ.out.blw.setCell (Nat.le_refl _) _⟩
      · have := (HZ.out.row.lt ad4.block rfl).1
        have := HZ.out.hB
        omega
      have hne : ad4.block ≠ w.heap.size := fun e => by
        have := (HZ.out.row.lt ad4.block rfl).1
        have := HZ.out.hB
        omega
      exact H4.out.far (fun ad e _ => by injection e with e; subst e; exact hne) _
end Go.Proofs.YtgpdgegelipboaaGreatDoor.Fq
namespace Go.Proofs.YtgpdgegelipboaaGreatDoor.Fq
open Go.RowKit
open Tb (iV own_rdI own_snocI info_partsT info_intT)
structure RwS (w : World) (b B k : Nat) (xs : List Int) (v : Value) (u : World) : Prop where
  row : u.ownsRow B 3 1 v k (xs.map iV)
  box : Blk u b 40 #[.slice none 0 0]
  hB : b < B
  hb : w.heap.size ≤ b
  hu : B ≤ u.heap.size
  blw : Below w.heap.size w u
theorem RwS.step {w u u' : World} {b B k : Nat} {xs : List Int} {v v' : Value} {o : Obj} {y : Int} (h : RwS w b B k xs v u)
    (hown : u'.ownsRow B 3 1 v' (k + 1) (xs.map iV ++ [.int .i64 y])) (hg : (u.alloc o).grownBy u' v.ownBlock) : RwS w b B (k + 1) (xs ++ [y]) v' u' := by
  have hne : v.ownBlock ≠ some b := fun e => by have := (h.row.lt _ e).1; have := h.hB; omega
  have hs := hg.size
  simp at hs
  refine ⟨by rw [List.map_append]; exact hown, (h.box.alloc o).row hg hne, h.hB, h.hb, by have := h.hu; omega, ?_⟩
  exact (h.blw.alloc h.blw.size o).grown hg (h.blw.alloc h.blw.size o).size (fun j hj => by have := (h.row.lt j hj).1; have := h.hB; have := h.hb; omega)
theorem RwS.start (w : World) : RwS w w.heap.size (w.heap.size + 1) 0 [] (.slice none 0 0) (w.alloc (.cells #[.slice none 0 0] 40)) :=
  ⟨World.ownsRow_nil _ _ _ _, Blk.new w _ _, by omega, by omega, by simp, (Below.refl w.heap.size w).alloc (Nat.le_refl _) _⟩
theorem rep_snoc (k : Nat) : List.replicate k (1 : Int) ++ [1] = List.replicate (k + 1) 1 := by
  rw [← List.replicate_one (a := (1 : Int)), List.replicate_append_replicate]
set_option maxHeartbeats 4000000 in
theorem reven_ok (n : Nat) (w : World) (h1 : 1 ≤ n) (h2 : n ≤ 256) :
    Calls Tryz.prog 77 #[.int .i64 (n : Int)] w (TabOk w (acc (List.replicate n 1))) := by
  obtain ⟨i0, hi0, hz0, hz1, hz2⟩ := info_partsT info_intT
  have d0 : ¬ (n : Int) < 1 := by omega
  have d1 : ¬ 256 < (n : Int) := by omega
  have HS := Lib.hid (RwS.start w)
  go_enter Tryz.func77, Tryz.ntmps77
  go_wp2_with fail
  generalize w.alloc (.cells #[.slice none 0 0] 40) = w0 at HS ⊢
  obtain ⟨b, hb⟩ : ∃ b, b = w.heap.size := ⟨_, rfl⟩
  obtain ⟨B, hB⟩ : ∃ B, B = w.heap.size + 1 := ⟨_, rfl⟩
  rw [← hB, ← hb] at HS
  rw [← hb]
  have HB := Lib.hid hb
  clear hB hb
  go_loopw [4, 13] (fun v4 vi wr => ∃ k : Nat, vi = .int .i64 (k : Int) ∧ k ≤ n ∧ Hid (RwS w b B k (List.replicate k 1) v4 wr)) (fun _ vi _ => n - (intOf vi).toNat)
  case atStart => exact ⟨0, rfl, by omega, HS⟩
  case round =>
    obtain ⟨k, rfl, hk, HZ⟩ := hrel
    clear HS
    by_cases hlt : k < n
    · go_wp2_with (at_builtin; refine wpList_append_own_at _ rfl (.tmp 15) (.tmp 16) 33 rfl B 3 i0 _ 1 8 Tryz.underlying33 hi0 hz0 hz1 hz2 rfl (by omega) _ k _ rfl (HZ.out.row.alloc _) ⟨wr.heap.size, 0, none⟩ 1 1 [.int .i64 1] rfl rfl (cell_one_new _ _ _) (by intro u hu; simp at hu; subst hu; rfl) (by unfold maxLen; omega) (by omega) (by have := HZ.out.hu; simp; omega) ?_; intro v1 w4 hown1 hg1 _ _; have HS4 := Lib.hid (show RwS w b B (k + 1) (List.replicate (k + 1) 1) v1 w4 from by rw [← rep_snoc]; exact HZ.out.step hown1 hg1); clear hown1 hg1)
      go_roundw
      case rel => exact ⟨k + 1, by go_num, by omega, HS4⟩
      case measure => simp [intOf]; omega
    · obtain rfl : k = n := by omega
      obtain ⟨A4, c4, rfl, h4⟩ := own_rdI HZ.out.row
      have H4 := Lib.hid h4
      clear h4
      go_wp2_with fail
      refine (rnew_ok A4 k c4 _ wr H4 (okN_rep k h1 h2)).mono ?_
      rintro e w5 ⟨ad5, n5, c5, rfl, hge5, h5, hb5⟩
      have hblt := HZ.out.box.lt
      have HK := Lib.hid (HZ.out.box.below hb5 hblt)
      have HW := Lib.hid (HZ.out.blw.trans (hb5.mono HZ.out.blw.size))
      have H5 := Lib.hid h5
      have HG5 := Lib.hid (show b < ad5.block ∧ w.heap.size ≤ ad5.block from ⟨by omega, by have := HZ.out.blw.size; omega⟩)
      have c0 := HK.out.cell 0
      have f0 := HK.out.frozen 0
      simp at c0
      clear hb5 h5 hge5 hblt
      go_wp2
      refine bodyPost_ret (v := .tuple #[.agg #[.slice (some ad5) n5 c5], .int .i64 0]) (by simp [results, Tryz.results77, go_sem, c0]) rfl ⟨ad5, n5, c5, rfl, HG5.out.2, H5.out.far (fun ad e _ => by injection e with e; subst e; exact Nat.ne_of_gt HG5.out.1) _, HW.out.setCell (by rw [HB.out]; exact Nat.le_refl _) _⟩
def kindN : List Int := [6, 9, 1]
def chgN : List Int := [1, 1, 2, 3, 5, 9, 16, 30, 60, 30, 16, 9, 5, 3, 2, 1]
set_option maxHeartbeats 4000000 in
theorem rkinds_any (w : World) : Calls Tryz.prog 37 #[] w (TabV w (acc kindN)) := by
  have HK0 := Lib.hid (Blk.new w 40 #[.slice none 0 0])
  have HW0 := Lib.hid ((Below.refl w.heap.size w).alloc (Nat.le_refl _) (.cells #[.slice none 0 0] 40))
  go_enter Tryz.func37, Tryz.ntmps37
  go_wp2_with fail
  have hs0 : (w.alloc (.cells #[.slice none 0 0] 40)).heap.size = w.heap.size + 1 := by simp
  generalize w.alloc (.cells #[.slice none 0 0] 40) = w0 at HK0 HW0 hs0 ⊢
  try rw [← hs0]
  have HR1 := Lib.hid (show RdI (w0.alloc (.cells #[.int .i64 6, .int .i64 9, .int .i64 1] 3)) (some ⟨w0.heap.size, 0, none⟩) 3 kindN from RdI.of_blk (t := 3) (zs := kindN) (Blk.new w0 _ _) rfl)
  have HW1 := Lib.hid (HW0.out.alloc HW0.out.size (.cells #[.int .i64 6, .int .i64 9, .int .i64 1] 3))
  have HK1 := Lib.hid (HK0.out.alloc (.cells #[.int .i64 6, .int .i64 9, .int .i64 1] 3))
  generalize w0.alloc (.cells #[.int .i64 6, .int .i64 9, .int .i64 1] 3) = w1 at HR1 HW1 HK1 ⊢
  refine (rnew_ok _ 3 3 kindN w1 HR1 (by decide +kernel)).mono ?_
  rintro e w2 ⟨ad, n, c, rfl, hg, hr, hb⟩
  have HW2 := Lib.hid (HW1.out.trans (hb.mono HW1.out.size))
  have HK2 := Lib.hid (HK1.out.below hb HK1.out.lt)
  have HR2 := Lib.hid hr
  have hkl := HK1.out.lt
  have HG := Lib.hid (show w.heap.size < ad.block by omega)
  have hl := HK2.out.lt
  have c0 := HK2.out.cell 0
  have f0 := HK2.out.frozen 0
  simp at c0
  clear hr hb hg hkl
  go_wp2
  have c1 := ((HK2.out.set_ 0 (.slice (some ad) n c)).alloc (.cells #[.slice (some ad) n c] 40)).cell 0
  simp at c1
  refine bodyPost_ret (v := .agg #[.slice (some ad) n c]) (by simp [results, Tryz.results37, go_sem, c1]) rfl ⟨ad, n, c, rfl, Nat.le_of_lt HG.out, ?_, ?_⟩
  · exact (HR2.out.far (fun a e _ => by injection e with e; subst e; exact Nat.ne_of_gt HG.out) _).alloc _
  · exact (HW2.out.setCell (Nat.le_refl _) _).alloc (HW2.out.setCell (Nat.le_refl _) _).size _
set_option maxHeartbeats 4000000 in
theorem rchanges_any (w : World) : Calls Tryz.prog 43 #[] w (TabV w (acc chgN)) := by
  have HK0 := Lib.hid (Blk.new w 40 #[.slice none 0 0])
  have HW0 := Lib.hid ((Below.refl w.heap.size w).alloc (Nat.le_refl _) (.cells #[.slice none 0 0] 40))
  go_enter Tryz.func43, Tryz.ntmps43
  go_wp2_with fail
  have hs0 : (w.alloc (.cells #[.slice none 0 0] 40)).heap.size = w.heap.size + 1 := by simp
  generalize w.alloc (.cells #[.slice none 0 0] 40) = w0 at HK0 HW0 hs0 ⊢
  try rw [← hs0]
  have HR1 := Lib.hid (show RdI (w0.alloc (.cells #[.int .i64 1, .int .i64 1, .int .i64 2, .int .i64 3, .int .i64 5, .int .i64 9, .int .i64 16, .int .i64 30, .int .i64 60, .int .i64 30, .int .i64 16, .int .i64 9, .int .i64 5, .int .i64 3, .int .i64 2, .int .i64 1] 3)) (some ⟨w0.heap.size, 0, none⟩) 16 chgN from RdI.of_blk (t := 3) (zs := chgN) (Blk.new w0 _ _) rfl)
  have HW1 := Lib.hid (HW0.out.alloc HW0.out.size (.cells #[.int .i64 1, .int .i64 1, .int .i64 2, .int .i64 3, .int .i64 5, .int .i64 9, .int .i64 16, .int .i64 30, .int .i64 60, .int .i64 30, .int .i64 16, .int .i64 9, .int .i64 5, .int .i64 3, .int .i64 2, .int .i64 1] 3))
  have HK1 := Lib.hid (HK0.out.alloc (.cells #[.int .i64 1, .int .i64 1, .int .i64 2, .int .i64 3, .int .i64 5, .int .i64 9, .int .i64 16, .int .i64 30, .int .i64 60, .int .i64 30, .int .i64 16, .int .i64 9, .int .i64 5, .int .i64 3, .int .i64 2, .int .i64 1] 3))
  generalize w0.alloc (.cells #[.int .i64 1, .int .i64 1, .int .i64 2, .int .i64 3, .int .i64 5, .int .i64 9, .int .i64 16, .int .i64 30, .int .i64 60, .int .i64 30, .int .i64 16, .int .i64 9, .int .i64 5, .int .i64 3, .int .i64 2, .int .i64 1] 3) = w1 at HR1 HW1 HK1 ⊢
  refine (rnew_ok _ 16 16 chgN w1 HR1 (by decide +kernel)).mono ?_
  rintro e w2 ⟨ad, n, c, rfl, hg, hr, hb⟩
  have HW2 := Lib.hid (HW1.out.trans (hb.mono HW1.out.size))
  have HK2 := Lib.hid (HK1.out.below hb HK1.out.lt)
  have HR2 := Lib.hid hr
  have hkl := HK1.out.lt
  have HG := Lib.hid (show w.heap.size < ad.block by omega)
  have hl := HK2.out.lt
  have c0 := HK2.out.cell 0
  have f0 := HK2.out.frozen 0
  simp at c0
  clear hr hb hg hkl
  go_wp2
  have c1 := ((HK2.out.set_ 0 (.slice (some ad) n c)).alloc (.cells #[.slice (some ad) n c] 40)).cell 0
  simp at c1
  refine bodyPost_ret (v := .agg #[.slice (some ad) n c]) (by simp [results, Tryz.results43, go_sem, c1]) rfl ⟨ad, n, c, rfl, Nat.le_of_lt HG.out, ?_, ?_⟩
  · exact (HR2.out.far (fun a e _ => by injection e with e; subst e; exact Nat.ne_of_gt HG.out) _).alloc _
  · exact (HW2.out.setCell (Nat.le_refl _) _).alloc (HW2.out.setCell (Nat.le_refl _) _).size _
set_option maxHeartbeats 4000000 in
theorem rlevels_any (w : World) : Calls Tryz.prog 44 #[] w (TabV w (acc (List.replicate 256 1))) := by
  have HK0 := Lib.hid (Blk.new w 40 #[.slice none 0 0])
  have HW0 := Lib.hid ((Below.refl w.heap.size w).alloc (Nat.le_refl _) (.cells #[.slice none 0 0] 40))
  go_enter Tryz.func44, Tryz.ntmps44
  go_wp2_with fail
  have hs0 : (w.alloc (.cells #[.slice none 0 0] 40)).heap.size = w.heap.size + 1 := by simp
  generalize w.alloc (.cells #[.slice none 0 0] 40) = w0 at HK0 HW0 hs0 ⊢
  try rw [← hs0]
  have HW1 := HW0
  have HK1 := HK0
  refine (reven_ok 256 w0 (by omega) (by omega)).mono ?_
  rintro e w2 ⟨ad, n, c, rfl, hg, hr, hb⟩
  have HW2 := Lib.hid (HW1.out.trans (hb.mono HW1.out.size))
  have HK2 := Lib.hid (HK1.out.below hb HK1.out.lt)
  have HR2 := Lib.hid hr
  have hkl := HK1.out.lt
  have HG := Lib.hid (show w.heap.size < ad.block by omega)
  have hl := HK2.out.lt
  have c0 := HK2.out.cell 0
  have f0 := HK2.out.frozen 0
  simp at c0
  clear hr hb hg hkl
  go_wp2
  have c1 := ((HK2.out.set_ 0 (.slice (some ad) n c)).alloc (.cells #[.slice (some ad) n c] 40)).cell 0
  simp at c1
  refine bodyPost_ret (v := .agg #[.slice (some ad) n c]) (by simp [results, Tryz.results44, go_sem, c1]) rfl ⟨ad, n, c, rfl, Nat.le_of_lt HG.out, ?_, ?_⟩
  · exact (HR2.out.far (fun a e _ => by injection e with e; subst e; exact Nat.ne_of_gt HG.out) _).alloc _
  · exact (HW2.out.setCell (Nat.le_refl _) _).alloc (HW2.out.setCell (Nat.le_refl _) _).size _
def smI (m : Nat) : List Int := (List.range (2 * m + 1)).map fun (j : Nat) => (m : Int) + 1 - max ((j : Int) - (m : Int)) ((m : Int) - (j : Int))
theorem smI_length (m : Nat) : (smI m).length = 2 * m + 1 := by simp [smI]
theorem smI_take (m k : Nat) (h : k < 2 * m + 1) : (smI m).take (k + 1) = (smI m).take k ++ [(m : Int) + 1 - max ((k : Int) - (m : Int)) ((m : Int) - (k : Int))] := by
  have e : (smI m)[k]? = some ((m : Int) + 1 - max ((k : Int) - (m : Int)) ((m : Int) - (k : Int))) := by unfold smI; rw [List.getElem?_map, List.getElem?_range h]; rfl
  rw [List.take_add_one, e]
  rfl
set_option maxHeartbeats 4000000 in
theorem rsmalls_any (m : Nat) (w : World) (hm : m ≤ 127) (hok : okN (smI m) = true) : Calls Tryz.prog 46 #[.int .i64 (m : Int)] w (TabV w (acc (smI m))) := by
  obtain ⟨i0, hi0, hz0, hz1, hz2⟩ := info_partsT info_intT
  have HS := Lib.hid (RwS.start w)
  go_enter Tryz.func46, Tryz.ntmps46
  go_wp2_with fail
  generalize w.alloc (.cells #[.slice none 0 0] 40) = w0 at HS ⊢
  obtain ⟨b, hb⟩ : ∃ b, b = w.heap.size := ⟨_, rfl⟩
  obtain ⟨B, hB⟩ : ∃ B, B = w.heap.size + 1 := ⟨_, rfl⟩
  rw [← hB, ← hb] at HS
  rw [← hb]
  have HB := Lib.hid hb
  clear hB hb
  go_wp2_with fail
  go_loopw [3, 4] (fun v4 vi wr => ∃ (k : Nat) (q : Int), vi = .int .i64 q ∧ q = (k : Int) - (m : Int) ∧ k ≤ 2 * m + 1 ∧ Hid (RwS w b B k ((smI m).take k) v4 wr)) (fun _ vi _ => 2 * m + 1 - (intOf vi + (m : Int)).toNat)
  case atStart => exact ⟨0, _, rfl, by omega, by omega, HS⟩
  case round =>
    obtain ⟨k, q, rfl, hq, hk, HZ⟩ := hrel
    clear HS
    have HQ := Lib.hid hq
    by_cases hlt : k < 2 * m + 1
    · have hlq : q ≤ (m : Int) := by omega
      have q1 : -127 ≤ q := by omega
      have q2 : q ≤ 127 := by omega
      obtain ⟨y, hy⟩ : ∃ y, max q (-q) = y := ⟨_, rfl⟩
      have y1 : 0 ≤ y := by omega
      have y2 : y ≤ (m : Int) := by omega
      have HT := Lib.hid (show (smI m).take (k + 1) = (smI m).take k ++ [(m : Int) + 1 - y] by
        rw [smI_take m k hlt, ← hy, hq]
        congr 3
        omega)
      clear hq
      go_wp2_with (at_builtin; refine wpList_append_own_at _ rfl (.tmp 14) (.tmp 22) 33 rfl B 3 i0 _ 1 8 Tryz.underlying33 hi0 hz0 hz1 hz2 rfl (by omega) _ k _ rfl (HZ.out.row.alloc _) ⟨wr.heap.size, 0, none⟩ 1 1 [.int .i64 ((m : Int) + 1 - y)] rfl rfl (cell_one_new _ _ _) (by intro u hu; simp at hu; subst hu; rfl) (by unfold maxLen; omega) (by omega) (by have := HZ.out.hu; simp; omega) ?_; intro v1 w4 hown1 hg1 _ _; have HS4 := Lib.hid (show RwS w b B (k + 1) ((smI m).take (k + 1)) v1 w4 from by rw [HT.out]; exact HZ.out.step hown1 hg1); clear hown1 hg1)
      go_roundw
      case rel => exact ⟨k + 1, q + 1, rfl, by have := HQ.out; omega, by omega, HS4⟩
      case measure => have := HQ.out; simp [intOf]; omega
    · have hlq : ¬ q ≤ (m : Int) := by omega
      obtain rfl : k = 2 * m + 1 := by omega
      obtain ⟨A4, c4, rfl, h4⟩ := own_rdI HZ.out.row
      rw [List.take_of_length_le (by rw [smI_length]; omega)] at h4
      obtain ⟨n4, hn4⟩ : ∃ n4, n4 = 2 * m + 1 := ⟨_, rfl⟩
      rw [← hn4] at h4 ⊢
      have H4 := Lib.hid h4
      have HN4 := Lib.hid hn4
      clear h4 hq hn4
      go_wp2_with fail
      refine (rnew_ok A4 n4 c4 _ wr H4 hok).mono ?_
      rintro e w5 ⟨ad5, n5, c5, rfl, hge5, h5, hb5⟩
      have hblt := HZ.out.box.lt
      have HK2 := Lib.hid (HZ.out.box.below hb5 hblt)
      have HW2 := Lib.hid (HZ.out.blw.trans (hb5.mono HZ.out.blw.size))
      have HR2 := Lib.hid h5
      have HG := Lib.hid (show b < ad5.block ∧ w.heap.size ≤ ad5.block from ⟨by omega, by have := HZ.out.blw.size; omega⟩)
      have hl := HK2.out.lt
      have c0 := HK2.out.cell 0
      have f0 := HK2.out.frozen 0
      simp at c0
      clear hb5 h5 hge5 hblt HZ
      go_wp2
      have c1 := ((HK2.out.set_ 0 (.slice (some ad5) n5 c5)).alloc (.cells #[.slice (some ad5) n5 c5] 40)).cell 0
      simp at c1
      refine bodyPost_ret (v := .agg #[.slice (some ad5) n5 c5]) (by simp [results, Tryz.results46, go_sem, c1]) rfl ⟨ad5, n5, c5, rfl, HG.out.2, ?_, ?_⟩
      · exact (HR2.out.far (fun a e _ => by injection e with e; subst e; exact Nat.ne_of_gt HG.out.1) _).alloc _
      · exact (HW2.out.setCell (by rw [HB.out]; exact Nat.le_refl _) _).alloc (HW2.out.setCell (by rw [HB.out]; exact Nat.le_refl _) _).size _
end Go.Proofs.YtgpdgegelipboaaGreatDoor.Fq
namespace Go.Proofs.YtgpdgegelipboaaGreatDoor.Lp
open Go.RowKit Fx Fq Tb
open Cd (Pr Tb RdT tbs own_far row_neC)
theorem info_freqL : (Tryz.prog.info? 40).map (fun i => (i.zero, i.size, i.bytes)) = some (some (.agg #[.slice none 0 0]), 1, 24) := by kernel_rfl
def tbV (t : Tb) : Value := .slice t.C t.m t.d
theorem rdI_rowF {u u' : World} {A : Option Addr} {n : Nat} {zs : List Int} {row : Option Nat} (h : RdI u A n zs) (hg : u.grownBy u' row) (hA : ∀ ad, A = some ad → 0 < n → row ≠ some ad.block) : RdI u' A n zs :=
  ⟨h.1, fun hn => by
    obtain ⟨ad, e, hc⟩ := h.2 hn
    refine ⟨ad, e, fun j x hx => hg.cell (hc j x hx) ?_⟩
    rw [block_of_add]
    exact fun e2 => hA ad e hn e2.symm⟩
def TbsF (u : World) (r6 r7 : Option Nat) (ts : List Tb) : Prop := ∀ t ∈ ts, ∃ ad, t.C = some ad ∧ ad.block < u.heap.size ∧ r6 ≠ some ad.block ∧ r7 ≠ some ad.block ∧ RdI u (some ad) t.m t.xs ∧ t.m ≤ maxLen
structure SyS (w : World) (g2 g3 B : Nat) (F p : List Int) (v6 v7 : Value) (n6 n7 : Nat) (ps6 ps7 : List Pr) (u : World) : Prop where
  fr : Blk u g2 26 (icells F)
  pr : Blk u g3 23 (icells p)
  syms : u.ownsRow B 3 1 v6 n6 (ps6.map fun q => iV q.1)
  tabs : ∃ ts, tbs ts = ps7.map (·.2) ∧ u.ownsRow B 40 1 v7 n7 (ts.map tbV) ∧ TbsF u v6.ownBlock v7.ownBlock ts
  l2 : g2 < B
  l3 : g3 < B
  h2 : w.heap.size ≤ g2
  h3 : w.heap.size ≤ g3
  hBu : B ≤ u.heap.size
  blw : Below w.heap.size w u
section
variable {w : World} {g2 g3 B n6 n7 : Nat} {F p : List Int} {v6 v7 v' : Value} {ps6 ps7 : List Pr} {u u' : World}
theorem row_belowN {e : TypeId} {b n : Nat} {v : Value} {xs : List Value} (h : u.ownsRow b e 1 v n xs) (hb : Below u.heap.size u u') : u'.ownsRow b e 1 v n xs :=
  World.ownsRow.kept h (only_of_below hb none) (by cases hv : v.ownBlock with | none => exact .inl rfl | some k => exact .inr (by simp))
theorem TbsF.next {r6 r7 : Option Nat} {ts : List Tb} (h : TbsF u r6 r7 ts) (hb : Below u.heap.size u u') : TbsF u' r6 r7 ts := fun t ht => by
  obtain ⟨ad, h1, h2, h3, h6, h4, h5⟩ := h t ht
  exact ⟨ad, h1, Nat.lt_of_lt_of_le h2 hb.size, h3, h6, h4.below hb, h5⟩
theorem SyS.next (h : SyS w g2 g3 B F p v6 v7 n6 n7 ps6 ps7 u) (hb : Below u.heap.size u u') : SyS w g2 g3 B F p v6 v7 n6 n7 ps6 ps7 u' := by
  obtain ⟨ts, t1, t2, t3⟩ := h.tabs
  exact ⟨h.fr.below hb h.fr.lt, h.pr.below hb h.pr.lt, row_belowN h.syms hb, ⟨ts, t1, row_belowN t2 hb, t3.next hb⟩, h.l2, h.l3, h.h2, h.h3, Nat.le_trans h.hBu hb.size, h.blw.trans (hb.mono h.blw.size)⟩
theorem SyS.alloc (h : SyS w g2 g3 B F p v6 v7 n6 n7 ps6 ps7 u) (o : Obj) : SyS w g2 g3 B F p v6 v7 n6 n7 ps6 ps7 (u.alloc o) := h.next ((Below.refl u.heap.size u).alloc (Nat.le_refl _) o)
theorem SyS.drew (h : SyS w g2 g3 B F p v6 v7 n6 n7 ps6 ps7 u) : SyS w g2 g3 B F p v6 v7 n6 n7 ps6 ps7 u.drew := h.next (Below.drew (Below.refl _ _))
theorem SyS.push6 (h : SyS w g2 g3 B F p v6 v7 n6 n7 ps6 ps7 u) (q : Pr) (ho : u'.ownsRow B 3 1 v' (n6 + 1) ((ps6.map fun q => iV q.1) ++ [.int .i64 q.1])) (hg : u.grownBy u' v6.ownBlock) (hv : v'.ownBlock = v6.ownBlock ∨ v'.ownBlock = some u.heap.size) :
    SyS w g2 g3 B F p v' v7 (n6 + 1) n7 (ps6 ++ [q]) ps7 u' := by
  obtain ⟨ts, t1, t2, t3⟩ := h.tabs
  have hB := fun j hj => (h.syms.lt j hj).1
  refine ⟨h.fr.row hg (own_far h.syms h.l2), h.pr.row hg (own_far h.syms h.l3), by rw [List.map_append]; exact ho, ⟨ts, t1, World.ownsRow.kept t2 hg (row_neC t2 h.syms (by decide)), fun t ht => ?_⟩, h.l2, h.l3, h.h2, h.h3, Nat.le_trans h.hBu hg.size, h.blw.grown hg h.blw.size (fun j hj => by have := hB j hj; have := h.l2; have := h.h2; omega)⟩
  obtain ⟨ad, r1, r2, r3, r6, r4, r5⟩ := t3 t ht
  refine ⟨ad, r1, Nat.lt_of_lt_of_le r2 hg.size, ?_, r6, rdI_rowF r4 hg fun a e _ => (by injection e with e; subst e; exact r3), r5⟩
  rcases hv with hv | hv
  · rw [hv]; exact r3
  · rw [hv]
    intro e2
    injection e2 with e2
    omega
theorem fresh7 {r r' : Option Nat} {n k : Nat} (hv : r' = r ∨ r' = some n) (h : r ≠ some k) (hl : k < n) : r' ≠ some k := by
  rcases hv with hv | hv
  · rw [hv]; exact h
  · rw [hv]
    intro e2
    injection e2 with e2
    omega
theorem SyS.push7 (h : SyS w g2 g3 B F p v6 v7 n6 n7 ps6 ps7 u) (q : Pr) {ad : Addr} {m d : Nat} {ts : List Tb} (t1 : tbs ts = ps7.map (·.2)) (t2 : u.ownsRow B 40 1 v7 n7 (ts.map tbV)) (t3 : TbsF u v6.ownBlock v7.ownBlock ts) (ho : u'.ownsRow B 40 1 v' (n7 + 1) (ts.map tbV ++ [.slice (some ad) m d])) (hg : u.grownBy u' v7.ownBlock)
    (hr : RdI u (some ad) m q.2) (hl : ad.block < u.heap.size) (h6 : v6.ownBlock ≠ some ad.block) (h7 : v7.ownBlock ≠ some ad.block) (hm : m ≤ maxLen) (hv : v'.ownBlock = v7.ownBlock ∨ v'.ownBlock = some u.heap.size) :
    SyS w g2 g3 B F p v6 v' n6 (n7 + 1) ps6 (ps7 ++ [q]) u' := by
  have hB := fun j hj => (t2.lt j hj).1
  refine ⟨h.fr.row hg (own_far t2 h.l2), h.pr.row hg (own_far t2 h.l3), World.ownsRow.kept h.syms hg (row_neC h.syms t2 (by decide)), ⟨ts ++ [⟨some ad, m, d, q.2⟩], ?_, ?_, fun t ht => ?_⟩, h.l2, h.l3, h.h2, h.h3, Nat.le_trans h.hBu hg.size, h.blw.grown hg h.blw.size (fun j hj => by have := hB j hj; have := h.l2; have := h.h2; omega)⟩
  · unfold tbs at t1 ⊢
    rw [List.map_append, List.map_append, t1]
    rfl
  · rw [List.map_append]; exact ho
  · rcases List.mem_append.1 ht with ht | ht
    · obtain ⟨a, r1, r2, r3, r6, r4, r5⟩ := t3 t ht
      refine ⟨a, r1, Nat.lt_of_lt_of_le r2 hg.size, r3, fresh7 hv r6 r2, rdI_rowF r4 hg fun a' e _ => (by injection e with e; subst e; exact r6), r5⟩
    · rw [List.mem_singleton] at ht
      subst ht
      exact ⟨ad, rfl, Nat.lt_of_lt_of_le hl hg.size, h6, fresh7 hv h7 hl, rdI_rowF hr hg fun a e _ => (by injection e with e; subst e; exact h7), hm⟩
theorem TbsF.alloc {r6 r7 : Option Nat} {ts : List Tb} (h : TbsF u r6 r7 ts) (o : Obj) : TbsF (u.alloc o) r6 r7 ts := h.next ((Below.refl u.heap.size u).alloc (Nat.le_refl _) o)
theorem SyS.tab {u5 : World} (h : SyS w g2 g3 B F p v6 v7 n6 n7 ps6 ps7 u) (q : Pr) {ad : Addr} {m d : Nat} {o : Obj} (hb : Below u.heap.size u u5) (hge : u.heap.size ≤ ad.block) (hr : RdI u5 (some ad) m q.2) (h0 : 0 < m) (hm : m ≤ maxLen)
    {ts : List Tb} (t1 : tbs ts = ps7.map (·.2)) (t2 : u5.ownsRow B 40 1 v7 n7 (ts.map tbV)) (t3 : TbsF u5 v6.ownBlock v7.ownBlock ts) (ho : u'.ownsRow B 40 1 v' (n7 + 1) (ts.map tbV ++ [.slice (some ad) m d])) (hg : (u5.alloc o).grownBy u' v7.ownBlock) (hv : v'.ownBlock = v7.ownBlock ∨ v'.ownBlock = some (u5.alloc o).heap.size) :
    SyS w g2 g3 B F p v6 v' n6 (n7 + 1) ps6 (ps7 ++ [q]) u' := by
  obtain ⟨ts', -, t2', -⟩ := h.tabs
  obtain ⟨a, e, hl, -⟩ := hr.at_ h0
  injection e with e
  subst e
  refine ((h.next hb).alloc o).push7 q t1 (t2.alloc o) (t3.alloc o) ho hg (hr.alloc o) (by simp; omega) (fun e => ?_) (fun e => ?_) hm hv
  · have := (h.syms.lt _ e).2
    omega
  · have := (t2'.lt _ e).2
    omega
theorem SyS.tabK {u5 : World} (h : SyS w g2 g3 B F p v6 v7 n6 n7 ps6 ps7 u) {ps8 : List Pr} {q : Pr} (hps : ps8 = ps7 ++ [q]) {ad : Addr} {m : Nat} (hb : Below u.heap.size u u5) (hge : u.heap.size ≤ ad.block) (hr : RdI u5 (some ad) m q.2) (h0 : 0 < m) (hm : m ≤ maxLen) :
    ∃ ts : List Tb, u5.ownsRow B 40 1 v7 n7 (ts.map tbV) ∧ B ≤ u5.heap.size ∧ ∀ (d : Nat) (v' : Value) (o : Obj) (u' : World), u'.ownsRow B 40 1 v' (n7 + 1) (ts.map tbV ++ [.slice (some ad) m d]) → (u5.alloc o).grownBy u' v7.ownBlock → (v'.ownBlock = v7.ownBlock ∨ v'.ownBlock = some (u5.alloc o).heap.size) → SyS w g2 g3 B F p v6 v' n6 (n7 + 1) ps6 ps8 u' := by
  obtain ⟨ts, t1, t2, t3⟩ := (h.next hb).tabs
  refine ⟨ts, t2, (h.next hb).hBu, fun d v' o u' ho hg hv => ?_⟩
  rw [hps]
  exact h.tab q hb hge hr h0 hm t1 t2 t3 ho hg hv
theorem SyS.rd6 (h : SyS w g2 g3 B F p v6 v7 n6 n7 ps6 ps7 u) : ∃ A c, v6 = .slice A n6 c ∧ RdI u A n6 (ps6.map (·.1)) :=
  own_rdI (zs := ps6.map (·.1)) (by rw [List.map_map]; exact h.syms)
theorem SyS.rd7 (h : SyS w g2 g3 B F p v6 v7 n6 n7 ps6 ps7 u) : ∃ A c ts, v7 = .slice A n7 c ∧ RdT u A n7 ts ∧ tbs ts = ps7.map (·.2) := by
  obtain ⟨ts, t1, t2, t3⟩ := h.tabs
  have hl : ts.length = n7 := by have := t2.1; rw [List.length_map, Nat.mul_one] at this; exact this
  rcases t2.2 with ⟨rfl, h0⟩ | ⟨g, cap, cur, rfl, hb, _⟩
  · exact ⟨none, 0, ts, by rw [h0], ⟨hl, fun hn => absurd hn (by omega)⟩, t1⟩
  · refine ⟨_, cap, ts, rfl, ⟨hl, fun _ => ⟨_, rfl, fun j x hx => ?_⟩⟩, t1⟩
    obtain ⟨ad, r1, r2, r3, r6, r4, r5⟩ := t3 x (List.mem_of_getElem? hx)
    refine ⟨World.ownsRow.cells t2 (g := g) rfl j (tbV x) (by rw [List.getElem?_map, hx]; rfl), by rw [r1]; exact r4, r5⟩
theorem SyS.len (h : SyS w g2 g3 B F p v6 v7 n6 n7 ps6 ps7 u) : ps6.length = n6 ∧ ps7.length = n7 := by
  refine ⟨by have := h.syms.1; rw [List.length_map, Nat.mul_one] at this; exact this, ?_⟩
  obtain ⟨ts, t1, t2, -⟩ := h.tabs
  have := t2.1
  rw [List.length_map, Nat.mul_one] at this
  have e := congrArg List.length t1
  unfold tbs at e
  rw [List.length_map, List.length_map] at e
  omega
end
end Go.Proofs.YtgpdgegelipboaaGreatDoor.Lp
namespace Go.Proofs.YtgpdgegelipboaaGreatDoor.Yr
open Go.RowKit Cd
open Lp (tab tab_getD tab_get tab_length tab_congr tab_self zr_getD zr_length chkL shareL msL mayB mayN mayN_at bnd bnd_all mostN msL_length inR_bd)
abbrev Stp (S : Type) := S → List Int → Nat → Int → Option S
def lvO (F : List Int) : List Int := (F.drop 1).take 6
section
variable {S : Type} (st : Stp S)
def lvT (K : Int) (p : List Int) : Nat → S → Option S
  | 0, s => some s
  | j + 1, s => (st s (tabK K) (1 + (5 - j)) (if K = 1 then p.getD (5 - j) 0 - 8 else 0)).bind (lvT K p j)
def nmT (ms : List Int) : Nat → S → Option S
  | 0, s => some s
  | j + 1, s => if 0 < ms.getD (15 - j) 0 then (st s (smT (ms.getD (15 - j) 0).toNat) (7 + (15 - j)) (-(ms.getD (15 - j) 0))).bind (nmT ms j) else nmT ms j s
def nmA (fr : S → List Int) (s : S) : Option S := if chkL (lvO (fr s)) = true then nmT st (msL (lvO (fr s))) 16 s else none
def lvA (fr : S → List Int) (p : List Int) (s : S) : Option S := lvT st ((fr s).getD 0 0) p 6 s
def numA (fr : S → List Int) (s : S) : Option S := if (fr s).getD 0 0 = 2 then some s else nmA st fr s
def thru (fr : S → List Int) (p : List Int) (s : S) : Option S := (st s kT 0 0).bind fun s1 => (lvA st fr p s1).bind fun s2 => numA st fr s2
theorem lvT_step {K : Int} {p : List Int} {k : Nat} {s s' : S} (hk : k < 6) (h : st s (tabK K) (1 + k) (if K = 1 then p.getD k 0 - 8 else 0) = some s') : lvT st K p (6 - k) s = lvT st K p (6 - (k + 1)) s' := by
  obtain ⟨j, hj⟩ : ∃ j, j = 6 - (k + 1) := ⟨_, rfl⟩
  have e1 : 6 - k = j + 1 := by omega
  have e2 : 5 - j = k := by omega
  rw [e1, ← hj, lvT, e2, h]
  rfl
theorem lvT_no {K : Int} {p : List Int} {k : Nat} {s : S} (hk : k < 6) (h : st s (tabK K) (1 + k) (if K = 1 then p.getD k 0 - 8 else 0) = none) : lvT st K p (6 - k) s = none := by
  obtain ⟨j, hj⟩ : ∃ j, j = 6 - (k + 1) := ⟨_, rfl⟩
  have e1 : 6 - k = j + 1 := by omega
  have e2 : 5 - j = k := by omega
  rw [e1, lvT, e2, h]
  rfl
theorem nmT_step {ms : List Int} {k : Nat} {s s' : S} (hk : k < 16) (h0 : 0 < ms.getD k 0) (h : st s (smT (ms.getD k 0).toNat) (7 + k) (-(ms.getD k 0)) = some s') : nmT st ms (16 - k) s = nmT st ms (16 - (k + 1)) s' := by
  obtain ⟨j, hj⟩ : ∃ j, j = 16 - (k + 1) := ⟨_, rfl⟩
  have e1 : 16 - k = j + 1 := by omega
  have e2 : 15 - j = k := by omega
  rw [e1, ← hj, nmT, e2, if_pos h0, h]
  rfl
theorem nmT_no {ms : List Int} {k : Nat} {s : S} (hk : k < 16) (h0 : 0 < ms.getD k 0) (h : st s (smT (ms.getD k 0).toNat) (7 + k) (-(ms.getD k 0)) = none) : nmT st ms (16 - k) s = none := by
  obtain ⟨j, hj⟩ : ∃ j, j = 16 - (k + 1) := ⟨_, rfl⟩
  have e1 : 16 - k = j + 1 := by omega
  have e2 : 15 - j = k := by omega
  rw [e1, nmT, e2, if_pos h0, h]
  rfl
theorem nmT_skip {ms : List Int} {k : Nat} {s : S} (hk : k < 16) (h0 : ¬ 0 < ms.getD k 0) : nmT st ms (16 - k) s = nmT st ms (16 - (k + 1)) s := by
  obtain ⟨j, hj⟩ : ∃ j, j = 16 - (k + 1) := ⟨_, rfl⟩
  have e1 : 16 - k = j + 1 := by omega
  have e2 : 15 - j = k := by omega
  rw [e1, ← hj, nmT, e2, if_neg h0]
theorem lvT_pos {pos : S → Nat} (hf : ∀ s xs i fst s', pos s ≤ i → st s xs i fst = some s' → pos s' ≤ i + 1) {K : Int} {p : List Int} : ∀ (j : Nat) (s s2 : S), j ≤ 6 → pos s ≤ 7 - j → lvT st K p j s = some s2 → pos s2 ≤ 7
  | 0, s, s2, _, h, e => by
    rw [lvT] at e
    injection e with e
    subst e
    exact h
  | j + 1, s, s2, hj, h, e => by
    rw [lvT] at e
    cases hs : st s (tabK K) (1 + (5 - j)) (if K = 1 then p.getD (5 - j) 0 - 8 else 0) with
    | none => rw [hs] at e; cases e
    | some s1 =>
      rw [hs] at e
      have := hf _ _ _ _ _ (by omega) hs
      exact lvT_pos hf j s1 s2 (by omega) (by omega) e
end
def hdQ (K : Int) (l p : List Int) (k : Nat) : List Pr := (K, kT) :: (List.range k).map (lvP K l p)
theorem hdQ_succ (K : Int) (l p : List Int) (k : Nat) : hdQ K l p (k + 1) = hdQ K l p k ++ [lvP K l p k] := by
  unfold hdQ
  rw [List.range_succ, List.map_append]
  rfl
theorem hdQ_pre (K : Int) (l p : List Int) : ∀ j k, k + j = 6 → ∃ suf, hdQ K l p 6 = hdQ K l p k ++ suf
  | 0, k, h => by obtain rfl : k = 6 := by omega
                  exact ⟨[], by rw [List.append_nil]⟩
  | j + 1, k, h => by
    obtain ⟨suf, e⟩ := hdQ_pre K l p j (k + 1) (by omega)
    exact ⟨lvP K l p k :: suf, by rw [e, hdQ_succ, List.append_assoc]; rfl⟩
theorem nums_pre (q ms : List Int) : ∀ j k, k + j = 16 → ∃ suf, numsP q ms 16 = numsP q ms k ++ suf
  | 0, k, h => by obtain rfl : k = 16 := by omega
                  exact ⟨[], by rw [List.append_nil]⟩
  | j + 1, k, h => by
    obtain ⟨suf, e⟩ := nums_pre q ms j (k + 1) (by omega)
    exact ⟨_, by rw [e, numsP_succ, List.append_assoc]⟩
theorem symsP_is (K : Int) (l q p : List Int) : symsP K l q p = hdQ K l p 6 ++ if K = 2 then [] else numsP q (msL l) 16 := rfl
structure FrR (F : List Int) (K : Int) (l q : List Int) : Prop where
  len : F.length = 23
  kd : F.getD 0 0 = K
  lv : ∀ b, b < 6 → F.getD (1 + b) 0 = l.getD b 0
  nm : ∀ n, n < 16 → F.getD (7 + n) 0 = q.getD n 0
  lo : lvO F = l
def stW (F : List Int) : Stp (List Pr) := fun ps xs i fst => some (ps ++ [(F.getD i 0 - fst, xs)])
theorem lvP_sub {F : List Int} {K : Int} {l q p : List Int} (h : FrR F K l q) {b : Nat} (hb : b < 6) : (F.getD (1 + b) 0 - (if K = 1 then p.getD b 0 - 8 else 0), tabK K) = lvP K l p b := by
  rw [h.lv b hb]
  unfold lvP tabK
  by_cases e : K = 1
  · rw [if_pos e, if_pos e, if_pos e]; congr 1; omega
  · rw [if_neg e, if_neg e, if_neg e]; congr 1; omega
theorem lvT_list {F : List Int} {K : Int} {l q p : List Int} (h : FrR F K l q) : ∀ j k, k + j = 6 → lvT (stW F) K p j (hdQ K l p k) = some (hdQ K l p 6)
  | 0, k, hk => by obtain rfl : k = 6 := by omega
                   rfl
  | j + 1, k, hk => by
    have e := lvT_step (stW F) (K := K) (p := p) (k := k) (s := hdQ K l p k) (s' := hdQ K l p (k + 1)) (by omega) (by
      unfold stW
      rw [lvP_sub h (by omega), hdQ_succ])
    rw [show 6 - k = j + 1 by omega, show 6 - (k + 1) = j by omega] at e
    rw [e]
    exact lvT_list h j (k + 1) (by omega)
theorem nmT_list {F : List Int} {K : Int} {l q : List Int} (h : FrR F K l q) (ms : List Int) (hd : List Pr) : ∀ j k, k + j = 16 → nmT (stW F) ms j (hd ++ numsP q ms k) = some (hd ++ numsP q ms 16)
  | 0, k, hk => by obtain rfl : k = 16 := by omega
                   rfl
  | j + 1, k, hk => by
    by_cases h0 : 0 < ms.getD k 0
    · have e := nmT_step (stW F) (ms := ms) (k := k) (s := hd ++ numsP q ms k) (s' := hd ++ numsP q ms (k + 1)) (by omega) h0 (by
        unfold stW
        rw [h.nm k (by omega), numsP_succ, if_pos h0, List.append_assoc, show q.getD k 0 - -(ms.getD k 0) = q.getD k 0 + ms.getD k 0 by omega])
      rw [show 16 - k = j + 1 by omega, show 16 - (k + 1) = j by omega] at e
      rw [e]
      exact nmT_list h ms hd j (k + 1) (by omega)
    · have e := nmT_skip (stW F) (ms := ms) (k := k) (s := hd ++ numsP q ms k) (by omega) h0
      rw [show 16 - k = j + 1 by omega, show 16 - (k + 1) = j by omega] at e
      rw [e]
      have e2 : numsP q ms (k + 1) = numsP q ms k := by rw [numsP_succ, if_neg h0, List.append_nil]
      rw [← e2]
      exact nmT_list h ms hd j (k + 1) (by omega)
theorem thru_list {F : List Int} {K : Int} {l q p : List Int} (h : FrR F K l q) (hc : chkL l = true) : thru (stW F) (fun _ => F) p [] = some (symsP K l q p) := by
  have e1 : stW F [] kT 0 0 = some (hdQ K l p 0) := by
    unfold stW hdQ
    rw [h.kd, Int.sub_zero]
    rfl
  have e2 := lvT_list (p := p) h 6 0 rfl
  unfold thru lvA numA nmA
  rw [e1]
  simp only [Option.bind_some, h.kd, e2, h.lo, hc, if_true]
  rw [symsP_is]
  by_cases e : K = 2
  · rw [if_pos e, if_pos e, List.append_nil]
  · rw [if_neg e, if_neg e]
    have e3 := nmT_list h (msL l) (hdQ K l p 6) 16 0 rfl
    rw [show numsP q (msL l) 0 = [] from rfl, List.append_nil] at e3
    exact e3
def stR (inp : List Bool) : Stp (De × List Int) := fun s xs i fst => if s.1.at_ ≤ inp.length + 32 then some (nxE inp s.1 xs, s.2.set i (fst + (nxK s.1 xs : Int))) else none
theorem backErr_at {inp : List Bool} {xs : List Int} {suf : List (List Int)} : ∀ (pre : List (List Int)) (d : De), backErr inp d (pre ++ xs :: suf) = 0 → (stD inp d pre).at_ ≤ inp.length + 32
  | [], d, h => by
    rw [List.nil_append, backErr] at h
    split at h
    · split at h
      · exact absurd h (by decide)
      · show d.at_ ≤ _; omega
    · exact absurd h (by decide)
  | y :: pre, d, h => by
    rw [List.cons_append, backErr] at h
    split at h
    · split at h
      · exact absurd h (by decide)
      · exact backErr_at pre _ h
    · exact absurd h (by decide)
theorem symL_at {inp : List Bool} {xs : List Int} {suf : List (List Int)} : ∀ (pre : List (List Int)) (d : De), (symL inp d (pre ++ xs :: suf)).getD pre.length 0 = (nxK (stD inp d pre) xs : Int)
  | [], d => by rw [List.nil_append, symL_cons]; rfl
  | y :: pre, d => by
    rw [List.cons_append, symL_cons]
    exact symL_at pre (nxE inp d y)
theorem rd_next {inp : List Bool} {full pre suf : List Pr} {x : Int} {xs : List Int} (h1 : backErr inp (d0 inp) (full.map (·.2)) = 0) (h2 : symL inp (d0 inp) (full.map (·.2)) = full.map (·.1)) (e : full = pre ++ (x, xs) :: suf) (F : List Int) (i : Nat) (fst : Int) :
    stR inp (stD inp (d0 inp) (pre.map (·.2)), F) xs i fst = some (stD inp (d0 inp) ((pre ++ [(x, xs)]).map (·.2)), F.set i (fst + x)) := by
  subst e
  rw [List.map_append, List.map_cons] at h1 h2
  have a1 := backErr_at _ _ h1
  have a2 := symL_at (inp := inp) (xs := xs) (suf := suf.map (·.2)) (pre.map (·.2)) (d0 inp)
  rw [show xs = ((x, xs) : Pr).2 from rfl, h2] at a2
  have a3 : ((pre ++ (x, xs) :: suf).map (·.1)).getD (pre.map (·.2)).length 0 = x := by
    rw [List.length_map, List.map_append, List.map_cons, List.getD_eq_getElem?_getD, List.getElem?_append_right (by rw [List.length_map]; exact Nat.le_refl _), List.length_map, Nat.sub_self]
    rfl
  rw [a3] at a2
  unfold stR
  rw [if_pos a1, ← a2, List.map_append, List.map_cons, List.map_nil, stD_snoc]
def fil (F : List Int) (m : Nat) : List Int := F.take m ++ Go.Proofs.YtgpdgegelipboaaGreatDoor.Lp.zr (23 - m)
theorem fil_length {F : List Int} (h : F.length = 23) {m : Nat} (hm : m ≤ 23) : (fil F m).length = 23 := by
  unfold fil
  rw [List.length_append, List.length_take, h, zr_length]
  omega
theorem fil_get {F : List Int} (h : F.length = 23) {m j : Nat} (hm : m ≤ 23) : (fil F m).getD j 0 = if j < m then F.getD j 0 else 0 := by
  unfold fil
  simp only [List.getD_eq_getElem?_getD]
  by_cases hj : j < m
  · rw [if_pos hj, List.getElem?_append_left (by rw [List.length_take]; omega), List.getElem?_take, if_pos hj]
  · rw [if_neg hj, List.getElem?_append_right (by rw [List.length_take]; omega)]
    have := zr_getD (23 - m) (j - (F.take m).length)
    rw [List.getD_eq_getElem?_getD] at this
    exact this
theorem row_ext {a b : List Int} (ha : a.length = 23) (hb : b.length = 23) (h : ∀ j, j < 23 → a.getD j 0 = b.getD j 0) : a = b := by
  refine List.ext_getElem? fun j => ?_
  by_cases hj : j < 23
  · have := h j hj
    rw [List.getD_eq_getElem?_getD, List.getD_eq_getElem?_getD, List.getElem?_eq_getElem (by omega), List.getElem?_eq_getElem (by omega)] at this
    rw [List.getElem?_eq_getElem (by omega), List.getElem?_eq_getElem (by omega)]
    exact congrArg some this
  · rw [List.getElem?_eq_none (by omega), List.getElem?_eq_none (by omega)]
theorem getD_setF {a : List Int} {i j : Nat} {x : Int} (hi : i < a.length) : (a.set i x).getD j 0 = if i = j then x else a.getD j 0 := by
  simp only [List.getD_eq_getElem?_getD, List.getElem?_set]
  by_cases e : i = j
  · subst e
    rw [if_pos rfl, if_pos hi, if_pos rfl]
    rfl
  · rw [if_neg e, if_neg e]
theorem fil_set {F : List Int} (h : F.length = 23) {m : Nat} (hm : m < 23) {x : Int} (hx : F.getD m 0 = x) : (fil F m).set m x = fil F (m + 1) := by
  refine row_ext (by rw [List.length_set, fil_length h (by omega)]) (fil_length h (by omega)) fun j hj => ?_
  rw [getD_setF (by rw [fil_length h (by omega)]; exact hm), fil_get h (by omega), fil_get h (by omega)]
  by_cases e : m = j
  · subst e
    rw [if_pos rfl, if_pos (by omega), hx]
  · rw [if_neg e]
    by_cases e2 : j < m
    · rw [if_pos e2, if_pos (by omega)]
    · rw [if_neg e2, if_neg (by omega)]
theorem fil_skip {F : List Int} (h : F.length = 23) {m : Nat} (hm : m < 23) (hx : F.getD m 0 = 0) : fil F m = fil F (m + 1) := by
  rw [← fil_set h hm hx]
  refine row_ext (fil_length h (by omega)) (by rw [List.length_set, fil_length h (by omega)]) fun j hj => ?_
  rw [getD_setF (by rw [fil_length h (by omega)]; exact hm), fil_get h (by omega)]
  by_cases e : m = j
  · subst e
    rw [if_neg (by omega), if_pos rfl]
  · rw [if_neg e]
theorem fil_all {F : List Int} (h : F.length = 23) : fil F 23 = F := by
  unfold fil
  rw [← h, List.take_length, h]
  exact List.append_nil F
theorem lvO_length {F : List Int} (h : F.length = 23) : (lvO F).length = 6 := by
  unfold lvO
  rw [List.length_take, List.length_drop, h]
  rfl
theorem lvO_get {F : List Int} {b : Nat} (hb : b < 6) : (lvO F).getD b 0 = F.getD (1 + b) 0 := by
  unfold lvO
  simp only [List.getD_eq_getElem?_getD, List.getElem?_take, hb, if_true, List.getElem?_drop]
theorem six_ext {a b : List Int} (ha : a.length = 6) (hb : b.length = 6) (h : ∀ j, j < 6 → a.getD j 0 = b.getD j 0) : a = b := by
  rw [← tab_self ha, ← tab_self hb]
  exact tab_congr h
section
variable {inp : List Bool} {F : List Int} {K : Int} {l q p : List Int} {full : List Pr}
theorem lvT_read (h : FrR F K l q) (h1 : backErr inp (d0 inp) (full.map (·.2)) = 0) (h2 : symL inp (d0 inp) (full.map (·.2)) = full.map (·.1)) (hp : ∃ suf, full = hdQ K l p 6 ++ suf) : ∀ j k, k + j = 6 →
    lvT (stR inp) K p j (stD inp (d0 inp) ((hdQ K l p k).map (·.2)), fil F (1 + k)) = some (stD inp (d0 inp) ((hdQ K l p 6).map (·.2)), fil F 7)
  | 0, k, hk => by obtain rfl : k = 6 := by omega
                   rfl
  | j + 1, k, hk => by
    obtain ⟨suf, e⟩ := hp
    obtain ⟨suf2, e2⟩ := hdQ_pre K l p j (k + 1) (by omega)
    have e3 : full = hdQ K l p k ++ ((F.getD (1 + k) 0 - (if K = 1 then p.getD k 0 - 8 else 0), tabK K) :: (suf2 ++ suf)) := by
      rw [e, e2, hdQ_succ, lvP_sub h (by omega), List.append_assoc, List.append_assoc]
      rfl
    have e4 := lvT_step (stR inp) (K := K) (p := p) (k := k) (by omega) (rd_next h1 h2 e3 (fil F (1 + k)) (1 + k) (if K = 1 then p.getD k 0 - 8 else 0))
    rw [show 6 - k = j + 1 by omega, show 6 - (k + 1) = j by omega] at e4
    rw [e4, lvP_sub h (by omega), ← hdQ_succ, fil_set h.len (by omega) (by omega)]
    exact lvT_read h h1 h2 ⟨suf, e⟩ j (k + 1) (by omega)
theorem nmT_read (h : FrR F K l q) {ms : List Int} (h0 : ∀ n, n < 16 → ms.getD n 0 ≤ 0 → q.getD n 0 = 0) (h1 : backErr inp (d0 inp) (full.map (·.2)) = 0) (h2 : symL inp (d0 inp) (full.map (·.2)) = full.map (·.1)) {hd : List Pr} (hp : full = hd ++ numsP q ms 16) : ∀ j k, k + j = 16 →
    nmT (stR inp) ms j (stD inp (d0 inp) ((hd ++ numsP q ms k).map (·.2)), fil F (7 + k)) = some (stD inp (d0 inp) (full.map (·.2)), F)
  | 0, k, hk => by obtain rfl : k = 16 := by omega
                   rw [hp, show 7 + 16 = 23 from rfl, fil_all h.len]
                   rfl
  | j + 1, k, hk => by
    have hf := h.nm k (by omega)
    by_cases hm : 0 < ms.getD k 0
    · obtain ⟨suf2, e2⟩ := nums_pre q ms j (k + 1) (by omega)
      have e3 : full = (hd ++ numsP q ms k) ++ ((q.getD k 0 + ms.getD k 0, smT (ms.getD k 0).toNat) :: suf2) := by
        rw [hp, e2, numsP_succ, if_pos hm]
        simp only [List.append_assoc]
        rfl
      have e4 := nmT_step (stR inp) (ms := ms) (k := k) (by omega) hm (rd_next h1 h2 e3 (fil F (7 + k)) (7 + k) (-(ms.getD k 0)))
      rw [show 16 - k = j + 1 by omega, show 16 - (k + 1) = j by omega] at e4
      rw [e4, fil_set h.len (by omega) (by omega)]
      have e5 : (hd ++ numsP q ms k) ++ [(q.getD k 0 + ms.getD k 0, smT (ms.getD k 0).toNat)] = hd ++ numsP q ms (k + 1) := by rw [numsP_succ, if_pos hm, List.append_assoc]
      rw [e5]
      exact nmT_read h h0 h1 h2 hp j (k + 1) (by omega)
    · have e4 := nmT_skip (stR inp) (ms := ms) (k := k) (s := (stD inp (d0 inp) ((hd ++ numsP q ms k).map (·.2)), fil F (7 + k))) (by omega) hm
      rw [show 16 - k = j + 1 by omega, show 16 - (k + 1) = j by omega] at e4
      have e5 : numsP q ms (k + 1) = numsP q ms k := by rw [numsP_succ, if_neg hm, List.append_nil]
      rw [e4, fil_skip h.len (by omega) (by rw [hf]; exact h0 k (by omega) (by omega)), ← e5]
      exact nmT_read h h0 h1 h2 hp j (k + 1) (by omega)
theorem thru_back (hr : FrR F K l q) (h : Fr K l q p) (tail : List Bool) (hi : inp = endBits (stE e0 (symsP K l q p)) ++ tail) (lq : q.length = 16) :
    ∃ d, thru (stR inp) (·.2) p (d0 inp, Go.Proofs.YtgpdgegelipboaaGreatDoor.Lp.zr 23) = some (d, F) := by
  obtain ⟨f1, -, -⟩ := fr_bits h
  obtain ⟨b1, b2⟩ := all_back f1 tail
  rw [← hi] at b1 b2
  have z0 : Go.Proofs.YtgpdgegelipboaaGreatDoor.Lp.zr 23 = fil F 0 := rfl
  have hs : symsP K l q p = hdQ K l p 6 ++ if K = 2 then [] else numsP q (msL l) 16 := rfl
  obtain ⟨R, hR⟩ : ∃ R, R = symsP K l q p := ⟨_, rfl⟩
  rw [← hR] at b1 b2 hs
  have a1 : stR inp (d0 inp, Go.Proofs.YtgpdgegelipboaaGreatDoor.Lp.zr 23) kT 0 0 = some (stD inp (d0 inp) ((hdQ K l p 0).map (·.2)), fil F 1) := by
    obtain ⟨suf2, e2⟩ := hdQ_pre K l p 6 0 rfl
    have e3 : R = [] ++ ((K, kT) :: (suf2 ++ if K = 2 then [] else numsP q (msL l) 16)) := by
      rw [hs, e2, List.append_assoc]
      rfl
    have e4 := rd_next b1 b2 e3 (fil F 0) 0 0
    rw [z0, Int.zero_add, fil_set hr.len (by omega) hr.kd] at *
    exact e4
  have a2 := lvT_read (p := p) hr b1 b2 ⟨_, hs⟩ 6 0 rfl
  have k1 : (fil F (1 + 0)).getD 0 0 = K := by rw [fil_get hr.len (by omega), if_pos (by omega), hr.kd]
  have k7 : (fil F 7).getD 0 0 = K := by rw [fil_get hr.len (by omega), if_pos (by omega), hr.kd]
  have l7 : lvO (fil F 7) = l := by
    rw [← hr.lo]
    refine six_ext (lvO_length (fil_length hr.len (by omega))) (lvO_length hr.len) fun b hb => ?_
    rw [lvO_get hb, lvO_get hb, fil_get hr.len (by omega), if_pos (by omega)]
  unfold thru lvA numA nmA
  rw [a1]
  rw [show 1 = 1 + 0 from rfl]
  simp only [Option.bind_some, k1, a2, k7, l7, h.lev, if_true]
  by_cases e : K = 2
  · rw [if_pos e]
    have : fil F 7 = F := by
      refine row_ext (fil_length hr.len (by omega)) hr.len fun j hj => ?_
      rw [fil_get hr.len (by omega)]
      by_cases hj7 : j < 7
      · rw [if_pos hj7]
      · rw [if_neg hj7]
        obtain ⟨n, rfl⟩ : ∃ n, j = 7 + n := ⟨j - 7, by omega⟩
        rw [hr.nm n (by omega), h.sid e, zr_getD]
    rw [this]
    exact ⟨_, rfl⟩
  · rw [if_neg e]
    rw [if_neg e] at hs
    have a3 := nmT_read (ms := msL l) hr (fun n hn h0 => may_zero h.may hn h0) b1 b2 hs 16 0 rfl
    rw [show numsP q (msL l) 0 = [] from rfl, List.append_nil] at a3
    exact ⟨_, a3⟩
end
def nmO (F : List Int) : List Int := (F.drop 7).take 16
theorem frR_of {F : List Int} (h : F.length = 23) : FrR F (F.getD 0 0) (lvO F) (nmO F) :=
  ⟨h, rfl, fun b hb => (lvO_get hb).symm, fun n hn => by
    unfold nmO
    simp only [List.getD_eq_getElem?_getD, List.getElem?_take, hn, if_true, List.getElem?_drop], rfl⟩
theorem rd_thru {bs : List Nat} {p : List Int} :
    match thru (stR (inB bs)) (·.2) p (d0 (inB bs), Go.Proofs.YtgpdgegelipboaaGreatDoor.Lp.zr 23) with
    | some (_, F) => F.length = 23 → if chkB (F.getD 0 0) (lvO F) (nmO F) p = true ∧ wrB (F.getD 0 0) (lvO F) (nmO F) p = bs then rdR bs p = some (F.getD 0 0, lvO F, nmO F) else rdR bs p = none
    | none => rdR bs p = none := by
  have key : ∀ K l q, rdR bs p = some (K, l, q) → ∃ d F, FrR F K l q ∧ thru (stR (inB bs)) (·.2) p (d0 (inB bs), Go.Proofs.YtgpdgegelipboaaGreatDoor.Lp.zr 23) = some (d, F) := fun K l q h => by
    obtain ⟨c1, c2, -⟩ := rd_one h
    obtain ⟨l6, q16⟩ := gsR_len (rdR_gs h)
    have hF : ((K :: (l ++ q)) : List Int).length = 23 := by rw [List.length_cons, List.length_append, l6, q16]
    have hr : FrR (K :: (l ++ q)) K l q := by
      have h0 := frR_of hF
      have e1 : lvO (K :: (l ++ q)) = l := by unfold lvO; rw [List.drop_succ_cons, List.drop_zero, ← l6, List.take_left]
      have e2 : nmO (K :: (l ++ q)) = q := by unfold nmO; rw [show 7 = 6 + 1 by rfl, List.drop_succ_cons, ← l6, List.drop_left, ← q16, List.take_length]
      rw [e1, e2] at h0
      exact h0
    obtain ⟨tail, ht⟩ := bits_tail (endBits (stE e0 (symsP K l q p)))
    obtain ⟨d, hd⟩ := thru_back hr ((chkB_iff K l q p).1 c1) tail (inp := inB bs) (by unfold inB; rw [← c2]; unfold wrB; exact ht) q16
    exact ⟨d, _, hr, hd⟩
  split
  · rename_i d F e
    intro hF
    split
    · rename_i hc
      have h := rd_back ((chkB_iff _ _ _ p).1 hc.1) (lvO_length hF) (by unfold nmO; rw [List.length_take, List.length_drop, hF]; rfl)
      rw [hc.2] at h
      exact h
    · rename_i hc
      cases h : rdR bs p with
      | none => rfl
      | some x =>
        obtain ⟨K, l, q⟩ := x
        obtain ⟨d', F', h1, h2⟩ := key K l q h
        rw [e] at h2
        injection h2 with h2
        injection h2 with h2 h3
        subst h3
        have hG := frR_of hF
        have k1 : F.getD 0 0 = K := h1.kd
        have k2 : lvO F = l := h1.lo
        have k3 : nmO F = q := by
          obtain ⟨l6, q16⟩ := gsR_len (rdR_gs h)
          rw [← tab_self (show (nmO F).length = 16 by unfold nmO; rw [List.length_take, List.length_drop, hF]; rfl), ← tab_self q16]
          exact tab_congr fun n hn => by rw [← hG.nm n hn, h1.nm n hn]
        rw [k1, k2, k3] at hc
        obtain ⟨c1, c2, -⟩ := rd_one h
        exact absurd ⟨c1, c2⟩ hc
  · rename_i e
    cases h : rdR bs p with
    | none => rfl
    | some x =>
      obtain ⟨K, l, q⟩ := x
      obtain ⟨d', F', h1, h2⟩ := key K l q h
      rw [e] at h2
      cases h2
end Go.Proofs.YtgpdgegelipboaaGreatDoor.Yr
namespace Go.Proofs.YtgpdgegelipboaaGreatDoor.Lp
open Go.RowKit Fx Fq Tb
open Yr (smN smN_length getD_setF)
theorem own_new0 (w : World) (B : Nat) (hB : B ≤ w.heap.size) : (w.alloc (.cells #[] 3)).ownsRow B 3 1 (.slice (some ⟨w.heap.size, 0, none⟩) 0 0) 0 [] :=
  ⟨rfl, .inr ⟨w.heap.size, 0, #[], rfl, hB, Blk.new w _ _, Nat.le_refl _, by decide, rfl, rfl⟩⟩
theorem own_blkI {w : World} {g n B : Nat} {zs : List Int} (h : Blk w g 3 (icells zs)) (hl : zs.length = n) (hB : B ≤ g) (hn : n ≤ maxLen) : w.ownsRow B 3 1 (.slice (some ⟨g, 0, none⟩) n n) n (zs.map iV) :=
  ⟨by rw [List.length_map, hl, Nat.mul_one], .inr ⟨g, n, icells zs, rfl, hB, h, Nat.le_refl _, hn, by rw [icells_size, hl, Nat.mul_one], by
    unfold icells
    rw [List.toList_toArray, Nat.mul_one, ← hl, ← List.length_map (f := fun x => Value.int .i64 x), List.take_length]
    rfl⟩⟩
section
variable {w : World} {base g n cap : Nat} {zs : List Int}
theorem own_set (h : w.ownsRow base 3 1 (.slice (some ⟨g, 0, none⟩) n cap) n (zs.map iV)) (k : Nat) (x : Int) :
    (w.setCell ⟨g, k, none⟩ (.int .i64 x)).ownsRow base 3 1 (.slice (some ⟨g, 0, none⟩) n cap) n ((zs.set k x).map iV) := by
  obtain ⟨h1, h2⟩ := h
  rcases h2 with ⟨e, _⟩ | ⟨g', cap', cur, e, hb, hh, hnc, hcm, hcs, ht⟩
  · cases e
  · simp only [Value.slice.injEq, Option.some.injEq, Addr.mk.injEq, and_true] at e
    obtain ⟨rfl, _, rfl⟩ := e
    refine ⟨by rw [List.length_map, List.length_set]; rw [List.length_map] at h1; exact h1, .inr ⟨g, cap, cur.setIfInBounds k (.int .i64 x), rfl, hb, Blk.set_ hh k _, hnc, hcm, by simpa using hcs, ?_⟩⟩
    rw [Array.toList_setIfInBounds, List.take_set, ht, List.map_set]
    rfl
theorem own_cell (h : w.ownsRow base 3 1 (.slice (some ⟨g, 0, none⟩) n cap) n (zs.map iV)) {k : Nat} (hk : k < n) : w.cell? ⟨g, k, none⟩ = some (.int .i64 (zs.getD k 0)) ∧ w.frozen? ⟨g, k, none⟩ = false := by
  have hl : zs.length = n := by have := h.1; rw [List.length_map, Nat.mul_one] at this; exact this
  have h1 := World.ownsRow.cells h (g := g) rfl k (iV (zs.getD k 0)) (by
    rw [List.getElem?_map, List.getD_eq_getElem?_getD, List.getElem?_eq_getElem (by omega)]
    rfl)
  obtain ⟨-, h2⟩ := h
  rcases h2 with ⟨e, _⟩ | ⟨g', cap', cur, e, hb, hh, hnc, hcm, hcs, ht⟩
  · cases e
  · simp only [Value.slice.injEq, Option.some.injEq, Addr.mk.injEq, and_true] at e
    obtain ⟨rfl, _, rfl⟩ := e
    refine ⟨?_, Blk.frozen (t := 3) (cs := cur) hh k⟩
    rw [add_own] at h1
    exact h1
end
def CloP (w : World) (n : Nat) (zs : List Int) (e : Ending) (w' : World) : Prop :=
  ∃ g c, e = .returned (.slice (some ⟨g, 0, none⟩) n c) ∧ w.heap.size ≤ g ∧ w'.ownsRow w.heap.size 3 1 (.slice (some ⟨g, 0, none⟩) n c) n (zs.map iV) ∧ Below w.heap.size w w'
theorem iV_one (zs : List Int) : ∀ u ∈ zs.map iV, u.oneCell' = true := by
  intro u hu
  obtain ⟨x, _, rfl⟩ := List.mem_map.1 hu
  rfl
theorem own_shape {w : World} {base n : Nat} {v : Value} {xs : List Value} (h : w.ownsRow base 3 1 v n xs) (h0 : 0 < n) : ∃ g c, v = .slice (some ⟨g, 0, none⟩) n c ∧ base ≤ g := by
  rcases h.2 with ⟨_, h1⟩ | ⟨g, cap, cur, rfl, hb, -⟩
  · omega
  · exact ⟨g, cap, rfl, hb⟩
set_option maxHeartbeats 2000000 in
theorem clone_any (ad : Addr) (n c : Nat) (zs : List Int) (w : World) (hr : Hid (RdI w (some ad) n zs)) (h0 : 0 < n) (hn : n ≤ 1000) :
    Calls Tryz.prog 135 #[.slice (some ad) n c] w (CloP w n zs) := by
  obtain ⟨i0, hi0, hz0, hz1, hz2⟩ := info_partsT info_intT
  have HLN := Lib.hid (show (zs.map iV).length = n * 1 by rw [List.length_map, hr.out.1, Nat.mul_one])
  have HR := Lib.hid (hr.out.alloc (.cells #[] 3))
  have HB := Lib.hid ((Below.refl w.heap.size w).alloc (Nat.le_refl _) (.cells #[] 3))
  have HO := Lib.hid (own_new0 w w.heap.size (Nat.le_refl _))
  have HN := Lib.hid (show ∀ j u, (zs.map iV)[j]? = some u → (w.alloc (.cells #[] 3)).cell? (ad.add j) = some u from by
    intro j u hu
    obtain ⟨ad', e, hc⟩ := HR.out.2 h0
    injection e with e
    subst e
    rw [List.getElem?_map] at hu
    obtain ⟨x, hx, rfl⟩ := Option.map_eq_some_iff.1 hu
    exact hc j x hx)
  have hnil : ∀ u : World, (binOp .eql 33 (.slice (some ad) n c) (.slice none 0 0)).run Tryz.prog u = .ok (.bool false) u := fun _ => rfl
  go_enter Tryz.func135, Tryz.ntmps135
  go_wp2_with (at_builtin; refine wpList_append_own_at _ rfl (.tmp 5) (.tmp 6) 33 rfl w.heap.size 3 i0 _ 1 8 Tryz.underlying33 hi0 hz0 hz1 hz2 rfl (by omega) _ 0 [] rfl HO.out ad n c (zs.map iV) rfl HLN.out HN.out (iV_one zs) (by unfold maxLen; omega) (by omega) HB.out.size ?_; intro va w2 ho2 hg2 _ _; rw [List.nil_append, Nat.zero_add] at ho2; obtain ⟨g2, c2, hva, hg⟩ := own_shape ho2 h0; subst hva; have HO2 := Lib.hid ho2; have HG2 := Lib.hid hg; have HB2 := Lib.hid (HB.out.grown (show World.grownBy _ w2 (some w.heap.size) from hg2) HB.out.size (fun k hk => by injection hk with hk; omega)); clear ho2 hg2 hg)
  go_ret
  exact ⟨g2, c2, rfl, HG2.out, HO2.out, HB2.out⟩
def rvK (zs : List Int) (k : Nat) : List Int := tab zs.length fun x => if x < k ∨ zs.length ≤ x + k then zs.getD (zs.length - 1 - x) 0 else zs.getD x 0
theorem rvK_length (zs : List Int) (k : Nat) : (rvK zs k).length = zs.length := tab_length _ _
theorem rvK_zero (zs : List Int) : rvK zs 0 = zs := by
  refine (tab_congr (g := fun x => zs.getD x 0) fun x hx => ?_).trans (tab_self rfl)
  rw [if_neg (by omega)]
theorem rvK_lo {zs : List Int} {k : Nat} (h : k < zs.length - 1 - k) : (rvK zs k).getD k 0 = zs.getD k 0 ∧ (rvK zs k).getD (zs.length - 1 - k) 0 = zs.getD (zs.length - 1 - k) 0 := by
  unfold rvK
  rw [tab_getD _ (by omega), tab_getD _ (by omega), if_neg (by omega), if_neg (by omega)]
  exact ⟨rfl, rfl⟩
theorem rvK_step {zs : List Int} {k m : Nat} (hm : m = zs.length - 1 - k) (h : k < m) : ((rvK zs k).set k (zs.getD m 0)).set m (zs.getD k 0) = rvK zs (k + 1) := by
  subst hm
  unfold rvK
  rw [tab_set (g := fun x => if x < k + 1 ∨ zs.length ≤ x + k then zs.getD (zs.length - 1 - x) 0 else zs.getD x 0) (by rw [if_pos (by omega)]) (fun i hi hne => ?_)]
  · refine tab_set ?_ fun i hi hne => ?_
    · rw [if_pos (by omega)]
      congr 1
      omega
    · by_cases h1 : i < k + 1 ∨ zs.length ≤ i + k
      · rw [if_pos h1, if_pos (by omega)]
      · rw [if_neg h1, if_neg (by omega)]
  · by_cases h1 : i < k ∨ zs.length ≤ i + k
    · rw [if_pos h1, if_pos (by omega)]
    · rw [if_neg h1, if_neg (by omega)]
theorem rvK_all {zs : List Int} {k : Nat} (h : zs.length ≤ 2 * k + 1) : rvK zs k = zs.reverse := by
  refine List.ext_getElem? fun x => ?_
  by_cases hx : x < zs.length
  · unfold rvK
    rw [tab_get _ hx, List.getElem?_reverse hx, List.getElem?_eq_getElem (by omega)]
    congr 1
    rw [show zs[zs.length - 1 - x]'(by omega) = zs.getD (zs.length - 1 - x) 0 by rw [List.getD_eq_getElem?_getD, List.getElem?_eq_getElem (by omega)]; rfl]
    by_cases h1 : x < k ∨ zs.length ≤ x + k
    · rw [if_pos h1]
    · rw [if_neg h1]
      congr 1
      omega
  · rw [List.getElem?_eq_none (by rw [rvK_length]; omega), List.getElem?_eq_none (by rw [List.length_reverse]; omega)]
def RevP (w : World) (base g n c : Nat) (zs : List Int) (e : Ending) (w' : World) : Prop :=
  e = .returned (.tuple #[]) ∧ w'.ownsRow base 3 1 (.slice (some ⟨g, 0, none⟩) n c) n (zs.reverse.map iV) ∧ w.grownBy w' (some g)
set_option maxHeartbeats 2000000 in
theorem reverse_any (base g n c : Nat) (zs : List Int) (w : World) (hr : Hid (w.ownsRow base 3 1 (.slice (some ⟨g, 0, none⟩) n c) n (zs.map iV))) (hn : n ≤ 1000) :
    Calls Tryz.prog 136 #[.slice (some ⟨g, 0, none⟩) n c] w (RevP w base g n c zs) := by
  have HL := Lib.hid (show zs.length = n by have := hr.out.1; rw [List.length_map, Nat.mul_one] at this; exact this)
  go_enter Tryz.func136, Tryz.ntmps136
  go_wp2
  go_loopw [2, 3] (fun vi vj wr => ∃ (k : Nat) (j : Int), vi = .int .i64 (k : Int) ∧ vj = .int .i64 j ∧ j = (n : Int) - 1 - (k : Int) ∧ k ≤ n ∧ Hid (wr.ownsRow base 3 1 (.slice (some ⟨g, 0, none⟩) n c) n ((rvK zs k).map iV) ∧ w.grownBy wr (some g))) (fun vi _ _ => n - (intOf vi).toNat)
  case atStart => exact ⟨0, (n : Int) - 1, rfl, by go_num, by omega, by omega, Lib.hid ⟨by rw [rvK_zero]; exact hr.out, World.grownBy.refl _ _⟩⟩
  case round =>
    obtain ⟨k, j, rfl, rfl, hj, hk, HZ⟩ := hrel
    by_cases hlt : (k : Int) < j
    · obtain ⟨m, hm⟩ : ∃ m : Nat, m = n - 1 - k := ⟨_, rfl⟩
      obtain rfl : j = (m : Int) := by omega
      have hkm : k < m := by omega
      have hmn : m < n := by omega
      have hm2 : m = zs.length - 1 - k := by rw [HL.out]; exact hm
      obtain ⟨v1, v2⟩ := rvK_lo (zs := zs) (k := k) (by omega)
      rw [← hm2] at v2
      have c1 := own_cell HZ.out.1 (k := k) (by omega)
      have c2 := own_cell HZ.out.1 (k := m) (by omega)
      rw [v1] at c1
      rw [v2] at c2
      have HST := Lib.hid (rvK_step hm2 hkm)
      obtain ⟨x, hx⟩ : ∃ x, zs.getD k 0 = x := ⟨_, rfl⟩
      obtain ⟨y, hy⟩ : ∃ y, zs.getD m 0 = y := ⟨_, rfl⟩
      rw [hx] at c1 HST
      rw [hy] at c2 HST
      obtain ⟨d1, f1⟩ := c1
      obtain ⟨d2, f2⟩ := c2
      have hne : ¬ k = m := by omega
      have hne' : ¬ m = k := by omega
      have lk : (k : Int) < (n : Int) := by omega
      have lm : (m : Int) < (n : Int) := by omega
      have lk' : k < n := by omega
      have w1 : IntKind.i64.wrap ((m : Int) - 1) = (m : Int) - 1 := IntWalk.i64_in _ (by omega)
      have HM := Lib.hid hm
      clear hx hy v1 v2 hm2 hj hm
      go_wp2_with fail
      go_region
      all_goals
        clear d1 d2 f1 f2
        go_wp2
        go_roundw
        case rel =>
          refine ⟨k + 1, (m : Int) - 1, by go_num, rfl, by have := HM.out; omega, by omega, Lib.hid ⟨?_, ?_⟩⟩
          · rw [← HST.out]
            first
            | exact own_set (own_set HZ.out.1 k y) m x
            | exact row_belowN (own_set (own_set HZ.out.1 k y) m x) (Below.drew (Below.refl _ _))
            | (rw [List.set_comm _ _ hne]; exact own_set (own_set HZ.out.1 m x) k y)
            | (rw [List.set_comm _ _ hne]; exact row_belowN (own_set (own_set HZ.out.1 m x) k y) (Below.drew (Below.refl _ _)))
          · first
            | exact grown_trans HZ.out.2 (grown_trans (grown_set _ g _ _) (grown_set _ g _ _))
            | exact grown_trans HZ.out.2 (grown_trans (grown_trans (grown_set _ g _ _) (grown_set _ g _ _)) (only_of_below (Below.drew (Below.refl _ _)) _))
        case measure => simp [intOf]; omega
    · go_wp2
      exact bodyPost_end (results_none rfl _ _ _) rfl ⟨rfl, by rw [← rvK_all (k := k) (by rw [HL.out]; omega)]; exact HZ.out.1, HZ.out.2⟩
end Go.Proofs.YtgpdgegelipboaaGreatDoor.Lp
namespace Go.Proofs.YtgpdgegelipboaaGreatDoor.Lp
open Go.RowKit Fx Fq Tb
open Yr (smN smN_length)
def upK (M k : Nat) : List Int := tab M fun j => if j < k then (j : Int) + 1 else 0
def upN (m : Nat) : List Int := (List.range m).map fun (j : Nat) => (j : Int) + 1
theorem upK_length (M k : Nat) : (upK M k).length = M := tab_length _ _
theorem upK_zero (M : Nat) : upK M 0 = List.replicate M 0 := by
  refine (tab_congr (g := fun _ => 0) fun x hx => ?_).trans (tab_zero M)
  rw [if_neg (by omega)]
theorem upK_set {M k : Nat} : (upK M k).set k ((k : Int) + 1) = upK M (k + 1) := by
  unfold upK
  refine tab_set (by rw [if_pos (by omega)]) fun i hi hne => ?_
  by_cases h1 : i < k
  · rw [if_pos h1, if_pos (by omega)]
  · rw [if_neg h1, if_neg (by omega)]
theorem upK_all (M : Nat) : upK M M = upN M := by
  unfold upK upN tab
  refine List.map_congr_left fun j hj => ?_
  rw [if_pos (List.mem_range.1 hj)]
theorem upN_length (m : Nat) : (upN m).length = m := by simp [upN]
theorem upN_get {m j : Nat} (h : j < m) : (upN m)[j]? = some ((j : Int) + 1) := by
  unfold upN; rw [List.getElem?_map, List.getElem?_range h]; rfl
theorem upN_pre {m j : Nat} {x : Int} (h : (upN m)[j]? = some x) : (upN (m + 1))[j]? = some x := by
  have hj : j < m := by have := (List.getElem?_eq_some_iff.1 h).1; rwa [upN_length] at this
  rw [upN_get hj] at h
  rw [upN_get (by omega)]
  exact h
theorem hill_is (m : Nat) : upN (m + 1) ++ (upN m).reverse = smN m := by
  refine List.ext_getElem? fun j => ?_
  by_cases h1 : j < m + 1
  · rw [List.getElem?_append_left (by rw [upN_length]; exact h1), upN_get h1]
    unfold smN
    rw [List.getElem?_map, List.getElem?_range (by omega)]
    show some ((j : Int) + 1) = some ((m : Int) + 1 - max ((j : Int) - (m : Int)) ((m : Int) - (j : Int)))
    congr 1
    omega
  · rw [List.getElem?_append_right (by rw [upN_length]; omega), upN_length]
    by_cases h2 : j < 2 * m + 1
    · rw [List.getElem?_reverse (by rw [upN_length]; omega), upN_length, upN_get (by omega)]
      unfold smN
      rw [List.getElem?_map, List.getElem?_range h2]
      show _ = some ((m : Int) + 1 - max ((j : Int) - (m : Int)) ((m : Int) - (j : Int)))
      congr 1
      omega
    · rw [List.getElem?_eq_none (by rw [List.length_reverse, upN_length]; omega), List.getElem?_eq_none (by rw [smN_length]; omega)]
theorem rdI_up {w : World} {g m : Nat} (h : Blk w g 3 (icells (upN (m + 1)))) : RdI w (some ⟨g, 0, none⟩) m (upN m) :=
  ⟨upN_length m, fun _ => ⟨_, rfl, fun j x hx => by
    have h1 := upN_pre hx
    have h2 := (List.getElem?_eq_some_iff.1 h1).1
    rw [add_own, blk_at h h2, List.getD_eq_getElem?_getD, h1]
    rfl⟩⟩
def RowP (w : World) (n : Nat) (zs : List Int) (e : Ending) (w' : World) : Prop :=
  ∃ A c, e = .returned (.slice A n c) ∧ RdI w' A n zs ∧ Below w.heap.size w w'
set_option maxHeartbeats 2000000 in
theorem hill_any (m : Nat) (w : World) (h1 : 1 ≤ m) (hm : m ≤ 127) :
    Calls Tryz.prog 124 #[.int .i64 (m : Int)] w (RowP w (2 * m + 1) (smN m)) := by
  obtain ⟨i0, hi0, hz0, hz1, hz2⟩ := info_partsT info_intT
  obtain ⟨M, hM⟩ : ∃ M : Nat, M = m + 1 := ⟨_, rfl⟩
  have hmk : ∀ u : World, (Instr.makeSlice 33 (.int .i64 (M : Int)) (.int .i64 (M : Int))).run Tryz.prog u = .ok (.slice (some ⟨u.heap.size, 0, none⟩) M M) (u.alloc (.cells (madeCells #[.int .i64 0] M) 3)) := fun u =>
    run_make_row' (P := Tryz.prog) 33 3 (.int .i64 0) 8 Tryz.underlying33 info_int rfl .i64 .i64 M (by omega) (by omega) u
  have HB := Lib.hid (show Blk (w.alloc (.cells (madeCells #[.int .i64 0] M) 3)) w.heap.size 3 (icells (upK M 0)) by rw [upK_zero, icells_zero]; exact Blk.new w _ _)
  have HW := Lib.hid ((Below.refl w.heap.size w).alloc (Nat.le_refl _) (.cells (madeCells #[.int .i64 0] M) 3))
  have e1 : (m : Int) + 1 = (M : Int) := by omega
  have w1 : IntKind.i64.wrap (M : Int) = (M : Int) := IntWalk.i64_in _ (by omega)
  have HMM := Lib.hid hM
  have hM2 : M ≤ 128 := by omega
  have hM3 : m < M := by omega
  clear hM
  go_enter Tryz.func124, Tryz.ntmps124
  go_wp2
  clear hmk
  generalize w.alloc (.cells (madeCells #[.int .i64 0] M) 3) = w0 at HB HW ⊢
  obtain ⟨g, hg⟩ : ∃ g, g = w.heap.size := ⟨_, rfl⟩
  rw [← hg] at HB ⊢
  have HG := Lib.hid hg
  clear hg
  go_loopw [4, 11] (fun _ vk wr => ∃ k : Nat, vk = .int .i64 (k : Int) ∧ k ≤ M ∧ Hid (Blk wr g 3 (icells (upK M k)) ∧ Below w.heap.size w wr)) (fun _ vk _ => M - (intOf vk).toNat)
  case atStart => exact ⟨0, rfl, by omega, Lib.hid ⟨HB.out, HW.out⟩⟩
  case round =>
    obtain ⟨k, rfl, hk, HZ⟩ := hrel
    clear HB HW
    by_cases hlt : k < M
    · have kM : (k : Int) < (M : Int) := by omega
      have c1 := blk_at HZ.out.1 (i := k) (by rw [upK_length]; exact hlt)
      have f1 := Blk.frozen HZ.out.1 k
      have w3 : IntKind.i64.wrap ((k : Int) + 1) = (k : Int) + 1 := IntWalk.i64_in _ (by omega)
      go_wp2
      clear c1 f1
      go_roundw
      case rel =>
        refine ⟨k + 1, by go_num, by omega, Lib.hid ⟨?_, HZ.out.2.setCell (by rw [HG.out]; exact Nat.le_refl _) _⟩⟩
        rw [← upK_set]
        exact blk_put HZ.out.1 k _
      case measure => simp [intOf]; omega
    · have kM : ¬ (k : Int) < (M : Int) := by omega
      obtain rfl : k = M := by omega
      have HB2 := Lib.hid (show Blk wr g 3 (icells (upN (m + 1))) by have h := HZ.out.1; rw [upK_all, HMM.out] at h; exact h)
      have HR2 := Lib.hid (rdI_up HB2.out)
      have HW2 := Lib.hid HZ.out.2
      have b1 : (m : Int) ≤ (k : Int) := by omega
      have b0 : (0 : Int) ≤ (m : Int) := by omega
      clear HZ w1 e1
      go_wp2_with fail
      refine (clone_any ⟨g, 0, none⟩ m _ (upN m) wr HR2 h1 (by omega)).mono ?_
      rintro e w3 ⟨g3, c3, rfl, hg3, ho3, hb3⟩
      have HG3 := Lib.hid (show g < w3.heap.size ∧ g < g3 from ⟨Nat.lt_of_lt_of_le HB2.out.lt hb3.size, Nat.lt_of_lt_of_le HB2.out.lt hg3⟩)
      have HB3 := Lib.hid (HB2.out.below hb3 HB2.out.lt)
      have HO3 := Lib.hid ho3
      have HW3 := Lib.hid (HW2.out.trans (hb3.mono HW2.out.size))
      clear hg3 ho3 hb3 HB2 HR2
      go_wp2_with fail
      refine (reverse_any _ g3 m c3 (upN m) w3 HO3 (by omega)).mono ?_
      rintro e w4 ⟨rfl, ho4, hg4⟩
      have HB4 := Lib.hid (HB3.out.only hg4 (fun e => by have := HG3.out.2; omega))
      have HO4 := Lib.hid ho4
      have HW4 := Lib.hid (HW3.out.grown hg4 HW3.out.size (fun k hk => by injection hk with hk; have := HG3.out.2; have := HG.out; omega))
      obtain ⟨A5, c5, hA, hr5⟩ := own_rdI (zs := (upN m).reverse) HO4.out
      injection hA with hA1 hA2 hA3
      subst hA1 hA3
      have HR5 := Lib.hid hr5
      have HLN := Lib.hid (show ((upN m).reverse.map iV).length = m * 1 by rw [List.length_map, List.length_reverse, upN_length, Nat.mul_one])
      have HOB := Lib.hid (own_blkI (n := k) (B := w.heap.size) HB4.out (by rw [upN_length]; exact HMM.out.symm) (by rw [HG.out]; exact Nat.le_refl _) (by unfold maxLen; omega))
      clear hr5 ho4 hg4 HB3 HO3 HW3 HW2
      go_wp2_with (at_builtin; refine wpList_append_own_at _ rfl (.tmp 26) (.tmp 27) 33 rfl w.heap.size 3 i0 _ 1 8 Tryz.underlying33 hi0 hz0 hz1 hz2 rfl (by omega) _ k _ rfl HOB.out ⟨g3, 0, none⟩ m c3 ((upN m).reverse.map iV) rfl HLN.out (fun j u hu => by (rw [List.getElem?_map] at hu; obtain ⟨x, hx, rfl⟩ := Option.map_eq_some_iff.1 hu; obtain ⟨ad', e, hc⟩ := HR5.out.2 (by omega); injection e with e; subst e; exact hc j x hx)) (iV_one _) (by unfold maxLen; omega) (by omega) HW4.out.size ?_; intro va w6 ho6 hg6 _ _; rw [← List.map_append, hill_is] at ho6; have HO6 := Lib.hid ho6; have HW6 := Lib.hid (HW4.out.grown (show World.grownBy _ w6 (some g) from hg6) HW4.out.size (fun k hk => by injection hk with hk; have := HG.out; omega)); clear ho6 hg6)
      obtain ⟨A6, c6, hv6, hr6⟩ := own_rdI HO6.out
      subst hv6
      have e6 : k + m = 2 * m + 1 := by have := HMM.out; omega
      rw [e6] at hr6 ⊢
      go_ret
      exact ⟨A6, c6, rfl, hr6, HW6.out⟩
end Go.Proofs.YtgpdgegelipboaaGreatDoor.Lp
namespace Go.Proofs.YtgpdgegelipboaaGreatDoor.Lp
open Go.RowKit Fx Fq Tb
open Yr (Stp kT cT lT smT smN smN_ok smN_length kT_ok cT_ok lT_ok smT_ok tabK)
theorem MV.addF {w0 w1 w : World} {L : List Ent} {g : Nat} {T : TypeId} {cs : Array Value} (h : MV w0 w1 L w) (hb : Blk w g T cs) (hB : w0.heap.size ≤ g) (hn : ∀ e ∈ L, e.1 < g) : MV w0 w ((g, T, cs) :: L) w := by
  refine ⟨h.1, fun e he => ?_, fun e he => ?_, .cons (fun e he => Nat.ne_of_gt (hn e he)) h.2.2.2.1, MF.refl _ _⟩
  · rcases List.mem_cons.1 he with rfl | he
    · exact hb
    · exact h.2.1 e he
  · rcases List.mem_cons.1 he with rfl | he
    · exact hB
    · exact h.2.2.1 e he
def TelR {S : Type} (w0 : World) (Inv : S → List Ent → World → Prop) (K : List Ent) (o : Option S) (e : Ending) (u : World) : Prop :=
  match o with
  | some s => e = .returned (.int .i64 0) ∧ Inv s K u
  | none => ∃ E : Int, (E == 0) = false ∧ e = .returned (.int .i64 E) ∧ Below w0.heap.size w0 u
structure TelOk {S : Type} (w0 : World) (g : Nat) (fs lb : Array Value) (gF N : Nat) (TF : TypeId) (st : Stp S) (fr : S → List Int) (pos : S → Nat) (Inv : S → List Ent → World → Prop) : Prop where
  enters : ∀ (args : Array Value) (u : World), (callFunc g args).run Tryz.prog u = .ok (.enter g args) u
  add : ∀ {s K u u' L}, Inv s K u → Below u.heap.size u u' → (∀ e ∈ L, u.heap.size ≤ e.1 ∧ Blk u' e.1 e.2.1 e.2.2) → Inv s (L ++ K) u'
  sub : ∀ {s K K' u}, Inv s K u → K'.Sublist K → Inv s K' u
  get : ∀ {s K u e}, Inv s K u → e ∈ K → Blk u e.1 e.2.1 e.2.2
  row : ∀ {s K u}, Inv s K u → Blk u gF TF (icells (fr s)) ∧ (fr s).length = N ∧ Below w0.heap.size w0 u
  keeps : ∀ {s xs i fst s'}, st s xs i fst = some s' → ∀ j, j ≠ i → (fr s').getD j 0 = (fr s).getD j 0
  fwd : ∀ {s xs i fst s'}, pos s ≤ i → st s xs i fst = some s' → pos s' ≤ i + 1
  tells : ∀ (s : S) (K : List Ent) (u : World) (gt : Nat) (xs : List Int) (i : Nat) (fst : Int), Inv s K u → (gt, 3, icells xs) ∈ K → okF xs = true → xs.length ≤ 300 → i < N → -1000 ≤ fst → fst ≤ 1000 → pos s ≤ i →
    Calls Tryz.prog g (fs ++ (#[.agg #[.slice (some ⟨gt, 0, none⟩) xs.length xs.length], .pointer (some ⟨gF, i, none⟩), .int .i64 fst] ++ lb)) u (TelR w0 Inv K (st s xs i fst))
section
variable {S : Type} {w0 : World} {g : Nat} {fs lb : Array Value} {gF N : Nat} {TF : TypeId} {st : Stp S} {fr : S → List Int} {pos : S → Nat} {Inv : S → List Ent → World → Prop}
theorem TelOk.mv (h : TelOk w0 g fs lb gF N TF st fr pos Inv) {s : S} {K : List Ent} {u w1 u' : World} {L : List Ent} (hi : Inv s K u) (hm : MV u w1 L u') : Inv s (L ++ K) u' :=
  h.add hi hm.1 fun e he => ⟨hm.2.2.1 e he, hm.2.1 e he⟩
theorem TelOk.next (h : TelOk w0 g fs lb gF N TF st fr pos Inv) {s : S} {K : List Ent} {u u' : World} (hi : Inv s K u) (hb : Below u.heap.size u u') : Inv s K u' :=
  h.add (L := []) hi hb fun e he => absurd he (by simp)
theorem TelR.sub (h : TelOk w0 g fs lb gF N TF st fr pos Inv) {K K' : List Ent} {o : Option S} {e : Ending} {u : World} (hr : TelR w0 Inv K o e u) (hs : K'.Sublist K) : TelR w0 Inv K' o e u := by
  cases o with
  | none => exact hr
  | some s => exact ⟨hr.1, h.sub hr.2 hs⟩
theorem TelOk.go (h : TelOk w0 g fs lb gF N TF st fr pos Inv) {s : S} {K L : List Ent} {w w1 u : World} (hi : Inv s K w) (hm : MV w w1 L u) {gt n : Nat} {xs : List Int} (hin : (gt, 3, icells xs) ∈ L) (hn : xs.length = n) (ho : okF xs = true) (hl : n ≤ 300) (i : Nat) (fst : Int) (hN : i < N) (h1 : -1000 ≤ fst) (h2 : fst ≤ 1000) (h3 : pos s ≤ i) :
    Calls Tryz.prog g (fs ++ (#[.agg #[.slice (some ⟨gt, 0, none⟩) n n], .pointer (some ⟨gF, i, none⟩), .int .i64 fst] ++ lb)) u (TelR w0 Inv K (st s xs i fst)) := by
  subst hn
  exact (h.tells s (L ++ K) u gt xs i fst (h.mv hi hm) (List.mem_append_left K hin) ho hl hN h1 h2 h3).mono fun e u' hr => hr.sub h (List.sublist_append_right L K)
theorem new_tab {w w1 u u' : World} {L : List Ent} {gt : Nat} {xs : List Int} (hm : MV w w1 L u) (hg : u.heap.size ≤ gt) (hb : Below u.heap.size u u') (hx : Blk u' gt 3 (icells xs)) : MV w u' ((gt, 3, icells xs) :: L) u' :=
  (hm.below hb).addF hx (Nat.le_trans hm.1.size hg) fun e he => Nat.lt_of_lt_of_le (hm.2.1 e he).lt hg
set_option maxHeartbeats 2000000 in
theorem tkind_any (s : S) (K : List Ent) (w : World) (hT : Hid (TelOk w0 g fs lb gF N TF st fr pos Inv)) (hi : Hid (Inv s K w)) (hN : 0 < N) (hp : pos s ≤ 0) :
    Calls Tryz.prog 55 #[.pointer (some ⟨gF, 0, none⟩), .func (.func g) fs lb] w (TelR w0 Inv K (st s kT 0 0)) := by
  have eg := hT.out.enters
  have HM := Lib.hid (MV.start w)
  have hl : kT.length = 4 := by decide +kernel
  have HC := Lib.hid (fun (L : List Ent) (w1 u : World) (gt : Nat) (hm : MV w w1 L u) (hin : (gt, 3, icells kT) ∈ L) => hT.out.go hi.out hm hin hl kT_ok (by omega) 0 0 hN (by omega) (by omega) hp)
  generalize st s kT 0 0 = o at HC ⊢
  go_enter Tryz.func55, Tryz.ntmps55
  go_wp2_with (first | ((first | refine wv_box rfl _ _ rfl rfl HM ?_ | refine wv_alloc rfl _ rfl (by exact rowOf) HM ?_); first | (have q:dV HM = 0:=rfl;clear q HM;intro g1 u1 HG1 HM) | (have q:dV HM = 1:=rfl;clear q HM;intro g2 u2 HG2 HM) | (have q:dV HM = 2:=rfl;clear q HM;intro g3 u3 HG3 HM) | (have q:dV HM = 3:=rfl;clear q HM;intro g4 u4 HG4 HM)) | (refine wv_load rfl _ _ rfl rfl (by exact rowOf) HM (by exact vmemOf) (by exact vsizOf) ?_) | (refine wv_store rfl _ _ _ rfl rfl rfl (by exact rowOf) HM (by exact vidxOf) (by exact vsizOf) (by exact vsizOf) (by exact voneOf) ?_; clear HM; intro us HM; dsimp only [List.set] at HM) | (refine wl_zero rfl _ rfl (by exact arrOf) (by kernel_rfl) ?_))
  have HM1 := Lib.hid (HM.out.skip (.cells #[.int .i64 6, .int .i64 9, .int .i64 1] 3))
  have HR1 := Lib.hid (show RdI (w.alloc (.cells #[.int .i64 6, .int .i64 9, .int .i64 1] 3)) (some ⟨w.heap.size, 0, none⟩) 3 Yr.kindN from RdI.of_blk (t := 3) (zs := Yr.kindN) (Blk.new w _ _) rfl)
  clear HM
  generalize w.alloc (.cells #[.int .i64 6, .int .i64 9, .int .i64 1] 3) = w1 at HR1 HM1 ⊢
  refine (new_ok _ 3 3 Yr.kindN w1 HR1 (by decide +kernel)).mono ?_
  rintro e w2 ⟨gt, rfl, hg, hx, hb⟩
  have HM := Lib.hid (new_tab HM1.out hg hb hx)
  rw [show acc Yr.kindN = kT from rfl] at HM ⊢
  rw [hl]
  unfold freqV
  clear HM1 HR1 hg hb hx
  go_wp2_with (first | ((first | refine wv_box rfl _ _ rfl rfl HM ?_ | refine wv_alloc rfl _ rfl (by exact rowOf) HM ?_); first | (have q:dV HM = 0:=rfl;clear q HM;intro g1 u1 HG1 HM) | (have q:dV HM = 1:=rfl;clear q HM;intro g2 u2 HG2 HM) | (have q:dV HM = 2:=rfl;clear q HM;intro g3 u3 HG3 HM) | (have q:dV HM = 3:=rfl;clear q HM;intro g4 u4 HG4 HM)) | (refine wv_load rfl _ _ rfl rfl (by exact rowOf) HM (by exact vmemOf) (by exact vsizOf) ?_) | (refine wv_store rfl _ _ _ rfl rfl rfl (by exact rowOf) HM (by exact vidxOf) (by exact vsizOf) (by exact vsizOf) (by exact voneOf) ?_; clear HM; intro us HM; dsimp only [List.set] at HM) | (refine wl_zero rfl _ rfl (by exact arrOf) (by kernel_rfl) ?_))
  have HC2 := Lib.hid (HC.out _ _ us gt HM.out (.tail _ (.head _)))
  clear HM HC hl
  cases o with
  | some s' =>
    refine HC2.out.mono ?_
    intro e u hr
    have HR := Lib.hid hr
    obtain ⟨rfl, -⟩ := hr
    clear HC2
    go_wp2
    go_ret
    exact HR.out
  | none =>
    refine HC2.out.mono ?_
    intro e u hr
    have HR := Lib.hid hr
    obtain ⟨E, -, rfl, -⟩ := hr
    clear HC2
    go_wp2
    go_ret
    exact HR.out
end
end Go.Proofs.YtgpdgegelipboaaGreatDoor.Lp
namespace Go.Proofs.YtgpdgegelipboaaGreatDoor.Lp
open Go.RowKit Fx Fq Tb
open Yr (Stp kT cT lT smT smN smN_ok smN_length kT_ok cT_ok lT_ok smT_ok tabK lvT lvA lvT_step lvT_no)
def LtP (w : World) (xs : List Int) (fst : Int) (e : Ending) (w' : World) : Prop :=
  ∃ gt n, e = .returned (.tuple #[.agg #[.slice (some ⟨gt, 0, none⟩) n n], .int .i64 fst, .int .i64 0]) ∧ xs.length = n ∧ w.heap.size ≤ gt ∧ Blk w' gt 3 (icells xs) ∧ Below w.heap.size w w'
set_option maxHeartbeats 4000000 in
theorem ltab_one (a : Int) (w : World) (h0 : 0 ≤ a) (h1 : a ≤ 255) :
    Calls Tryz.prog 92 #[.int .i64 1, .int .i64 a] w (LtP w cT (a - 8)) := by
  have HM := Lib.hid (MV.start w)
  have w1 : IntKind.i64.wrap (a - 8) = a - 8 := i64_w (by omega) (by omega)
  have hl : cT.length = 17 := by decide +kernel
  go_enter Tryz.func92, Tryz.ntmps92
  go_wp2_with (first | ((first | refine wv_box rfl _ _ rfl rfl HM ?_ | refine wv_alloc rfl _ rfl (by exact rowOf) HM ?_); first | (have q:dV HM = 0:=rfl;clear q HM;intro g1 u1 HG1 HM) | (have q:dV HM = 1:=rfl;clear q HM;intro g2 u2 HG2 HM) | (have q:dV HM = 2:=rfl;clear q HM;intro g3 u3 HG3 HM) | (have q:dV HM = 3:=rfl;clear q HM;intro g4 u4 HG4 HM)) | (refine wv_load rfl _ _ rfl rfl (by exact rowOf) HM (by exact vmemOf) (by exact vsizOf) ?_) | (refine wv_store rfl _ _ _ rfl rfl rfl (by exact rowOf) HM (by exact vidxOf) (by exact vsizOf) (by exact vsizOf) (by exact voneOf) ?_; clear HM; intro us HM; dsimp only [List.set] at HM) | (refine wl_zero rfl _ rfl (by exact arrOf) (by kernel_rfl) ?_))
  have HM1 := Lib.hid (HM.out.skip (.cells #[.int .i64 1, .int .i64 1, .int .i64 2, .int .i64 3, .int .i64 5, .int .i64 9, .int .i64 16, .int .i64 30, .int .i64 60, .int .i64 30, .int .i64 16, .int .i64 9, .int .i64 5, .int .i64 3, .int .i64 2, .int .i64 1] 3))
  have HR1 := Lib.hid (show RdI (u1.alloc (.cells #[.int .i64 1, .int .i64 1, .int .i64 2, .int .i64 3, .int .i64 5, .int .i64 9, .int .i64 16, .int .i64 30, .int .i64 60, .int .i64 30, .int .i64 16, .int .i64 9, .int .i64 5, .int .i64 3, .int .i64 2, .int .i64 1] 3)) (some ⟨u1.heap.size, 0, none⟩) 16 Yr.chgN from RdI.of_blk (t := 3) (zs := Yr.chgN) (Blk.new u1 _ _) rfl)
  clear HM
  generalize u1.alloc (.cells #[.int .i64 1, .int .i64 1, .int .i64 2, .int .i64 3, .int .i64 5, .int .i64 9, .int .i64 16, .int .i64 30, .int .i64 60, .int .i64 30, .int .i64 16, .int .i64 9, .int .i64 5, .int .i64 3, .int .i64 2, .int .i64 1] 3) = w1 at HR1 HM1 ⊢
  refine (new_ok _ 16 16 Yr.chgN w1 HR1 (by decide +kernel)).mono ?_
  rintro e w2 ⟨gt, rfl, hg, hx, hb⟩
  have HM := Lib.hid (new_tab HM1.out hg hb hx)
  have HGT := Lib.hid (Nat.le_trans HM1.out.1.size hg)
  rw [show acc Yr.chgN = cT from rfl] at HM ⊢
  rw [hl]
  unfold freqV
  clear HM1 HR1 hg hb hx
  go_wp2_with (first | ((first | refine wv_box rfl _ _ rfl rfl HM ?_ | refine wv_alloc rfl _ rfl (by exact rowOf) HM ?_); first | (have q:dV HM = 0:=rfl;clear q HM;intro g1 u1 HG1 HM) | (have q:dV HM = 1:=rfl;clear q HM;intro g2 u2 HG2 HM) | (have q:dV HM = 2:=rfl;clear q HM;intro g3 u3 HG3 HM) | (have q:dV HM = 3:=rfl;clear q HM;intro g4 u4 HG4 HM)) | (refine wv_load rfl _ _ rfl rfl (by exact rowOf) HM (by exact vmemOf) (by exact vsizOf) ?_) | (refine wv_store rfl _ _ _ rfl rfl rfl (by exact rowOf) HM (by exact vidxOf) (by exact vsizOf) (by exact vsizOf) (by exact voneOf) ?_; clear HM; intro us HM; dsimp only [List.set] at HM) | (refine wl_zero rfl _ rfl (by exact arrOf) (by kernel_rfl) ?_))
  have c0 := HM.out.cell (k := 0) (v := .slice (some ⟨gt, 0, none⟩) 17 17) (by exact vmemOf (e := (g1, 40, #[.slice (some ⟨gt, 0, none⟩) 17 17]))) rfl
  refine bodyPost_ret (v := .tuple #[.agg #[.slice (some ⟨gt, 0, none⟩) 17 17], .int .i64 (a - 8), .int .i64 0]) (by simp [results, Tryz.results92, go_sem, c0]) rfl ⟨gt, 17, rfl, hl, HGT.out, HM.out.get (by exact vmemOf), HM.out.1⟩
set_option maxHeartbeats 4000000 in
theorem ltab_not (K a : Int) (w : World) (hK : ¬ K = 1) :
    Calls Tryz.prog 92 #[.int .i64 K, .int .i64 a] w (LtP w lT 0) := by
  have HM := Lib.hid (MV.start w)
  have a1 : (K == 1) = false := by simpa using hK
  have hl : lT.length = 257 := by decide +kernel
  clear hK
  go_enter Tryz.func92, Tryz.ntmps92
  go_wp2_with (first | ((first | refine wv_box rfl _ _ rfl rfl HM ?_ | refine wv_alloc rfl _ rfl (by exact rowOf) HM ?_); first | (have q:dV HM = 0:=rfl;clear q HM;intro g1 u1 HG1 HM) | (have q:dV HM = 1:=rfl;clear q HM;intro g2 u2 HG2 HM) | (have q:dV HM = 2:=rfl;clear q HM;intro g3 u3 HG3 HM) | (have q:dV HM = 3:=rfl;clear q HM;intro g4 u4 HG4 HM)) | (refine wv_load rfl _ _ rfl rfl (by exact rowOf) HM (by exact vmemOf) (by exact vsizOf) ?_) | (refine wv_store rfl _ _ _ rfl rfl rfl (by exact rowOf) HM (by exact vidxOf) (by exact vsizOf) (by exact vsizOf) (by exact voneOf) ?_; clear HM; intro us HM; dsimp only [List.set] at HM) | (refine wl_zero rfl _ rfl (by exact arrOf) (by kernel_rfl) ?_))
  refine (even_ok 256 _ (by omega) (by omega)).mono ?_
  rintro e w2 ⟨gt, rfl, hg, hx, hb⟩
  have HGT := Lib.hid (Nat.le_trans HM.out.1.size hg)
  have HM2 := Lib.hid (new_tab HM.out hg hb hx)
  clear HM hg hb hx
  have HM := HM2
  clear HM2
  rw [show acc (List.replicate 256 1) = lT from rfl] at HM ⊢
  rw [hl]
  unfold freqV
  go_wp2_with (first | ((first | refine wv_box rfl _ _ rfl rfl HM ?_ | refine wv_alloc rfl _ rfl (by exact rowOf) HM ?_); first | (have q:dV HM = 0:=rfl;clear q HM;intro g1 u1 HG1 HM) | (have q:dV HM = 1:=rfl;clear q HM;intro g2 u2 HG2 HM) | (have q:dV HM = 2:=rfl;clear q HM;intro g3 u3 HG3 HM) | (have q:dV HM = 3:=rfl;clear q HM;intro g4 u4 HG4 HM)) | (refine wv_load rfl _ _ rfl rfl (by exact rowOf) HM (by exact vmemOf) (by exact vsizOf) ?_) | (refine wv_store rfl _ _ _ rfl rfl rfl (by exact rowOf) HM (by exact vidxOf) (by exact vsizOf) (by exact vsizOf) (by exact voneOf) ?_; clear HM; intro us HM; dsimp only [List.set] at HM) | (refine wl_zero rfl _ rfl (by exact arrOf) (by kernel_rfl) ?_))
  have c0 := HM.out.cell (k := 0) (v := .slice (some ⟨gt, 0, none⟩) 257 257) (by exact vmemOf (e := (g1, 40, #[.slice (some ⟨gt, 0, none⟩) 257 257]))) rfl
  refine bodyPost_ret (v := .tuple #[.agg #[.slice (some ⟨gt, 0, none⟩) 257 257], .int .i64 0, .int .i64 0]) (by simp [results, Tryz.results92, go_sem, c0]) rfl ⟨gt, 257, rfl, hl, HGT.out, HM.out.get (by exact vmemOf), HM.out.1⟩
theorem ltab_any (K a : Int) (w : World) (h0 : 0 ≤ a) (h1 : a ≤ 255) :
    Calls Tryz.prog 92 #[.int .i64 K, .int .i64 a] w (LtP w (tabK K) (if K = 1 then a - 8 else 0)) := by
  unfold tabK
  by_cases h : K = 1
  · subst h
    rw [if_pos rfl, if_pos rfl]
    exact ltab_one a w h0 h1
  · rw [if_neg h, if_neg h]
    exact ltab_not K a w h
theorem tabK_ok (K : Int) : okF (tabK K) = true ∧ (tabK K).length ≤ 300 := by
  unfold tabK
  split
  · exact ⟨cT_ok, by rw [show cT.length = 17 by decide +kernel]; omega⟩
  · exact ⟨lT_ok, by rw [show lT.length = 257 by decide +kernel]; omega⟩
end Go.Proofs.YtgpdgegelipboaaGreatDoor.Lp
namespace Go.Proofs.YtgpdgegelipboaaGreatDoor.Lp
open Go.RowKit Fx Fq Tb
open Yr (Stp kT cT lT smT smN smN_ok smN_length kT_ok cT_ok lT_ok smT_ok tabK lvT lvA lvT_step lvT_no)
def FrQ (gF gP : Nat) (F p : List Int) (u : World) : Prop := Blk u gF 26 (icells F) ∧ Blk u gP 23 (icells p)
section
variable {S : Type} {w0 : World} {g : Nat} {fs lb : Array Value} {gF : Nat} {st : Stp S} {fr : S → List Int} {pos : S → Nat} {Inv : S → List Ent → World → Prop}
theorem TelOk.frq (h : TelOk w0 g fs lb gF 23 26 st fr pos Inv) {s : S} {gP : Nat} {p : List Int} {K L : List Ent} {w w1 u : World} (hi : Inv s ((gP, 23, icells p) :: K) w) (hm : MV w w1 L u) : FrQ gF gP (fr s) p u :=
  ⟨(h.row (h.next hi hm.1)).1, h.get (h.next hi hm.1) (.head _)⟩
set_option maxHeartbeats 8000000 in
theorem tlev_any (s : S) (KK : List Ent) (w : World) (p : List Int) (hT : Hid (TelOk w0 g fs lb gF 23 26 st fr pos Inv)) (hi : Hid (Inv s KK w)) (lp : p.length = 6) (hp : chkL p = true) (hpo : pos s ≤ 1) :
    Calls Tryz.prog 56 #[.pointer (some ⟨gF, 0, none⟩), .agg (icells p), .func (.func g) fs lb] w (TelR w0 Inv KK (lvA st fr p s)) := by
  have eg := hT.out.enters
  have LP := Lib.hid lp
  have HP := Lib.hid hp
  obtain ⟨Kd, hKd⟩ : ∃ Kd, Kd = (fr s).getD 0 0 := ⟨_, rfl⟩
  have HKD := Lib.hid hKd.symm
  have HRO := Lib.hid (show lvT st Kd p (6 - 0) s = lvA st fr p s by rw [hKd]; rfl)
  generalize lvA st fr p s = o at HRO ⊢
  have HM := Lib.hid (MV.start w)
  clear lp hp hKd
  go_enter Tryz.func56, Tryz.ntmps56
  go_wp2_with (first | ((first | refine wv_box rfl _ _ rfl rfl HM ?_ | refine wv_alloc rfl _ rfl (by exact rowOf) HM ?_); first | (have q:dV HM = 0:=rfl;clear q HM;intro g1 u1 HG1 HM) | (have q:dV HM = 1:=rfl;clear q HM;intro g2 u2 HG2 HM) | (have q:dV HM = 2:=rfl;clear q HM;intro g3 u3 HG3 HM) | (have q:dV HM = 3:=rfl;clear q HM;intro g4 u4 HG4 HM) | (have q:dV HM = 4:=rfl;clear q HM;intro g5 u5 HG5 HM) | (have q:dV HM = 5:=rfl;clear q HM;intro g6 u6 HG6 HM) | (have q:dV HM = 6:=rfl;clear q HM;intro g7 u7 HG7 HM) | (have q:dV HM = 7:=rfl;clear q HM;intro g8 u8 HG8 HM) | (have q:dV HM = 8:=rfl;clear q HM;intro g9 u9 HG9 HM)) | (refine wv_load rfl _ _ rfl rfl (by exact rowOf) HM (by exact vmemOf) (by exact vsizOf) ?_) | (refine wv_store rfl _ _ _ rfl rfl rfl (by exact rowOf) HM (by exact vidxOf) (by exact vsizOf) (by exact vsizOf) (by exact voneOf) ?_; clear HM; intro us HM; dsimp only [List.set] at HM) | (refine wl_zero rfl _ rfl (by exact arrOf) (by kernel_rfl) ?_))
  obtain ⟨gP, hgP⟩ : ∃ gP, gP = g1 := ⟨_, rfl⟩
  subst hgP
  have HI0 := Lib.hid (hT.out.mv hi.out HM.out)
  clear HM hi
  go_loopw [12] (fun vi wr => ∃ (k : Nat) (s' : S), vi = .int .i64 (k : Int) ∧ k ≤ 6 ∧ pos s' ≤ 1 + k ∧ Hid (Inv s' ((gP, 23, icells p) :: KK) wr) ∧ Hid ((fr s').getD 0 0 = Kd) ∧ Hid (lvT st Kd p (6 - k) s' = o)) (fun vi _ => 6 - (intOf vi).toNat)
  case atStart => exact ⟨0, s, rfl, by omega, hpo, HI0, HKD, HRO⟩
  case round =>
    clear HI0 HKD HRO
    obtain ⟨k, s', rfl, hk, hpk, HI, HKD, HRO⟩ := hrel
    by_cases hlt : k < 6
    · have k6 : (k : Int) < 6 := by omega
      have HM := Lib.hid ((MV.start wr).drew)
      have HF := Lib.hid (fun (L : List Ent) (w1 u : World) (hm : MV wr w1 L u) => hT.out.frq HI.out hm)
      have HLF := Lib.hid (hT.out.row HI.out).2.1
      have HC1 := Lib.hid (fun u (hu : FrQ gF gP (fr s') p u) => (blk_at hu.1 (i := 0) (by rw [HLF.out]; decide)).trans (by rw [HKD.out] : _ = some (Value.int .i64 Kd)))
      have HC2 := Lib.hid (fun u (hu : FrQ gF gP (fr s') p u) => blk_at hu.2 (i := k) (by rw [LP.out]; exact hlt))
      obtain ⟨y1, y2⟩ := inR_bd HP.out (by omega) (by omega) k
      obtain ⟨a, ha⟩ : ∃ a, p.getD k 0 = a := ⟨_, rfl⟩
      rw [ha] at HC2 y1 y2
      obtain ⟨fst, hfst⟩ : ∃ fst, fst = (if Kd = 1 then a - 8 else 0) := ⟨_, rfl⟩
      have f1 : -1000 ≤ fst ∧ fst ≤ 1000 := by rw [hfst]; split <;> omega
      have HLT := Lib.hid (fun u => ltab_any Kd a u y1 y2)
      rw [← hfst] at HLT
      have HFST := Lib.hid (show (if Kd = 1 then p.getD k 0 - 8 else 0) = fst by rw [ha, hfst])
      have HTK := Lib.hid (tabK_ok Kd)
      generalize hxs : tabK Kd = xs at HLT HTK
      have HXS := Lib.hid hxs
      clear hxs ha hfst
      go_wp2_with fail
      refine wp_region_held_drew (S := FrQ gF gP (fr s') p) (by kernel_rfl) (HF.out _ _ _ HM.out) (fun hHeld => ?_)
      generalize World.drew _ = wd at HM hHeld ⊢
      (refine wa_take (i := 0) rfl (by kernel_rfl) (by kernel_rfl) (by kernel_rfl) (fun _ _ _ h => h) (yi_free rfl (fun u => rfl)) hHeld rfl ?_; (try simp only [Act.put, qz1, qz2, qz3]))
      (refine wa_take (i := 1) rfl (by kernel_rfl) (by kernel_rfl) (by kernel_rfl) (fun _ _ _ h => h) (yi_free rfl (fun u => rfl)) hHeld rfl ?_; (try simp only [Act.put, qz1, qz2, qz3]))
      (refine wa_take (i := 2) (v := .pointer (some ⟨gF, 0, none⟩)) rfl (by kernel_rfl) (by kernel_rfl) (by kernel_rfl) (fun _ _ _ h => h) (yi_free rfl (fun u => by go_simp)) hHeld rfl ?_; (try simp only [Act.put, qz1, qz2, qz3]))
      (refine wa_take (i := 3) rfl (by kernel_rfl) (by kernel_rfl) (by kernel_rfl) (fun _ _ _ h => h) (yi_cell rfl _ rfl rfl (HC1).out) hHeld rfl ?_; (try simp only [Act.put, qz1, qz2, qz3]))
      (refine wa_take (i := 4) rfl (by kernel_rfl) (by kernel_rfl) (by kernel_rfl) (fun _ _ _ h => h) (yi_free rfl (fun u => rfl)) hHeld rfl ?_; (try simp only [Act.put, qz1, qz2, qz3]))
      (refine wa_take (i := 5) (v := .pointer (some ⟨gP, k, none⟩)) rfl (by kernel_rfl) (by kernel_rfl) (by kernel_rfl) (fun _ _ _ h => h) (yi_free rfl (fun u => by go_simp)) hHeld rfl ?_; (try simp only [Act.put, qz1, qz2, qz3]))
      (refine wa_take (i := 6) rfl (by kernel_rfl) (by kernel_rfl) (by kernel_rfl) (fun _ _ _ h => h) (yi_cell rfl _ rfl rfl (HC2).out) hHeld rfl ?_; (try simp only [Act.put, qz1, qz2, qz3]))
      refine wpAnyH_ready (rs := [7, 12]) (by kernel_rfl) (by simp) ?_; refine AllReadyH.cons rfl (fun K hK => ?_) (AllReadyH.cons rfl (fun K hK => ?_) (AllReadyH.nil))
      rotate_left
      focus
        rw [if_pos (by rfl)]
        refine ov_alloc _ rfl rfl (by exact rowOf) HM ?_
        intro g8 w5 HM5 HW5 _
        clear HM hHeld
        have HM := HM5
        clear HM5 HW5
        refine hK.out _ _ (HF.out _ _ _ HM.out) (fun hHeld => ?_)
        clear hK K
        (try simp only [Act.put, qz1, qz2, qz3])
        refine wpAnyH_ready (rs := [7]) (by kernel_rfl) (by simp) ?_; refine AllReadyH.cons rfl (fun K hK => ?_) (AllReadyH.nil)
        rw [if_pos (by rfl)]; go_simp
        refine (HLT.out _).mono ?_
        rintro e w3 ⟨gt, n, rfl, hn, hg, hx, hb⟩
        have HM3 := Lib.hid (new_tab HM.out hg hb hx)
        have HN := Lib.hid hn
        clear HM hg hx hb hn hHeld
        have HM := HM3
        clear HM3
        go_wp2_with fail
        refine hK.out _ _ (HF.out _ _ _ HM.out) (fun hHeld => ?_)
        clear hK K
        (try simp only [Act.put, qz1, qz2, qz3])
        (refine wa_take (i := 8) (v := .tuple #[.agg #[.slice (some ⟨gt, 0, none⟩) n n], .int .i64 fst, .int .i64 0]) rfl (by kernel_rfl) (by kernel_rfl) (by kernel_rfl) (fun _ _ _ h => h) (yi_free rfl (fun u => rfl)) hHeld rfl ?_; (try simp only [Act.put, qz1, qz2, qz3]))
        (refine wa_take (i := 9) (v := .agg #[.slice (some ⟨gt, 0, none⟩) n n]) rfl (by kernel_rfl) (by kernel_rfl) (by kernel_rfl) (fun _ _ _ h => h) (yi_free rfl (fun u => rfl)) hHeld rfl ?_; (try simp only [Act.put, qz1, qz2, qz3]))
        (refine wa_take (i := 10) (v := .int .i64 fst) rfl (by kernel_rfl) (by kernel_rfl) (by kernel_rfl) (fun _ _ _ h => h) (yi_free rfl (fun u => rfl)) hHeld rfl ?_; (try simp only [Act.put, qz1, qz2, qz3]))
        (refine wa_take (i := 11) (v := .int .i64 0) rfl (by kernel_rfl) (by kernel_rfl) (by kernel_rfl) (fun _ _ _ h => h) (yi_free rfl (fun u => rfl)) hHeld rfl ?_; (try simp only [Act.put, qz1, qz2, qz3]))
        refine wpAnyH_ready (rs := [13]) (by kernel_rfl) (by simp) ?_; refine AllReadyH.cons rfl (fun K hK => ?_) (AllReadyH.nil)
        rw [if_pos (by rfl)]; refine ov_store _ _ _ rfl rfl rfl (by exact rowOf) HM (by exact vidxOf) (by exact vsizOf) (by exact vsizOf) (by exact voneOf) rfl ?_; clear HM; intro us HM; dsimp only [List.set] at HM
        refine hK.out _ _ (HF.out _ _ _ HM.out) (fun hHeld => ?_)
        clear hK K
        (try simp only [Act.put, qz1, qz2, qz3])
        (refine wa_take (i := 14) (v := .int .i64 fst) rfl (by kernel_rfl) (by kernel_rfl) (by kernel_rfl) (fun _ _ _ h => h) (yi_free rfl (fun u => rfl)) hHeld rfl ?_; (try simp only [Act.put, qz1, qz2, qz3]))
        (refine wa_take (i := 15) (v := .int .i64 0) rfl (by kernel_rfl) (by kernel_rfl) (by kernel_rfl) (fun _ _ _ h => h) (yi_free rfl (fun u => rfl)) hHeld rfl ?_; (try simp only [Act.put, qz1, qz2, qz3]))
        refine wpAnyH_done (by kernel_rfl) ?_ _
      rotate_left
      focus
        rw [if_pos (by rfl)]; go_simp
        refine (HLT.out _).mono ?_
        rintro e w3 ⟨gt, n, rfl, hn, hg, hx, hb⟩
        have HM3 := Lib.hid (new_tab HM.out hg hb hx)
        have HN := Lib.hid hn
        clear HM hg hx hb hn hHeld
        have HM := HM3
        clear HM3
        go_wp2_with fail
        refine hK.out _ _ (HF.out _ _ _ HM.out) (fun hHeld => ?_)
        clear hK K
        (try simp only [Act.put, qz1, qz2, qz3])
        (refine wa_take (i := 8) (v := .tuple #[.agg #[.slice (some ⟨gt, 0, none⟩) n n], .int .i64 fst, .int .i64 0]) rfl (by kernel_rfl) (by kernel_rfl) (by kernel_rfl) (fun _ _ _ h => h) (yi_free rfl (fun u => rfl)) hHeld rfl ?_; (try simp only [Act.put, qz1, qz2, qz3]))
        (refine wa_take (i := 9) (v := .agg #[.slice (some ⟨gt, 0, none⟩) n n]) rfl (by kernel_rfl) (by kernel_rfl) (by kernel_rfl) (fun _ _ _ h => h) (yi_free rfl (fun u => rfl)) hHeld rfl ?_; (try simp only [Act.put, qz1, qz2, qz3]))
        (refine wa_take (i := 10) (v := .int .i64 fst) rfl (by kernel_rfl) (by kernel_rfl) (by kernel_rfl) (fun _ _ _ h => h) (yi_free rfl (fun u => rfl)) hHeld rfl ?_; (try simp only [Act.put, qz1, qz2, qz3]))
        (refine wa_take (i := 11) (v := .int .i64 0) rfl (by kernel_rfl) (by kernel_rfl) (by kernel_rfl) (fun _ _ _ h => h) (yi_free rfl (fun u => rfl)) hHeld rfl ?_; (try simp only [Act.put, qz1, qz2, qz3]))
        refine wpAnyH_ready (rs := [12]) (by kernel_rfl) (by simp) ?_; refine AllReadyH.cons rfl (fun K hK => ?_) (AllReadyH.nil)
        rw [if_pos (by rfl)]
        refine ov_alloc _ rfl rfl (by exact rowOf) HM ?_
        intro g8 w5 HM5 HW5 _
        clear HM hHeld
        have HM := HM5
        clear HM5 HW5
        refine hK.out _ _ (HF.out _ _ _ HM.out) (fun hHeld => ?_)
        clear hK K
        (try simp only [Act.put, qz1, qz2, qz3])
        refine wpAnyH_ready (rs := [13]) (by kernel_rfl) (by simp) ?_; refine AllReadyH.cons rfl (fun K hK => ?_) (AllReadyH.nil)
        rw [if_pos (by rfl)]; refine ov_store _ _ _ rfl rfl rfl (by exact rowOf) HM (by exact vidxOf) (by exact vsizOf) (by exact vsizOf) (by exact voneOf) rfl ?_; clear HM; intro us HM; dsimp only [List.set] at HM
        refine hK.out _ _ (HF.out _ _ _ HM.out) (fun hHeld => ?_)
        clear hK K
        (try simp only [Act.put, qz1, qz2, qz3])
        (refine wa_take (i := 14) (v := .int .i64 fst) rfl (by kernel_rfl) (by kernel_rfl) (by kernel_rfl) (fun _ _ _ h => h) (yi_free rfl (fun u => rfl)) hHeld rfl ?_; (try simp only [Act.put, qz1, qz2, qz3]))
        (refine wa_take (i := 15) (v := .int .i64 0) rfl (by kernel_rfl) (by kernel_rfl) (by kernel_rfl) (fun _ _ _ h => h) (yi_free rfl (fun u => rfl)) hHeld rfl ?_; (try simp only [Act.put, qz1, qz2, qz3]))
        refine wpAnyH_done (by kernel_rfl) ?_ _
      all_goals
        clear hHeld HC1 HC2 HF HLT
        go_wp2_with fail
        refine wp_region_held_drew (S := fun _ => True) (by kernel_rfl) trivial (fun hHeld => ?_)
        have HM2 := Lib.hid HM.out.drew
        clear HM
        have HM := HM2
        clear HM2
        generalize World.drew _ = wd2 at HM hHeld ⊢
        (refine wa_take (i := 0) (v := .func (.func g) fs lb) rfl (by kernel_rfl) (by kernel_rfl) (by kernel_rfl) (fun _ _ _ h => h) (yi_free rfl (fun u => rfl)) hHeld rfl ?_; (try simp only [Act.put, qz1, qz2, qz3]))
        (refine wa_take (i := 2) rfl (by kernel_rfl) (by kernel_rfl) (by kernel_rfl) (fun _ _ _ h => h) (yi_free rfl (fun u => rfl)) hHeld rfl ?_; (try simp only [Act.put, qz1, qz2, qz3]))
        (refine wa_take (i := 3) rfl (by kernel_rfl) (by kernel_rfl) (by kernel_rfl) (fun _ _ _ h => h) (yi_free rfl (fun u => rfl)) hHeld rfl ?_; (try simp only [Act.put, qz1, qz2, qz3]))
        (refine wa_take (i := 4) rfl (by kernel_rfl) (by kernel_rfl) (by kernel_rfl) (fun _ _ _ h => h) (yi_free rfl (fun u => rfl)) hHeld rfl ?_; (try simp only [Act.put, qz1, qz2, qz3]))
        (refine wa_take (i := 5) (v := .pointer (some ⟨gF, 1, none⟩)) rfl (by kernel_rfl) (by kernel_rfl) (by kernel_rfl) (fun _ _ _ h => h) (yi_free rfl (fun u => by go_simp)) hHeld rfl ?_; (try simp only [Act.put, qz1, qz2, qz3]))
        (refine wa_take (i := 6) (v := .pointer (some ⟨gF, 1 + k, none⟩)) rfl (by kernel_rfl) (by kernel_rfl) (by kernel_rfl) (fun _ _ _ h => h) (yi_free rfl (fun u => by go_simp)) hHeld rfl ?_; (try simp only [Act.put, qz1, qz2, qz3]))
        (refine wa_take (i := 7) (v := .int .i64 fst) rfl (by kernel_rfl) (by kernel_rfl) (by kernel_rfl) (fun _ _ _ h => h) (yi_free rfl (fun u => rfl)) hHeld rfl ?_; (try simp only [Act.put, qz1, qz2, qz3]))
        have HLD := Lib.hid (run_load_blk rowFreq (HM.out.get (by exact vmemOf (e := (g8, 40, #[.slice (some ⟨gt, 0, none⟩) n n])))) rfl)
        refine wpAnyH_ready (rs := [1]) (by kernel_rfl) (by simp) ?_; refine AllReadyH.cons rfl (fun K hK => ?_) (AllReadyH.nil)
        rw [if_pos (by rfl)]; refine ov_load _ _ rfl rfl (HLD.out) ?_
        refine hK.out _ _ trivial (fun hHeld => ?_)
        clear hK K
        (try simp only [Act.put, qz1, qz2, qz3])
        refine wpAnyH_ready (rs := [8]) (by kernel_rfl) (by simp) ?_; refine AllReadyH.cons rfl (fun K hK => ?_) (AllReadyH.nil)
        rw [if_pos (by rfl)]; go_simp
        have HC := Lib.hid (hT.out.go HI.out HM.out (by exact vmemOf) HN.out HTK.out.1 (by have h1 := HTK.out.2; have h2 := HN.out; omega) (1 + k) fst (by omega) f1.1 f1.2 hpk)
        have HKP := Lib.hid (fun s2 (h : st s' xs (1 + k) fst = some s2) => (hT.out.keeps h 0 (by omega)).trans HKD.out)
        have HPS := Lib.hid (fun s2 (h : st s' xs (1 + k) fst = some s2) => hT.out.fwd hpk h)
        have HST := Lib.hid (fun s2 (h : st s' xs (1 + k) fst = some s2) => (lvT_step st (K := Kd) (p := p) (k := k) (s := s') (s' := s2) hlt (by rw [HXS.out, HFST.out]; exact h)).symm.trans HRO.out)
        have HNO := Lib.hid (fun (h : st s' xs (1 + k) fst = none) => (lvT_no st (K := Kd) (p := p) (k := k) (s := s') hlt (by rw [HXS.out, HFST.out]; exact h)).symm.trans HRO.out)
        generalize st s' xs (1 + k) fst = o2 at HC HKP HPS HST HNO
        clear HM HI HKD HRO HFST HTK HXS HN f1
        cases o2 with
        | some s2 =>
          have HKP2 := Lib.hid (HKP.out s2 rfl)
          have HST2 := Lib.hid (HST.out s2 rfl)
          have HPS2 := Lib.hid (HPS.out s2 rfl)
          clear HKP HPS HST HNO
          refine HC.out.mono ?_
          rintro e w5 ⟨rfl, hi5⟩
          have HI5 := Lib.hid hi5
          clear HC hi5 hHeld
          go_wp2_with fail
          refine hK.out _ _ trivial (fun hHeld => ?_)
          clear hK K
          (try simp only [Act.put, qz1, qz2, qz3])
          (refine wa_take (i := 9) (v := .int .i64 0) rfl (by kernel_rfl) (by kernel_rfl) (by kernel_rfl) (fun _ _ _ h => h) (yi_free rfl (fun u => rfl)) hHeld rfl ?_; (try simp only [Act.put, qz1, qz2, qz3]))
          refine wpAnyH_done (by kernel_rfl) ?_ _
          go_wp2
          go_roundw
          case rel => exact ⟨k + 1, s2, by go_num, by omega, HPS2.out, HI5, HKP2, HST2⟩
          case measure => simp [intOf]; omega
        | none =>
          have HNO2 := Lib.hid (HNO.out rfl)
          clear HKP HPS HST HNO
          refine HC.out.mono ?_
          rintro e w5 ⟨E, hE, rfl, hb5⟩
          have HB5 := Lib.hid hb5
          clear HC hb5 hHeld
          go_wp2_with fail
          refine hK.out _ _ trivial (fun hHeld => ?_)
          clear hK K
          (try simp only [Act.put, qz1, qz2, qz3])
          (refine wa_take (i := 9) (v := .int .i64 E) rfl (by kernel_rfl) (by kernel_rfl) (by kernel_rfl) (fun _ _ _ h => h) (yi_free rfl (fun u => rfl)) hHeld rfl ?_; (try simp only [Act.put, qz1, qz2, qz3]))
          refine wpAnyH_done (by kernel_rfl) ?_ _
          go_wp2
          go_ret
          rw [← HNO2.out]
          exact ⟨E, hE, rfl, HB5.out⟩
    · obtain rfl : k = 6 := by omega
      have HRO2 := Lib.hid (show some s' = o from HRO.out)
      clear HRO
      go_wp2
      go_ret
      rw [← HRO2.out]
      exact ⟨rfl, hT.out.sub HI.out (List.sublist_cons_self _ _)⟩
end
end Go.Proofs.YtgpdgegelipboaaGreatDoor.Lp
namespace Go.Proofs.YtgpdgegelipboaaGreatDoor.Lp
open Go.RowKit Fx Fq Tb
theorem qmost_is (v : Int) (w : World) : Calls Tryz.prog 95 #[.int .i64 v] w fun e w' => e = .returned (.int .i64 (mostV v : Int)) ∧ w = w' := by
  obtain ⟨c, hc⟩ : ∃ c : Nat, max 0 (min v 7) = (c : Int) := ⟨(max 0 (min v 7)).toNat, by omega⟩
  have c7 : c ≤ 7 := by omega
  have hV : mostV v = mostN c := by unfold mostV; congr 1; omega
  obtain ⟨P, hP⟩ : ∃ P, 2 ^ c = P := ⟨_, rfl⟩
  have hp := pow_cast c
  have HV := Lib.hid (show (mostV v : Int) = (P : Int) - 1 by
    have := Nat.two_pow_pos c
    rw [hV]; unfold mostN; omega)
  have p1 : 1 ≤ P := by rw [← hP]; exact Nat.two_pow_pos c
  have p2 : P ≤ 128 := by rw [← hP]; exact Nat.pow_le_pow_right (n := 2) (i := c) (j := 7) (by omega) c7
  rw [hP] at hp
  clear hP hV
  go_enter Tryz.func95, Tryz.ntmps95
  go_wp2
  go_ret
  exact ⟨ri (by rw [HV.out]), rfl⟩
theorem arrSix : Arr 22 6 := ⟨⟨.array 6 3, by kernel_rfl, rfl⟩, by kernel_rfl⟩
def spreadL (e : List Int) : List Int := tab 16 (fun n => e.getD (bnd n) 0)
theorem spread_tab {f g : Nat → Int} (h : ∀ n, n < 16 → f (bnd n) = g n) : spreadL (tab 6 f) = tab 16 g := tab_congr fun n hn => by
  show (tab 6 f).getD (bnd n) 0 = g n
  rw [tab_getD f (bnd_all n hn).1, h n hn]
set_option maxHeartbeats 4000000 in
theorem qspread_any (e : List Int) (w : World) (le : e.length = 6) (he : Edg w) :
    Calls Tryz.prog 116 #[.agg (icells e)] w (ValQ w (.agg (icells (spreadL e)))) := by
  have LE := Lib.hid le
  have HE := Lib.hid he
  have HM := Lib.hid (Mem.start w)
  have HV := Lib.hid (show spreadL e = tab 16 (fun n => e.getD (bnd n) 0) from rfl)
  generalize spreadL e = V at HV
  clear le he
  go_enter Tryz.func116, Tryz.ntmps116
  go_wp2_with (first | ((first | refine wl_box rfl _ _ rfl rfl HM ?_ | refine wl_alloc rfl _ rfl (by exact arrOf) HM ?_); first | (have q:dL HM = 0:=rfl;clear q HM;intro g1 u1 HM) | (have q:dL HM = 1:=rfl;clear q HM;intro g2 u2 HM) | (have q:dL HM = 2:=rfl;clear q HM;intro g3 u3 HM) | (have q:dL HM = 3:=rfl;clear q HM;intro g4 u4 HM)) | (refine wl_load rfl _ _ rfl rfl (by exact arrOf) HM (by exact memOf) (by exact lenOf) ?_) | (refine wl_storeM rfl _ _ _ rfl rfl rfl (by exact arrOf) HM (by exact idxOf) (by exact lenOf) (by exact lenOf) ?_; clear HM; intro us HM; dsimp only [List.set] at HM) | (refine wl_zero rfl _ rfl (by exact arrOf) (by kernel_rfl) ?_))
  go_loopw [7] (fun vi wr => ∃ k : Nat, k ≤ 16 ∧ vi = .int .i64 (k : Int) ∧ Hid (Mem w [(g3, 24, tab 16 (part2 k (fun n => e.getD (bnd n) 0) (fun _ => 0))), (g2, 24, zr 16), (g1, 22, e)] wr)) (fun vi _ => 16 - (intOf vi).toNat)
  case atStart => exact ⟨0, by omega, rfl, Lib.hid (by rw [part2_none, tab_zero]; exact HM.out)⟩
  case round =>
    clear HM
    obtain ⟨k, hk, rfl, HM⟩ := hrel
    by_cases hlt : k < 16
    · have k16 : (k : Int) < 16 := by omega
      have SS := Lib.hid (part2_set (n := 16) (k := k) (fun n => e.getD (bnd n) 0) (fun _ => 0))
      have HO := Lib.hid (fun u (hu : Edg u) => of_good k u hlt hu)
      have hb6 := (bnd_all k hlt).1
      obtain ⟨b, hb⟩ : ∃ b, bnd k = b := ⟨_, rfl⟩
      simp only [hb] at SS
      rw [hb] at HO hb6
      clear hb
      have b6 : (b : Int) < 6 := by omega
      go_wp2_with fail
      refine (HO.out _ (HE.out.mem HM.out)).mono ?_
      rintro e wb ⟨rfl, rfl⟩
      have c1 := HM.out.cell (.tail _ (.tail _ (.head _))) (k := b) (by rw [LE.out]; exact hb6)
      have c3 := HM.out.cell (.head _) (k := k) (by rw [tab_length]; exact hlt)
      have f3 := HM.out.free (.head _) k
      generalize List.getD (tab 16 _) k 0 = o at c3
      generalize e.getD b 0 = v at c1 SS
      go_wp2_with fail
      have HM3 := Lib.hid (HM.out.put 0 rfl k v)
      simp only [List.set_cons_zero] at HM3
      rw [SS.out] at HM3
      clear HM c1 c3 f3
      go_roundw
      case rel => exact ⟨k + 1, by omega, by go_num, HM3⟩
      case measure => simp [intOf]; omega
    · obtain rfl : k = 16 := by omega
      rw [part2_all, ← HV.out] at HM
      have L5 := Lib.hid (show V.length = 16 by rw [HV.out]; exact tab_length _ _)
      go_wp2_with (first | ((first | refine wl_box rfl _ _ rfl rfl HM ?_ | refine wl_alloc rfl _ rfl (by exact arrOf) HM ?_); first | (have q:dL HM = 0:=rfl;clear q HM;intro g1 u1 HM) | (have q:dL HM = 1:=rfl;clear q HM;intro g2 u2 HM) | (have q:dL HM = 2:=rfl;clear q HM;intro g3 u3 HM) | (have q:dL HM = 3:=rfl;clear q HM;intro g4 u4 HM)) | (refine wl_load rfl _ _ rfl rfl (by exact arrOf) HM (by exact memOf) (by exact lenOf) ?_) | (refine wl_storeM rfl _ _ _ rfl rfl rfl (by exact arrOf) HM (by exact idxOf) (by exact lenOf) (by exact lenOf) ?_; clear HM; intro us HM; dsimp only [List.set] at HM) | (refine wl_zero rfl _ rfl (by exact arrOf) (by kernel_rfl) ?_))
      refine bodyPost_ret (v := .agg (icells V)) (res_one rfl _ rfl arrHop HM (by exact memOf) L5) rfl ⟨rfl, HM.out.1⟩
end Go.Proofs.YtgpdgegelipboaaGreatDoor.Lp
namespace Go.Proofs.YtgpdgegelipboaaGreatDoor.Lp
open Go.RowKit Fx Fq Tb
def moB (a : List Int) (b : Nat) : Int := (mostV (a.getD b 0) : Int)
theorem moB_is (a : List Int) (b : Nat) : moB a b = (mostV (a.getD b 0) : Int) := rfl
theorem mo_spread {a : List Int} (ha : OkA a) : spreadL (tab 6 (moB a)) = moL a := spread_tab fun n hn => by
  have h := ha.2 (bnd n) (bnd_all n hn).1
  unfold moB moF mostV
  generalize a.getD (bnd n) 0 = z at h
  by_cases e : 0 < z
  · rw [if_pos e]; congr 2; omega
  · rw [if_neg e, show z = 0 by omega]; decide
set_option maxHeartbeats 4000000 in
theorem qmosts_any (a : List Int) (w : World) (ha : OkA a) (he : Edg w) :
    Calls Tryz.prog 88 #[.agg (icells a)] w (ValQ w (.agg (icells (moL a)))) := by
  have LA := Lib.hid ha.1
  have HE := Lib.hid he
  have HM := Lib.hid (Mem.start w)
  have L6 := Lib.hid (tab_length 6 (moB a))
  have HC := Lib.hid (fun u (hu : Edg u) => qspread_any (tab 6 (moB a)) u (tab_length 6 (moB a)) hu)
  rw [mo_spread ha] at HC
  have LV := Lib.hid (show (moL a).length = 16 from tab_length _ _)
  generalize moL a = V at HC LV
  clear ha he
  go_enter Tryz.func88, Tryz.ntmps88
  go_wp2_with (first | ((first | refine wl_box rfl _ _ rfl rfl HM ?_ | refine wl_alloc rfl _ rfl (by exact arrOf) HM ?_); first | (have q:dL HM = 0:=rfl;clear q HM;intro g1 u1 HM) | (have q:dL HM = 1:=rfl;clear q HM;intro g2 u2 HM) | (have q:dL HM = 2:=rfl;clear q HM;intro g3 u3 HM) | (have q:dL HM = 3:=rfl;clear q HM;intro g4 u4 HM)) | (refine wl_load rfl _ _ rfl rfl (by exact arrOf) HM (by exact memOf) (by exact lenOf) ?_) | (refine wl_storeM rfl _ _ _ rfl rfl rfl (by exact arrOf) HM (by exact idxOf) (by exact lenOf) (by exact lenOf) ?_; clear HM; intro us HM; dsimp only [List.set] at HM) | (refine wl_zero rfl _ rfl (by exact arrOf) (by kernel_rfl) ?_))
  go_loopw [7] (fun vi wr => ∃ k : Nat, k ≤ 6 ∧ vi = .int .i64 (k : Int) ∧ Hid (Mem w [(g3, 22, tab 6 (part2 k (moB a) (fun _ => 0))), (g2, 24, zr 16), (g1, 84, a)] wr)) (fun vi _ => 6 - (intOf vi).toNat)
  case atStart => exact ⟨0, by omega, rfl, Lib.hid (by rw [part2_none, tab_zero]; exact HM.out)⟩
  case round =>
    clear HM
    obtain ⟨k, hk, rfl, HM⟩ := hrel
    by_cases hlt : k < 6
    · have k6 : (k : Int) < 6 := by omega
      have SS := Lib.hid (part2_set (n := 6) (k := k) (moB a) (fun _ => 0))
      have hix := run_index 84 (n := 6) (by kernel_rfl) a LA.out k hlt
      rw [moB_is] at SS
      generalize a.getD k 0 = z at hix SS
      have HQ := Lib.hid (fun u => qmost_is z u)
      generalize mostV z = m at HQ SS
      go_wp2_with fail
      refine (HQ.out _).mono ?_
      rintro e wb ⟨rfl, rfl⟩
      clear hix
      have c3 := HM.out.cell (.head _) (k := k) (by rw [tab_length]; exact hlt)
      have f3 := HM.out.free (.head _) k
      generalize List.getD (tab 6 _) k 0 = o at c3
      go_wp2_with fail
      have HM3 := Lib.hid (HM.out.put 0 rfl k m)
      simp only [List.set_cons_zero] at HM3
      rw [SS.out] at HM3
      clear HM c3 f3
      go_roundw
      case rel => exact ⟨k + 1, by omega, by go_num, HM3⟩
      case measure => simp [intOf]; omega
    · obtain rfl : k = 6 := by omega
      rw [part2_all] at HM
      go_wp2_with (first | ((first | refine wl_box rfl _ _ rfl rfl HM ?_ | refine wl_alloc rfl _ rfl (by exact arrOf) HM ?_); first | (have q:dL HM = 0:=rfl;clear q HM;intro g1 u1 HM) | (have q:dL HM = 1:=rfl;clear q HM;intro g2 u2 HM) | (have q:dL HM = 2:=rfl;clear q HM;intro g3 u3 HM) | (have q:dL HM = 3:=rfl;clear q HM;intro g4 u4 HM)) | (refine wl_load rfl _ _ rfl rfl (by exact arrOf) HM (by exact memOf) (by exact lenOf) ?_) | (refine wl_storeM rfl _ _ _ rfl rfl rfl (by exact arrOf) HM (by exact idxOf) (by exact lenOf) (by exact lenOf) ?_; clear HM; intro us HM; dsimp only [List.set] at HM) | (refine wl_zero rfl _ rfl (by exact arrOf) (by kernel_rfl) ?_))
      refine (HC.out _ (HE.out.mem HM.out)).mono ?_
      rintro e w2 ⟨rfl, h1⟩
      have HM2 := Lib.hid (HM.out.below h1)
      clear h1 HM HC
      have HM := HM2
      clear HM2
      go_wp2_with (first | ((first | refine wl_box rfl _ _ rfl rfl HM ?_ | refine wl_alloc rfl _ rfl (by exact arrOf) HM ?_); first | (have q:dL HM = 0:=rfl;clear q HM;intro g1 u1 HM) | (have q:dL HM = 1:=rfl;clear q HM;intro g2 u2 HM) | (have q:dL HM = 2:=rfl;clear q HM;intro g3 u3 HM) | (have q:dL HM = 3:=rfl;clear q HM;intro g4 u4 HM)) | (refine wl_load rfl _ _ rfl rfl (by exact arrOf) HM (by exact memOf) (by exact lenOf) ?_) | (refine wl_storeM rfl _ _ _ rfl rfl rfl (by exact arrOf) HM (by exact idxOf) (by exact lenOf) (by exact lenOf) ?_; clear HM; intro us HM; dsimp only [List.set] at HM) | (refine wl_zero rfl _ rfl (by exact arrOf) (by kernel_rfl) ?_))
      refine bodyPost_ret (v := .agg (icells V)) (res_one rfl _ rfl arrHop HM (by exact memOf) LV) rfl ⟨rfl, HM.out.1⟩
end Go.Proofs.YtgpdgegelipboaaGreatDoor.Lp
namespace Go.Proofs.YtgpdgegelipboaaGreatDoor.Lp
open Go.RowKit Fx Fq Tb
def hcF (v m : List Int) (n : Nat) : Int := clampI (v.getD n 0) (m.getD n 0)
theorem hcF_is {v m : List Int} {n : Nat} (h : 0 ≤ m.getD n 0) : hcF v m n = max (-(m.getD n 0)) (min (v.getD n 0) (m.getD n 0)) := by
  unfold hcF clampI; omega
def hcL (v m : List Int) : List Int := tab 16 (hcF v m)
theorem hcL_length (v m : List Int) : (hcL v m).length = 16 := tab_length _ _
theorem part2_now {n k : Nat} (f g : Nat → Int) (h : k < n) : (tab n (part2 k f g)).getD k 0 = g k := by
  rw [tab_getD _ h]; unfold part2; rw [if_neg (by omega)]
theorem mayN_of {q m : List Int} : ∀ n, (∀ k, k < n → -(m.getD k 0) ≤ q.getD k 0 ∧ q.getD k 0 ≤ m.getD k 0) → mayN q m n = true
  | 0, _ => rfl
  | n + 1, h => by
    have h1 := mayN_of n fun k hk => h k (by omega)
    have h2 := h n (by omega)
    rw [mayN_succ, h1, decide_eq_true h2.1, decide_eq_true h2.2]; rfl
theorem hcL_iff {q m : List Int} (lq : q.length = 16) (hm : ∀ k, k < 16 → 0 ≤ m.getD k 0) : hcL q m = q ↔ mayN q m 16 = true := by
  constructor
  · intro h
    refine mayN_of 16 fun k hk => ?_
    have h1 : (hcL q m).getD k 0 = q.getD k 0 := by rw [h]
    have h2 := hm k hk
    unfold hcL at h1
    rw [tab_getD _ hk, hcF_is h2] at h1
    omega
  · intro h
    refine (tab_congr (g := fun i => q.getD i 0) fun k hk => ?_).trans (tab_self lq)
    have h1 := mayN_at 16 k hk h
    have h2 := hm k hk
    rw [hcF_is h2]
    omega
set_option maxHeartbeats 4000000 in
theorem qheld_any (v m : List Int) (w : World) (lv : v.length = 16) (lm : m.length = 16) (hm : ∀ k, k < 16 → 0 ≤ m.getD k 0 ∧ m.getD k 0 ≤ 67108864) :
    Calls Tryz.prog 87 #[.agg (icells v), .agg (icells m)] w (ValQ w (.agg (icells (hcL v m)))) := by
  have LV := Lib.hid lv
  have LM := Lib.hid lm
  have HB := Lib.hid hm
  have HM := Lib.hid (Mem.start w)
  have HV := Lib.hid (show hcL v m = tab 16 (hcF v m) from rfl)
  generalize hcL v m = V at HV
  clear lv lm hm
  go_enter Tryz.func87, Tryz.ntmps87
  go_wp2_with (first | ((first | refine wl_box rfl _ _ rfl rfl HM ?_ | refine wl_alloc rfl _ rfl (by exact arrOf) HM ?_); first | (have q:dL HM = 0:=rfl;clear q HM;intro g1 u1 HM) | (have q:dL HM = 1:=rfl;clear q HM;intro g2 u2 HM) | (have q:dL HM = 2:=rfl;clear q HM;intro g3 u3 HM) | (have q:dL HM = 3:=rfl;clear q HM;intro g4 u4 HM)) | (refine wl_load rfl _ _ rfl rfl (by exact arrOf) HM (by exact memOf) (by exact lenOf) ?_) | (refine wl_storeM rfl _ _ _ rfl rfl rfl (by exact arrOf) HM (by exact idxOf) (by exact lenOf) (by exact lenOf) ?_; clear HM; intro us HM; dsimp only [List.set] at HM) | (refine wl_zero rfl _ rfl (by exact arrOf) (by kernel_rfl) ?_))
  go_loopw [8] (fun vi wr => ∃ k : Nat, k ≤ 16 ∧ vi = .int .i64 (k : Int) ∧ Hid (Mem w [(g3, 24, zr 16), (g2, 24, m), (g1, 24, tab 16 (part2 k (hcF v m) (fun n => v.getD n 0)))] wr)) (fun vi _ => 16 - (intOf vi).toNat)
  case atStart => exact ⟨0, by omega, rfl, Lib.hid (by rw [part2_none, tab_self LV.out]; exact HM.out)⟩
  case round =>
    clear HM
    obtain ⟨k, hk, rfl, HM⟩ := hrel
    by_cases hlt : k < 16
    · have k16 : (k : Int) < 16 := by omega
      have SS := Lib.hid (part2_set (n := 16) (k := k) (hcF v m) (fun n => v.getD n 0))
      have hb := HB.out k hlt
      rw [hcF_is hb.1] at SS
      have hix := run_index 24 (n := 16) (by kernel_rfl) m LM.out k hlt
      have c1 := HM.out.cell (.tail _ (.tail _ (.head _))) (k := k) (by rw [tab_length]; exact hlt)
      have f1 := HM.out.free (.tail _ (.tail _ (.head _))) k
      rw [part2_now _ _ hlt] at c1
      generalize v.getD k 0 = x at c1 SS
      generalize m.getD k 0 = y at hix SS hb
      obtain ⟨y1, y2⟩ := hb
      have hn : IntKind.i64.wrap (-y) = -y := i64_w (by omega) (by omega)
      clear y1 y2
      go_wp2_with fail
      have HM3 := Lib.hid (HM.out.put 2 rfl k (max (-y) (min x y)))
      simp only [List.set_cons_zero, List.set_cons_succ] at HM3
      rw [SS.out] at HM3
      clear HM c1 f1
      go_roundw
      case rel => exact ⟨k + 1, by omega, by go_num, HM3⟩
      case measure => simp [intOf]; omega
    · obtain rfl : k = 16 := by omega
      rw [part2_all, ← HV.out] at HM
      have L5 := Lib.hid (show V.length = 16 by rw [HV.out]; exact tab_length _ _)
      go_wp2_with (first | ((first | refine wl_box rfl _ _ rfl rfl HM ?_ | refine wl_alloc rfl _ rfl (by exact arrOf) HM ?_); first | (have q:dL HM = 0:=rfl;clear q HM;intro g1 u1 HM) | (have q:dL HM = 1:=rfl;clear q HM;intro g2 u2 HM) | (have q:dL HM = 2:=rfl;clear q HM;intro g3 u3 HM) | (have q:dL HM = 3:=rfl;clear q HM;intro g4 u4 HM)) | (refine wl_load rfl _ _ rfl rfl (by exact arrOf) HM (by exact memOf) (by exact lenOf) ?_) | (refine wl_storeM rfl _ _ _ rfl rfl rfl (by exact arrOf) HM (by exact idxOf) (by exact lenOf) (by exact lenOf) ?_; clear HM; intro us HM; dsimp only [List.set] at HM) | (refine wl_zero rfl _ rfl (by exact arrOf) (by kernel_rfl) ?_))
      refine bodyPost_ret (v := .agg (icells V)) (res_one rfl _ rfl arrHop HM (by exact memOf) L5) rfl ⟨rfl, HM.out.1⟩
theorem grdHopQ : Tryz.prog.eqGuardType Tryz.prog.depth 24 = false := by kernel_rfl
theorem moL_length (a : List Int) : (moL a).length = 16 := tab_length _ _
theorem moL_bd {a : List Int} (ha : OkA a) (k : Nat) (hk : k < 16) : 0 ≤ (moL a).getD k 0 ∧ (moL a).getD k 0 ≤ 67108864 := by
  unfold moL
  rw [tab_getD _ hk]
  unfold moF
  have h := ha.2 (bnd k) (bnd_all k hk).1
  split
  · have := mostN_bd (a.getD (bnd k) 0).toNat (by omega)
    omega
  · omega
set_option maxHeartbeats 4000000 in
theorem qfits_any (q a : List Int) (b : Bool) (w : World) (lq : q.length = 16) (ha : OkA a) (he : Edg w) (hb : mayN q (moL a) 16 = b) :
    Calls Tryz.prog 52 #[.agg (icells q), .agg (icells a)] w (ValQ w (.bool b)) := by
  have LQ := Lib.hid lq
  have LA := Lib.hid ha.1
  have HE := Lib.hid he
  have HM := Lib.hid (Mem.start w)
  have HO := Lib.hid (fun u (hu : Edg u) => qmosts_any a u ha hu)
  have HH := Lib.hid (fun u => qheld_any q (moL a) u lq (moL_length a) (moL_bd ha))
  have L1 := Lib.hid (moL_length a)
  have L2 := Lib.hid (hcL_length q (moL a))
  have hi := hcL_iff (m := moL a) lq fun k hk => (moL_bd ha k hk).1
  have hgd := grdHopQ
  cases b with
  | true =>
    have heq := fun u => run_equalIn_same 24 (n := 16) (by kernel_rfl) q lq u
    rw [hi.2 hb] at HH L2
    generalize moL a = M at HO HH L1
    clear lq ha he hi hb
    go_enter Tryz.func52, Tryz.ntmps52
    go_wp2_with (first | ((first | refine wl_box rfl _ _ rfl rfl HM ?_ | refine wl_alloc rfl _ rfl (by exact arrOf) HM ?_); first | (have q:dL HM = 0:=rfl;clear q HM;intro g1 u1 HM) | (have q:dL HM = 1:=rfl;clear q HM;intro g2 u2 HM) | (have q:dL HM = 2:=rfl;clear q HM;intro g3 u3 HM) | (have q:dL HM = 3:=rfl;clear q HM;intro g4 u4 HM)) | (refine wl_load rfl _ _ rfl rfl (by exact arrOf) HM (by exact memOf) (by exact lenOf) ?_) | (refine wl_storeM rfl _ _ _ rfl rfl rfl (by exact arrOf) HM (by exact idxOf) (by exact lenOf) (by exact lenOf) ?_; clear HM; intro us HM; dsimp only [List.set] at HM) | (refine wl_zero rfl _ rfl (by exact arrOf) (by kernel_rfl) ?_))
    refine wp_region_held_drew (S := Mem w [(g2, 84, a), (g1, 24, q)]) (by kernel_rfl) (HM.out.drew.sub (by exact subOf)) (fun hHeld => ?_)
    have HMd := Lib.hid HM.out.drew
    clear HM
    have HM := HMd
    clear HMd
    generalize World.drew _ = wd at HM hHeld ⊢
    (refine wa_take (i := 0) rfl (by kernel_rfl) (by kernel_rfl) (by kernel_rfl) (fun _ _ _ h => h) (yi_load rfl _ _ rfl rfl (by exact arrOf) (fun u hu => hu) (by exact memOf) (by exact lenOf)) hHeld rfl ?_; (try simp only [Act.put, qz1, qz2, qz3]))
    (refine wa_take (i := 1) rfl (by kernel_rfl) (by kernel_rfl) (by kernel_rfl) (fun _ _ _ h => h) (yi_load rfl _ _ rfl rfl (by exact arrOf) (fun u hu => hu) (by exact memOf) (by exact lenOf)) hHeld rfl ?_; (try simp only [Act.put, qz1, qz2, qz3]))
    (refine wa_take (i := 4) rfl (by kernel_rfl) (by kernel_rfl) (by kernel_rfl) (fun _ _ _ h => h) (yi_load rfl _ _ rfl rfl (by exact arrOf) (fun u hu => hu) (by exact memOf) (by exact lenOf)) hHeld rfl ?_; (try simp only [Act.put, qz1, qz2, qz3]))
    refine wpAnyH_ready (rs := [2]) (by kernel_rfl) (by simp) ?_; refine AllReadyH.cons rfl (fun K hK => ?_) (AllReadyH.nil)
    rw [if_pos (by rfl)]; go_simp
    refine (HO.out _ (HE.out.mem HM.out)).mono ?_
    rintro e wb ⟨rfl, h1⟩
    have HM2 := Lib.hid (HM.out.below h1)
    clear h1 HM HO hHeld
    have HM := HM2
    clear HM2
    go_wp2_with fail; refine hK.out _ _ (HM.out.sub (by exact subOf)) (fun hHeld => ?_); clear hK K; (try simp only [Act.put, qz1, qz2, qz3])
    refine wpAnyH_ready (rs := [3]) (by kernel_rfl) (by simp) ?_; refine AllReadyH.cons rfl (fun K hK => ?_) (AllReadyH.nil)
    rw [if_pos (by rfl)]; go_simp
    refine (HH.out _).mono ?_
    rintro e wb ⟨rfl, h1⟩
    have HM2 := Lib.hid (HM.out.below h1)
    clear h1 HM HH hHeld
    have HM := HM2
    clear HM2
    go_wp2_with fail; refine hK.out _ _ (HM.out.sub (by exact subOf)) (fun hHeld => ?_); clear hK K; (try simp only [Act.put, qz1, qz2, qz3])
    (refine wa_take (i := 5) (v := .bool true) rfl (by kernel_rfl) (by kernel_rfl) (by kernel_rfl) (fun _ _ _ h => h) (yi_free rfl (fun u => by go_simp)) hHeld rfl ?_; (try simp only [Act.put, qz1, qz2, qz3]))
    (refine wa_take (i := 6) rfl (by kernel_rfl) (by kernel_rfl) (by kernel_rfl) (fun _ _ _ h => h) (yi_free rfl (fun u => rfl)) hHeld rfl ?_; (try simp only [Act.put, qz1, qz2, qz3]))
    refine wpAnyH_done (by kernel_rfl) ?_ _
    go_wp2
    go_ret
    exact ⟨rfl, HM.out.1⟩
  | false =>
    have heq := fun u => run_equalIn_diff 24 (n := 16) (by kernel_rfl) (hcL q (moL a)) q L2.out lq (fun e => by rw [hi.1 e] at hb; cases hb) u
    generalize hcL q (moL a) = H at HH L2 heq
    generalize moL a = M at HO HH L1
    clear lq ha he hi hb
    go_enter Tryz.func52, Tryz.ntmps52
    go_wp2_with (first | ((first | refine wl_box rfl _ _ rfl rfl HM ?_ | refine wl_alloc rfl _ rfl (by exact arrOf) HM ?_); first | (have q:dL HM = 0:=rfl;clear q HM;intro g1 u1 HM) | (have q:dL HM = 1:=rfl;clear q HM;intro g2 u2 HM) | (have q:dL HM = 2:=rfl;clear q HM;intro g3 u3 HM) | (have q:dL HM = 3:=rfl;clear q HM;intro g4 u4 HM)) | (refine wl_load rfl _ _ rfl rfl (by exact arrOf) HM (by exact memOf) (by exact lenOf) ?_) | (refine wl_storeM rfl _ _ _ rfl rfl rfl (by exact arrOf) HM (by exact idxOf) (by exact lenOf) (by exact lenOf) ?_; clear HM; intro us HM; dsimp only [List.set] at HM) | (refine wl_zero rfl _ rfl (by exact arrOf) (by kernel_rfl) ?_))
    refine wp_region_held_drew (S := Mem w [(g2, 84, a), (g1, 24, q)]) (by kernel_rfl) (HM.out.drew.sub (by exact subOf)) (fun hHeld => ?_)
    have HMd := Lib.hid HM.out.drew
    clear HM
    have HM := HMd
    clear HMd
    generalize World.drew _ = wd at HM hHeld ⊢
    (refine wa_take (i := 0) rfl (by kernel_rfl) (by kernel_rfl) (by kernel_rfl) (fun _ _ _ h => h) (yi_load rfl _ _ rfl rfl (by exact arrOf) (fun u hu => hu) (by exact memOf) (by exact lenOf)) hHeld rfl ?_; (try simp only [Act.put, qz1, qz2, qz3]))
    (refine wa_take (i := 1) rfl (by kernel_rfl) (by kernel_rfl) (by kernel_rfl) (fun _ _ _ h => h) (yi_load rfl _ _ rfl rfl (by exact arrOf) (fun u hu => hu) (by exact memOf) (by exact lenOf)) hHeld rfl ?_; (try simp only [Act.put, qz1, qz2, qz3]))
    (refine wa_take (i := 4) rfl (by kernel_rfl) (by kernel_rfl) (by kernel_rfl) (fun _ _ _ h => h) (yi_load rfl _ _ rfl rfl (by exact arrOf) (fun u hu => hu) (by exact memOf) (by exact lenOf)) hHeld rfl ?_; (try simp only [Act.put, qz1, qz2, qz3]))
    refine wpAnyH_ready (rs := [2]) (by kernel_rfl) (by simp) ?_; refine AllReadyH.cons rfl (fun K hK => ?_) (AllReadyH.nil)
    rw [if_pos (by rfl)]; go_simp
    refine (HO.out _ (HE.out.mem HM.out)).mono ?_
    rintro e wb ⟨rfl, h1⟩
    have HM2 := Lib.hid (HM.out.below h1)
    clear h1 HM HO hHeld
    have HM := HM2
    clear HM2
    go_wp2_with fail; refine hK.out _ _ (HM.out.sub (by exact subOf)) (fun hHeld => ?_); clear hK K; (try simp only [Act.put, qz1, qz2, qz3])
    refine wpAnyH_ready (rs := [3]) (by kernel_rfl) (by simp) ?_; refine AllReadyH.cons rfl (fun K hK => ?_) (AllReadyH.nil)
    rw [if_pos (by rfl)]; go_simp
    refine (HH.out _).mono ?_
    rintro e wb ⟨rfl, h1⟩
    have HM2 := Lib.hid (HM.out.below h1)
    clear h1 HM HH hHeld
    have HM := HM2
    clear HM2
    go_wp2_with fail; refine hK.out _ _ (HM.out.sub (by exact subOf)) (fun hHeld => ?_); clear hK K; (try simp only [Act.put, qz1, qz2, qz3])
    (refine wa_take (i := 5) (v := .bool false) rfl (by kernel_rfl) (by kernel_rfl) (by kernel_rfl) (fun _ _ _ h => h) (yi_free rfl (fun u => by go_simp)) hHeld rfl ?_; (try simp only [Act.put, qz1, qz2, qz3]))
    (refine wa_take (i := 6) rfl (by kernel_rfl) (by kernel_rfl) (by kernel_rfl) (fun _ _ _ h => h) (yi_free rfl (fun u => rfl)) hHeld rfl ?_; (try simp only [Act.put, qz1, qz2, qz3]))
    refine wpAnyH_done (by kernel_rfl) ?_ _
    go_wp2
    go_ret
    exact ⟨rfl, HM.out.1⟩
theorem share_v (l : List Int) (h : chkL l = true) : shareV l 120 = .tuple #[.agg (icells (shareL l 120)), .int .i64 0] := by
  unfold shareV; rw [if_pos ⟨h, by decide⟩]
theorem share_vno (l : List Int) (h : chkL l = false) : shareV l 120 = .tuple #[.agg (icells (zr 6)), .int .i64 1] := by
  unfold shareV; rw [if_neg (fun k => by rw [h] at k; exact Bool.false_ne_true k.1)]
theorem ms_is {l : List Int} (h : chkL l = true) : msL l = moL (shareL l 120) := by unfold msL; rw [if_pos h]
set_option maxHeartbeats 4000000 in
theorem qmay_any (q l : List Int) (w : World) (lq : q.length = 16) (ll : l.length = 6) (he : Edg w) :
    Calls Tryz.prog 25 #[.agg (icells q), .agg (icells l)] w (ValQ w (.bool (mayB q l))) := by
  have LQ := Lib.hid lq
  have LL := Lib.hid ll
  have HE := Lib.hid he
  have LZ := Lib.hid (zr_length 6)
  have HM := Lib.hid (Mem.start w)
  have HC := Lib.hid (fun u (hu : Edg u) => bshare_any l 120 u ll hu)
  cases hc : chkL l with
  | true =>
    rw [share_v l hc] at HC
    have HV : mayB q l = mayN q (moL (shareL l 120)) 16 := by unfold mayB; rw [hc, ms_is hc, Bool.true_and]
    have hok := (share_ok l (B := 120) (by decide)).1
    have LA := Lib.hid hok.1
    have HF := Lib.hid (fun u (hu : Edg u) => qfits_any q (shareL l 120) (mayB q l) u lq hok hu HV.symm)
    generalize mayB q l = V at HF HV
    generalize shareL l 120 = A at HC HF LA
    clear lq ll he hc HV hok
    go_enter Tryz.func25, Tryz.ntmps25
    go_wp2_with (first | ((first | refine wl_box rfl _ _ rfl rfl HM ?_ | refine wl_alloc rfl _ rfl (by exact arrOf) HM ?_); first | (have q:dL HM = 0:=rfl;clear q HM;intro g1 u1 HM) | (have q:dL HM = 1:=rfl;clear q HM;intro g2 u2 HM) | (have q:dL HM = 2:=rfl;clear q HM;intro g3 u3 HM) | (have q:dL HM = 3:=rfl;clear q HM;intro g4 u4 HM)) | (refine wl_load rfl _ _ rfl rfl (by exact arrOf) HM (by exact memOf) (by exact lenOf) ?_) | (refine wl_storeM rfl _ _ _ rfl rfl rfl (by exact arrOf) HM (by exact idxOf) (by exact lenOf) (by exact lenOf) ?_; clear HM; intro us HM; dsimp only [List.set] at HM) | (refine wl_zero rfl _ rfl (by exact arrOf) (by kernel_rfl) ?_))
    refine (HC.out _ (HE.out.mem HM.out)).mono ?_
    rintro e w2 ⟨rfl, h1⟩
    have HM2 := Lib.hid (HM.out.below h1)
    clear h1 HM HC
    have HM := HM2
    clear HM2
    go_wp2_with (first | ((first | refine wl_box rfl _ _ rfl rfl HM ?_ | refine wl_alloc rfl _ rfl (by exact arrOf) HM ?_); first | (have q:dL HM = 0:=rfl;clear q HM;intro g1 u1 HM) | (have q:dL HM = 1:=rfl;clear q HM;intro g2 u2 HM) | (have q:dL HM = 2:=rfl;clear q HM;intro g3 u3 HM) | (have q:dL HM = 3:=rfl;clear q HM;intro g4 u4 HM)) | (refine wl_load rfl _ _ rfl rfl (by exact arrOf) HM (by exact memOf) (by exact lenOf) ?_) | (refine wl_storeM rfl _ _ _ rfl rfl rfl (by exact arrOf) HM (by exact idxOf) (by exact lenOf) (by exact lenOf) ?_; clear HM; intro us HM; dsimp only [List.set] at HM) | (refine wl_zero rfl _ rfl (by exact arrOf) (by kernel_rfl) ?_))
    refine (HF.out _ (HE.out.mem HM.out)).mono ?_
    rintro e w2 ⟨rfl, h1⟩
    have HM2 := Lib.hid (HM.out.below h1)
    clear h1 HM HF
    have HM := HM2
    clear HM2
    go_wp2_with (first | ((first | refine wl_box rfl _ _ rfl rfl HM ?_ | refine wl_alloc rfl _ rfl (by exact arrOf) HM ?_); first | (have q:dL HM = 0:=rfl;clear q HM;intro g1 u1 HM) | (have q:dL HM = 1:=rfl;clear q HM;intro g2 u2 HM) | (have q:dL HM = 2:=rfl;clear q HM;intro g3 u3 HM) | (have q:dL HM = 3:=rfl;clear q HM;intro g4 u4 HM)) | (refine wl_load rfl _ _ rfl rfl (by exact arrOf) HM (by exact memOf) (by exact lenOf) ?_) | (refine wl_storeM rfl _ _ _ rfl rfl rfl (by exact arrOf) HM (by exact idxOf) (by exact lenOf) (by exact lenOf) ?_; clear HM; intro us HM; dsimp only [List.set] at HM) | (refine wl_zero rfl _ rfl (by exact arrOf) (by kernel_rfl) ?_))
    go_ret
    exact ⟨rfl, HM.out.1⟩
  | false =>
    rw [share_vno l hc] at HC
    have HV : mayB q l = false := by unfold mayB; rw [hc, Bool.false_and]
    rw [HV]
    clear lq ll he hc HV
    go_enter Tryz.func25, Tryz.ntmps25
    go_wp2_with (first | ((first | refine wl_box rfl _ _ rfl rfl HM ?_ | refine wl_alloc rfl _ rfl (by exact arrOf) HM ?_); first | (have q:dL HM = 0:=rfl;clear q HM;intro g1 u1 HM) | (have q:dL HM = 1:=rfl;clear q HM;intro g2 u2 HM) | (have q:dL HM = 2:=rfl;clear q HM;intro g3 u3 HM) | (have q:dL HM = 3:=rfl;clear q HM;intro g4 u4 HM)) | (refine wl_load rfl _ _ rfl rfl (by exact arrOf) HM (by exact memOf) (by exact lenOf) ?_) | (refine wl_storeM rfl _ _ _ rfl rfl rfl (by exact arrOf) HM (by exact idxOf) (by exact lenOf) (by exact lenOf) ?_; clear HM; intro us HM; dsimp only [List.set] at HM) | (refine wl_zero rfl _ rfl (by exact arrOf) (by kernel_rfl) ?_))
    refine (HC.out _ (HE.out.mem HM.out)).mono ?_
    rintro e w2 ⟨rfl, h1⟩
    have HM2 := Lib.hid (HM.out.below h1)
    clear h1 HM HC
    have HM := HM2
    clear HM2
    go_wp2_with (first | ((first | refine wl_box rfl _ _ rfl rfl HM ?_ | refine wl_alloc rfl _ rfl (by exact arrOf) HM ?_); first | (have q:dL HM = 0:=rfl;clear q HM;intro g1 u1 HM) | (have q:dL HM = 1:=rfl;clear q HM;intro g2 u2 HM) | (have q:dL HM = 2:=rfl;clear q HM;intro g3 u3 HM) | (have q:dL HM = 3:=rfl;clear q HM;intro g4 u4 HM)) | (refine wl_load rfl _ _ rfl rfl (by exact arrOf) HM (by exact memOf) (by exact lenOf) ?_) | (refine wl_storeM rfl _ _ _ rfl rfl rfl (by exact arrOf) HM (by exact idxOf) (by exact lenOf) (by exact lenOf) ?_; clear HM; intro us HM; dsimp only [List.set] at HM) | (refine wl_zero rfl _ rfl (by exact arrOf) (by kernel_rfl) ?_))
    go_ret
    exact ⟨rfl, HM.out.1⟩
end Go.Proofs.YtgpdgegelipboaaGreatDoor.Lp
namespace Go.Proofs.YtgpdgegelipboaaGreatDoor.Lp
open Go.RowKit Fx Fq Tb
end Go.Proofs.YtgpdgegelipboaaGreatDoor.Lp
namespace Go.Proofs.YtgpdgegelipboaaGreatDoor.Lp
open Go.RowKit Fx Fq Tb
end Go.Proofs.YtgpdgegelipboaaGreatDoor.Lp
namespace Go.Proofs.YtgpdgegelipboaaGreatDoor.Lp
open Go.RowKit Fx Fq Tb
end Go.Proofs.YtgpdgegelipboaaGreatDoor.Lp
namespace Go.Proofs.YtgpdgegelipboaaGreatDoor.Lp
open Go.RowKit Fx Fq Tb
open Yr (Stp kT cT lT smT smN smN_ok smN_length smT_length smT_ok tabK lvT lvA nmT nmA numA thru nmT_step nmT_no nmT_skip lvO lvO_length ms_cases mostN_pos')
section
variable {S : Type} {w0 : World} {g : Nat} {fs lb : Array Value} {gF N : Nat} {TF : TypeId} {st : Stp S} {fr : S → List Int} {pos : S → Nat} {Inv : S → List Ent → World → Prop}
set_option maxHeartbeats 4000000 in
theorem tnum_any (s : S) (KK : List Ent) (w : World) (i M : Nat) (hT : Hid (TelOk w0 g fs lb gF N TF st fr pos Inv)) (hi : Hid (Inv s KK w)) (hN : i < N) (h1 : 1 ≤ M) (hM : M ≤ 127) (hok : okN (smN M) = true) (hpo : pos s ≤ i) :
    Calls Tryz.prog 94 #[.pointer (some ⟨gF, i, none⟩), .int .i64 (M : Int), .func (.func g) fs lb] w (TelR w0 Inv KK (st s (smT M) i (-(M : Int)))) := by
  have eg := hT.out.enters
  have HM := Lib.hid (MV.start w)
  have hl : (smT M).length = 2 * M + 2 := smT_length M
  have HOK := Lib.hid hok
  have hokF : okF (smT M) = true := okF_acc hok
  have w1 : IntKind.i64.wrap (-(M : Int)) = -(M : Int) := i64_w (by omega) (by omega)
  have HC := Lib.hid (fun (L : List Ent) (w1 u : World) (gt : Nat) (hm : MV w w1 L u) (hin : (gt, 3, icells (smT M)) ∈ L) => hT.out.go hi.out hm hin hl hokF (by omega) i (-(M : Int)) hN (by omega) (by omega) hpo)
  generalize st s (smT M) i (-(M : Int)) = o at HC ⊢
  have HL := Lib.hid hl
  clear hokF hok hl
  go_enter Tryz.func94, Tryz.ntmps94
  go_wp2_with (first | ((first | refine wv_box rfl _ _ rfl rfl HM ?_ | refine wv_alloc rfl _ rfl (by exact rowOf) HM ?_); first | (have q:dV HM = 0:=rfl;clear q HM;intro g1 u1 HG1 HM) | (have q:dV HM = 1:=rfl;clear q HM;intro g2 u2 HG2 HM) | (have q:dV HM = 2:=rfl;clear q HM;intro g3 u3 HG3 HM) | (have q:dV HM = 3:=rfl;clear q HM;intro g4 u4 HG4 HM)) | (refine wv_load rfl _ _ rfl rfl (by exact rowOf) HM (by exact vmemOf) (by exact vsizOf) ?_) | (refine wv_store rfl _ _ _ rfl rfl rfl (by exact rowOf) HM (by exact vidxOf) (by exact vsizOf) (by exact vsizOf) (by exact voneOf) ?_; clear HM; intro us HM; dsimp only [List.set] at HM) | (refine wl_zero rfl _ rfl (by exact arrOf) (by kernel_rfl) ?_))
  refine (hill_any M w h1 hM).mono ?_
  rintro e w1 ⟨A, c, rfl, hr, hb⟩
  have HM1 := Lib.hid (HM.out.below hb)
  have HR1 := Lib.hid hr
  clear HM hr hb
  go_wp2_with fail
  refine (new_ok A (2 * M + 1) c (smN M) w1 HR1 HOK.out).mono ?_
  rintro e w2 ⟨gt, rfl, hg, hx, hb⟩
  have HM := Lib.hid (new_tab HM1.out hg hb hx)
  rw [show acc (smN M) = smT M from rfl] at HM ⊢
  rw [HL.out]
  unfold freqV
  clear HM1 HR1 HOK hg hb hx
  go_wp2_with (first | ((first | refine wv_box rfl _ _ rfl rfl HM ?_ | refine wv_alloc rfl _ rfl (by exact rowOf) HM ?_); first | (have q:dV HM = 0:=rfl;clear q HM;intro g1 u1 HG1 HM) | (have q:dV HM = 1:=rfl;clear q HM;intro g2 u2 HG2 HM) | (have q:dV HM = 2:=rfl;clear q HM;intro g3 u3 HG3 HM) | (have q:dV HM = 3:=rfl;clear q HM;intro g4 u4 HG4 HM)) | (refine wv_load rfl _ _ rfl rfl (by exact rowOf) HM (by exact vmemOf) (by exact vsizOf) ?_) | (refine wv_store rfl _ _ _ rfl rfl rfl (by exact rowOf) HM (by exact vidxOf) (by exact vsizOf) (by exact vsizOf) (by exact voneOf) ?_; clear HM; intro us HM; dsimp only [List.set] at HM) | (refine wl_zero rfl _ rfl (by exact arrOf) (by kernel_rfl) ?_))
  have HC2 := Lib.hid (HC.out _ _ us gt HM.out (.tail _ (.head _)))
  clear HM HC
  cases o with
  | some s' =>
    refine HC2.out.mono ?_
    intro e u hr
    have HR := Lib.hid hr
    obtain ⟨rfl, -⟩ := hr
    clear HC2
    go_wp2
    go_ret
    exact HR.out
  | none =>
    refine HC2.out.mono ?_
    intro e u hr
    have HR := Lib.hid hr
    obtain ⟨E, -, rfl, -⟩ := hr
    clear HC2
    go_wp2
    go_ret
    exact HR.out
end
theorem load_lvO {u : World} {gF : Nat} {T : TypeId} {F : List Int} (h : Blk u gF T (icells F)) (hl : F.length = 23) : (loadVar 23 ⟨gF, 1, none⟩).run Tryz.prog u = .ok (.agg (icells (lvO F))) u :=
  run_load_part (z := icells (zr 6)) arrLev.row h (o := 1) (ys := lvO F) (fun j hj => by
    have e := Yr.lvO_get (F := F) hj
    rw [e]
    unfold icells
    rw [List.getElem?_toArray, List.getElem?_map, List.getElem?_eq_getElem (by omega), List.getD_eq_getElem?_getD, List.getElem?_eq_getElem (by omega)]
    rfl) (lvO_length hl)
section
variable {S : Type} {w0 : World} {g : Nat} {fs lb : Array Value} {gF : Nat} {st : Stp S} {fr : S → List Int} {pos : S → Nat} {Inv : S → List Ent → World → Prop}
theorem TelOk.edg {N : Nat} {TF : TypeId} (h : TelOk w0 g fs lb gF N TF st fr pos Inv) {s : S} {K : List Ent} {u : World} (he : Edg w0) (hi : Inv s K u) : Edg u := he.below (h.row hi).2.2
set_option maxHeartbeats 8000000 in
theorem tnums_any (s : S) (KK : List Ent) (w : World) (hT : Hid (TelOk w0 g fs lb gF 23 26 st fr pos Inv)) (hi : Hid (Inv s KK w)) (he : Hid (Edg w0)) (hpo : pos s ≤ 7) :
    Calls Tryz.prog 57 #[.pointer (some ⟨gF, 0, none⟩), .func (.func g) fs lb] w (TelR w0 Inv KK (nmA st fr s)) := by
  have HLF := Lib.hid (hT.out.row hi.out).2.1
  have HLD := Lib.hid (load_lvO (hT.out.row hi.out).1 HLF.out)
  have HM := Lib.hid (MV.start w)
  have HSH := Lib.hid (bshare_any (lvO (fr s)) 120 w (lvO_length HLF.out) (hT.out.edg he.out hi.out))
  cases hc : chkL (lvO (fr s)) with
  | false =>
    rw [show nmA st fr s = none by unfold nmA; rw [hc]; rfl]
    rw [share_vno _ hc] at HSH
    have HW := Lib.hid (hT.out.row hi.out).2.2
    have LZ := Lib.hid (zr_length 6)
    generalize lvO (fr s) = l at HLD HSH
    clear hc hi HLF
    go_enter Tryz.func57, Tryz.ntmps57
    go_wp2_with (first | (refine wv_loadE rfl _ _ rfl rfl HLD ?_) | (first | ((first | refine wv_box rfl _ _ rfl rfl HM ?_ | refine wv_alloc rfl _ rfl (by exact rowOf) HM ?_); first | (have q:dV HM = 0:=rfl;clear q HM;intro g1 u1 HG1 HM) | (have q:dV HM = 1:=rfl;clear q HM;intro g2 u2 HG2 HM) | (have q:dV HM = 2:=rfl;clear q HM;intro g3 u3 HG3 HM) | (have q:dV HM = 3:=rfl;clear q HM;intro g4 u4 HG4 HM)) | (refine wv_load rfl _ _ rfl rfl (by exact rowOf) HM (by exact vmemOf) (by exact vsizOf) ?_) | (refine wv_store rfl _ _ _ rfl rfl rfl (by exact rowOf) HM (by exact vidxOf) (by exact vsizOf) (by exact vsizOf) (by exact voneOf) ?_; clear HM; intro us HM; dsimp only [List.set] at HM) | (refine wl_zero rfl _ rfl (by exact arrOf) (by kernel_rfl) ?_)))
    refine HSH.out.mono ?_
    rintro e w2 ⟨rfl, hb⟩
    have HM2 := Lib.hid (HM.out.below hb)
    clear HM hb HLD HSH
    have HM := HM2
    clear HM2
    go_wp2_with (first | ((first | refine wv_box rfl _ _ rfl rfl HM ?_ | refine wv_alloc rfl _ rfl (by exact rowOf) HM ?_); first | (have q:dV HM = 0:=rfl;clear q HM;intro g1 u1 HG1 HM) | (have q:dV HM = 1:=rfl;clear q HM;intro g2 u2 HG2 HM) | (have q:dV HM = 2:=rfl;clear q HM;intro g3 u3 HG3 HM) | (have q:dV HM = 3:=rfl;clear q HM;intro g4 u4 HG4 HM)) | (refine wv_load rfl _ _ rfl rfl (by exact rowOf) HM (by exact vmemOf) (by exact vsizOf) ?_) | (refine wv_store rfl _ _ _ rfl rfl rfl (by exact rowOf) HM (by exact vidxOf) (by exact vsizOf) (by exact vsizOf) (by exact voneOf) ?_; clear HM; intro us HM; dsimp only [List.set] at HM) | (refine wl_zero rfl _ rfl (by exact arrOf) (by kernel_rfl) ?_))
    go_ret
    exact ⟨1, rfl, rfl, HW.out.trans (HM.out.1.mono HW.out.size)⟩
  | true =>
    have eg := hT.out.enters
    rw [share_v _ hc] at HSH
    have HMS := Lib.hid (fun n (hn : n < 16) => ms_cases hc hn)
    have HRO := Lib.hid (show nmT st (msL (lvO (fr s))) (16 - 0) s = nmA st fr s by unfold nmA; rw [if_pos hc])
    have LA := Lib.hid (show (shareL (lvO (fr s)) 120).length = 6 from (share_ok (lvO (fr s)) (B := 120) (by decide)).1.1)
    generalize msL (lvO (fr s)) = ms at HMS HRO
    generalize shareL (lvO (fr s)) 120 = A at HSH HMS LA
    generalize nmA st fr s = o at HRO ⊢
    generalize lvO (fr s) = l at HLD HSH
    clear hc HLF
    go_enter Tryz.func57, Tryz.ntmps57
    go_wp2_with (first | (refine wv_loadE rfl _ _ rfl rfl HLD ?_) | (first | ((first | refine wv_box rfl _ _ rfl rfl HM ?_ | refine wv_alloc rfl _ rfl (by exact rowOf) HM ?_); first | (have q:dV HM = 0:=rfl;clear q HM;intro g1 u1 HG1 HM) | (have q:dV HM = 1:=rfl;clear q HM;intro g2 u2 HG2 HM) | (have q:dV HM = 2:=rfl;clear q HM;intro g3 u3 HG3 HM) | (have q:dV HM = 3:=rfl;clear q HM;intro g4 u4 HG4 HM)) | (refine wv_load rfl _ _ rfl rfl (by exact rowOf) HM (by exact vmemOf) (by exact vsizOf) ?_) | (refine wv_store rfl _ _ _ rfl rfl rfl (by exact rowOf) HM (by exact vidxOf) (by exact vsizOf) (by exact vsizOf) (by exact voneOf) ?_; clear HM; intro us HM; dsimp only [List.set] at HM) | (refine wl_zero rfl _ rfl (by exact arrOf) (by kernel_rfl) ?_)))
    refine HSH.out.mono ?_
    rintro e w2 ⟨rfl, hb⟩
    have HM2 := Lib.hid (HM.out.below hb)
    clear HM hb HLD HSH
    have HM := HM2
    clear HM2
    go_wp2_with (first | ((first | refine wv_box rfl _ _ rfl rfl HM ?_ | refine wv_alloc rfl _ rfl (by exact rowOf) HM ?_); first | (have q:dV HM = 0:=rfl;clear q HM;intro g1 u1 HG1 HM) | (have q:dV HM = 1:=rfl;clear q HM;intro g2 u2 HG2 HM) | (have q:dV HM = 2:=rfl;clear q HM;intro g3 u3 HG3 HM) | (have q:dV HM = 3:=rfl;clear q HM;intro g4 u4 HG4 HM)) | (refine wv_load rfl _ _ rfl rfl (by exact rowOf) HM (by exact vmemOf) (by exact vsizOf) ?_) | (refine wv_store rfl _ _ _ rfl rfl rfl (by exact rowOf) HM (by exact vidxOf) (by exact vsizOf) (by exact vsizOf) (by exact voneOf) ?_; clear HM; intro us HM; dsimp only [List.set] at HM) | (refine wl_zero rfl _ rfl (by exact arrOf) (by kernel_rfl) ?_))
    obtain ⟨gA, hgA⟩ : ∃ gA, gA = g1 := ⟨_, rfl⟩
    subst hgA
    have HI0 := Lib.hid (hT.out.mv hi.out HM.out)
    clear HM hi
    go_loopw [22] (fun vi wr => ∃ (k : Nat) (s' : S), vi = .int .i64 (k : Int) ∧ k ≤ 16 ∧ pos s' ≤ 7 + k ∧ Hid (Inv s' ((gA, 84, icells A) :: KK) wr) ∧ Hid (nmT st ms (16 - k) s' = o)) (fun vi _ => 16 - (intOf vi).toNat)
    case atStart => exact ⟨0, s, rfl, by omega, hpo, HI0, HRO⟩
    case round =>
      clear HI0 HRO
      obtain ⟨k, s', rfl, hk, hpk, HI, HRO⟩ := hrel
      by_cases hlt : k < 16
      · have k16 : (k : Int) < 16 := by omega
        have HE := Lib.hid (hT.out.edg he.out HI.out)
        go_wp2_with fail
        refine (of_good k wr hlt HE.out).mono ?_
        rintro e w2 ⟨rfl, rfl⟩
        obtain ⟨z, z7, hz, hzm⟩ := HMS.out k hlt
        have hb6 := (bnd_all k hlt).1
        have c1 := blk_at (hT.out.get HI.out (.head _)) (i := bnd k) (by rw [LA.out]; exact hb6)
        rw [hz] at c1
        generalize bnd k = b at hb6 c1
        have b6 : (b : Int) < 6 := by omega
        have HC1 := Lib.hid c1
        clear hz
        rcases hzm with ⟨rfl, hm0⟩ | ⟨hz1, hm1⟩
        · have HRO2 := Lib.hid ((nmT_skip st (ms := ms) (k := k) (s := s') hlt (by rw [hm0]; omega)).symm.trans HRO.out)
          clear HRO
          go_wp2_with fail
          go_roundw
          case rel => exact ⟨k + 1, s', by go_num, by omega, by omega, HI, HRO2⟩
          case measure => simp [intOf]; omega
        · have hM := mostN_bd z (by omega)
          have hMp := mostN_pos' hz1
          have HQM := Lib.hid (fun u => qmost_is (z : Int) u)
          rw [show mostV (z : Int) = mostN z by unfold mostV; congr 1; omega] at HQM
          have HOK := Lib.hid (smN_ok (k := z) (by omega))
          generalize mostN z = M at hM hMp HQM HOK hm1
          have z0 : ((z : Int) == 0) = false := by simp; omega
          have HM := Lib.hid ((MV.start wr).drew)
          have HPS := Lib.hid (fun s2 (h : st s' (smT M) (7 + k) (-(M : Int)) = some s2) => hT.out.fwd hpk h)
          have HST := Lib.hid (fun s2 (h : st s' (smT M) (7 + k) (-(M : Int)) = some s2) => (nmT_step st (ms := ms) (k := k) (s := s') (s' := s2) hlt (by rw [hm1]; exact hMp) (by rw [hm1, Int.toNat_natCast]; exact h)).symm.trans HRO.out)
          have HNO := Lib.hid (fun (h : st s' (smT M) (7 + k) (-(M : Int)) = none) => (nmT_no st (ms := ms) (k := k) (s := s') hlt (by rw [hm1]; exact hMp) (by rw [hm1, Int.toNat_natCast]; exact h)).symm.trans HRO.out)
          have HTN := Lib.hid (fun (u w1 : World) (hm : MV wr w1 [] u) => tnum_any (i := 7 + k) (M := M) s' ((gA, 84, icells A) :: KK) u hT (Lib.hid (hT.out.mv (L := []) HI.out hm)) (by omega) (by omega) (by omega) HOK.out hpk)
          generalize st s' (smT M) (7 + k) (-(M : Int)) = o2 at HTN HPS HST HNO
          clear HRO hm1 hMp hM HOK
          go_wp2_with fail
          refine wp_region_held_drew (S := fun _ => True) (by kernel_rfl) trivial (fun hHeld => ?_)
          have HLD := Lib.hid (run_load_int (w := wr.drew) HC1.out)
          clear HC1 c1
          generalize World.drew _ = wd at HM HLD hHeld ⊢
          (refine wa_take (i := 0) rfl (by kernel_rfl) (by kernel_rfl) (by kernel_rfl) (fun _ _ _ h => h) (yi_free rfl (fun u => rfl)) hHeld rfl ?_; (try simp only [Act.put, qz1, qz2, qz3]))
          (refine wa_take (i := 1) rfl (by kernel_rfl) (by kernel_rfl) (by kernel_rfl) (fun _ _ _ h => h) (yi_free rfl (fun u => rfl)) hHeld rfl ?_; (try simp only [Act.put, qz1, qz2, qz3]))
          (refine wa_take (i := 2) rfl (by kernel_rfl) (by kernel_rfl) (by kernel_rfl) (fun _ _ _ h => h) (yi_free rfl (fun u => rfl)) hHeld rfl ?_; (try simp only [Act.put, qz1, qz2, qz3]))
          (refine wa_take (i := 3) (v := .pointer (some ⟨gF, 7, none⟩)) rfl (by kernel_rfl) (by kernel_rfl) (by kernel_rfl) (fun _ _ _ h => h) (yi_free rfl (fun u => by go_simp)) hHeld rfl ?_; (try simp only [Act.put, qz1, qz2, qz3]))
          (refine wa_take (i := 4) (v := .pointer (some ⟨gF, 7 + k, none⟩)) rfl (by kernel_rfl) (by kernel_rfl) (by kernel_rfl) (fun _ _ _ h => h) (yi_free rfl (fun u => by go_simp)) hHeld rfl ?_; (try simp only [Act.put, qz1, qz2, qz3]))
          (refine wa_take (i := 5) rfl (by kernel_rfl) (by kernel_rfl) (by kernel_rfl) (fun _ _ _ h => h) (yi_free rfl (fun u => rfl)) hHeld rfl ?_; (try simp only [Act.put, qz1, qz2, qz3]))
          (refine wa_take (i := 6) (v := .pointer (some ⟨gA, b, none⟩)) rfl (by kernel_rfl) (by kernel_rfl) (by kernel_rfl) (fun _ _ _ h => h) (yi_free rfl (fun u => by go_simp)) hHeld rfl ?_; (try simp only [Act.put, qz1, qz2, qz3]))
          (refine wa_take (i := 9) (v := .func (.func g) fs lb) rfl (by kernel_rfl) (by kernel_rfl) (by kernel_rfl) (fun _ _ _ h => h) (yi_free rfl (fun u => rfl)) hHeld rfl ?_; (try simp only [Act.put, qz1, qz2, qz3]))
          refine wpAnyH_ready (rs := [7]) (by kernel_rfl) (by simp) ?_; refine AllReadyH.cons rfl (fun K hK => ?_) (AllReadyH.nil)
          rw [if_pos (by rfl)]; refine ov_load _ _ rfl rfl (HLD.out) ?_
          refine hK.out _ _ trivial (fun hHeld => ?_)
          clear hK K HLD
          (try simp only [Act.put, qz1, qz2, qz3])
          refine wpAnyH_ready (rs := [8]) (by kernel_rfl) (by simp) ?_; refine AllReadyH.cons rfl (fun K hK => ?_) (AllReadyH.nil)
          rw [if_pos (by rfl)]; go_simp
          refine (HQM.out _).mono ?_
          rintro e w3 ⟨rfl, rfl⟩
          go_wp2_with fail
          refine hK.out _ _ trivial (fun hHeld => ?_)
          clear hK K HQM
          (try simp only [Act.put, qz1, qz2, qz3])
          refine wpAnyH_ready (rs := [10]) (by kernel_rfl) (by simp) ?_; refine AllReadyH.cons rfl (fun K hK => ?_) (AllReadyH.nil)
          rw [if_pos (by rfl)]; go_simp
          cases o2 with
          | some s2 =>
            have HST2 := Lib.hid (HST.out s2 rfl)
            have HPS2 := Lib.hid (HPS.out s2 rfl)
            clear HST HNO HPS
            refine (HTN.out _ _ HM.out).mono ?_
            rintro e w5 ⟨rfl, hi5⟩
            have HI5 := Lib.hid hi5
            clear HTN hi5 hHeld HM
            go_wp2_with fail
            refine hK.out _ _ trivial (fun hHeld => ?_)
            clear hK K
            (try simp only [Act.put, qz1, qz2, qz3])
            (refine wa_take (i := 11) (v := .int .i64 0) rfl (by kernel_rfl) (by kernel_rfl) (by kernel_rfl) (fun _ _ _ h => h) (yi_free rfl (fun u => rfl)) hHeld rfl ?_; (try simp only [Act.put, qz1, qz2, qz3]))
            refine wpAnyH_done (by kernel_rfl) ?_ _
            go_wp2
            go_roundw
            case rel => exact ⟨k + 1, s2, by go_num, by omega, HPS2.out, HI5, HST2⟩
            case measure => simp [intOf]; omega
          | none =>
            have HNO2 := Lib.hid (HNO.out rfl)
            clear HST HNO HPS
            refine (HTN.out _ _ HM.out).mono ?_
            rintro e w5 ⟨E, hE, rfl, hb5⟩
            have HB5 := Lib.hid hb5
            clear HTN hb5 hHeld HM
            go_wp2_with fail
            refine hK.out _ _ trivial (fun hHeld => ?_)
            clear hK K
            (try simp only [Act.put, qz1, qz2, qz3])
            (refine wa_take (i := 11) (v := .int .i64 E) rfl (by kernel_rfl) (by kernel_rfl) (by kernel_rfl) (fun _ _ _ h => h) (yi_free rfl (fun u => rfl)) hHeld rfl ?_; (try simp only [Act.put, qz1, qz2, qz3]))
            refine wpAnyH_done (by kernel_rfl) ?_ _
            go_wp2
            go_ret
            rw [← HNO2.out]
            exact ⟨E, hE, rfl, HB5.out⟩
      · obtain rfl : k = 16 := by omega
        have HRO2 := Lib.hid (show some s' = o from HRO.out)
        clear HRO
        go_wp2
        go_ret
        rw [← HRO2.out]
        exact ⟨rfl, hT.out.sub HI.out (List.sublist_cons_self _ _)⟩
end
end Go.Proofs.YtgpdgegelipboaaGreatDoor.Lp
namespace Go.Proofs.YtgpdgegelipboaaGreatDoor.Lp
open Go.RowKit Fx Fq Tb
open Yr (Stp kT lvA nmA numA thru lvO)
section
variable {S : Type} {w0 : World} {g : Nat} {fs lb : Array Value} {gF : Nat} {st : Stp S} {fr : S → List Int} {pos : S → Nat} {Inv : S → List Ent → World → Prop}
set_option maxHeartbeats 8000000 in
theorem thru_any (s : S) (KK : List Ent) (w : World) (p : List Int) (hT : Hid (TelOk w0 g fs lb gF 23 26 st fr pos Inv)) (hi : Hid (Inv s KK w)) (he : Hid (Edg w0)) (lp : p.length = 6) (hp : chkL p = true) (hpo : pos s = 0) :
    Calls Tryz.prog 29 #[.pointer (some ⟨gF, 0, none⟩), .agg (icells p), .func (.func g) fs lb] w (TelR w0 Inv KK (thru st fr p s)) := by
  have HM := Lib.hid (MV.start w)
  have LP := Lib.hid lp
  have HP := Lib.hid hp
  obtain ⟨o, ho⟩ : ∃ o, o = thru st fr p s := ⟨_, rfl⟩
  have HO := Lib.hid (show (st s kT 0 0).bind (fun s1 => (lvA st fr p s1).bind fun s2 => numA st fr s2) = o from ho.symm)
  rw [← ho]
  clear ho lp hp
  go_enter Tryz.func29, Tryz.ntmps29
  go_wp2_with (first | ((first | refine wv_box rfl _ _ rfl rfl HM ?_ | refine wv_alloc rfl _ rfl (by exact rowOf) HM ?_); first | (have q:dV HM = 0:=rfl;clear q HM;intro g1 u1 HG1 HM) | (have q:dV HM = 1:=rfl;clear q HM;intro g2 u2 HG2 HM) | (have q:dV HM = 2:=rfl;clear q HM;intro g3 u3 HG3 HM) | (have q:dV HM = 3:=rfl;clear q HM;intro g4 u4 HG4 HM)) | (refine wv_load rfl _ _ rfl rfl (by exact rowOf) HM (by exact vmemOf) (by exact vsizOf) ?_) | (refine wv_store rfl _ _ _ rfl rfl rfl (by exact rowOf) HM (by exact vidxOf) (by exact vsizOf) (by exact vsizOf) (by exact voneOf) ?_; clear HM; intro us HM; dsimp only [List.set] at HM) | (refine wl_zero rfl _ rfl (by exact arrOf) (by kernel_rfl) ?_))
  obtain ⟨gP, hgP⟩ : ∃ gP, gP = g1 := ⟨_, rfl⟩
  subst hgP
  have HI0 := Lib.hid (show Inv s ((gP, 23, icells p) :: KK) u1 from hT.out.mv hi.out HM.out)
  have HTK := Lib.hid (tkind_any s ((gP, 23, icells p) :: KK) u1 hT HI0 (by omega) (by omega))
  have HP1 := Lib.hid (fun s1 (h : st s kT 0 0 = some s1) => hT.out.fwd (by omega) h)
  generalize st s kT 0 0 = o1 at HTK HO HP1
  clear HM hi HI0
  cases o1 with
  | none =>
    have HN := Lib.hid (show none = o from HO.out)
    clear HO
    refine HTK.out.mono ?_
    rintro e w2 ⟨E, hE, rfl, hb⟩
    have HB := Lib.hid hb
    clear hb HTK
    go_wp2
    go_ret
    rw [← HN.out]
    exact ⟨E, hE, rfl, HB.out⟩
  | some s1 =>
    have HO1 := Lib.hid (show (lvA st fr p s1).bind (fun s2 => numA st fr s2) = o from HO.out)
    clear HO
    refine HTK.out.mono ?_
    rintro e w2 ⟨rfl, hi1⟩
    have HI1 := Lib.hid hi1
    have HLD := Lib.hid (run_load_blk arrLev.row (hT.out.get hi1 (.head _)) ((icells_size p).trans LP.out))
    have HTL := Lib.hid (tlev_any s1 ((gP, 23, icells p) :: KK) w2 p hT HI1 LP.out HP.out (HP1.out s1 rfl))
    have HP2 := Lib.hid (fun s2 (h : lvA st fr p s1 = some s2) => Yr.lvT_pos st (fun _ _ _ _ _ h1 h2 => hT.out.fwd h1 h2) 6 s1 s2 (by omega) (HP1.out s1 rfl) h)
    generalize lvA st fr p s1 = o2 at HTL HO1 HP2
    clear HTK hi1 HI1
    go_wp2_with (refine wv_loadE rfl _ _ rfl rfl HLD ?_)
    clear HLD
    cases o2 with
    | none =>
      have HN := Lib.hid (show none = o from HO1.out)
      clear HO1
      refine HTL.out.mono ?_
      rintro e w3 ⟨E, hE, rfl, hb⟩
      have HB := Lib.hid hb
      have hE2 : ¬ E = 0 := by simpa using hE
      clear hb HTL
      go_wp2
      go_ret
      rw [← HN.out]
      exact ⟨E, hE, rfl, HB.out⟩
    | some s2 =>
      have HO2 := Lib.hid (show numA st fr s2 = o from HO1.out)
      clear HO1
      refine HTL.out.mono ?_
      rintro e w3 ⟨rfl, hi2⟩
      have HI2 := Lib.hid hi2
      have c0 := blk_at (hT.out.row hi2).1 (i := 0) (by rw [(hT.out.row hi2).2.1]; decide)
      clear HTL hi2
      by_cases hK : (fr s2).getD 0 0 = 2
      · have HN := Lib.hid (show some s2 = o by rw [← HO2.out]; unfold numA; rw [if_pos hK])
        generalize (fr s2).getD 0 0 = K2 at c0 hK
        have a2 : (K2 == 2) = true := by simpa using hK
        clear HO2 hK
        go_wp2
        go_ret
        rw [← HN.out]
        exact ⟨rfl, hT.out.sub HI2.out (List.sublist_cons_self _ _)⟩
      · have HN := Lib.hid (show nmA st fr s2 = o by rw [← HO2.out]; unfold numA; rw [if_neg hK])
        have HTN := Lib.hid (tnums_any s2 ((gP, 23, icells p) :: KK) w3 hT HI2 he (HP2.out s2 rfl))
        rw [HN.out] at HTN
        generalize (fr s2).getD 0 0 = K2 at c0 hK
        have a2 : (K2 == 2) = false := by simpa using hK
        clear HO2 HN HI2 hK
        go_wp2_with fail
        cases o with
        | none =>
          refine HTN.out.mono ?_
          rintro e w4 ⟨E, hE, rfl, hb⟩
          have HB := Lib.hid hb
          clear hb HTN
          go_wp2
          go_ret
          exact ⟨E, hE, rfl, HB.out⟩
        | some s3 =>
          refine HTN.out.mono ?_
          rintro e w4 ⟨rfl, hi4⟩
          have HI4 := Lib.hid (hT.out.sub hi4 (List.sublist_cons_self _ _))
          clear hi4 HTN
          go_wp2
          go_ret
          exact ⟨rfl, HI4.out⟩
end
end Go.Proofs.YtgpdgegelipboaaGreatDoor.Lp
namespace Go.Proofs.YtgpdgegelipboaaGreatDoor.Lp
open Go.RowKit Fx Fq Tb
open Cd (Pr Tb RdT tbs own_far row_neC)
open Yr (stW)
theorem run_load_one {T : TypeId} (hg : ∀ w, (isAgg T).run Tryz.prog w = .ok false w) {w : World} {ad : Addr} {v : Value} (hc : w.cell? ad = some v) : (loadVar T ad).run Tryz.prog w = .ok v w := by
  simp only [loadVar, hg, Sem.run_bind, Result.andThen_ok, run_load, hc, Bool.false_eq_true, if_false]
theorem aggT (w : World) : (isAgg 32).run Tryz.prog w = .ok false w := by kernel_rfl
theorem aggS (w : World) : (isAgg 33).run Tryz.prog w = .ok false w := by kernel_rfl
theorem rdI_far1 {u : World} {ad : Addr} {m b : Nat} {xs : List Int} {t : TypeId} {v : Value} (hr : RdI u (some ad) m xs) (hm : 0 < m) (hb : Blk u b t #[v]) (hv : ∀ x, v ≠ .int .i64 x) : some b ≠ some ad.block := by
  obtain ⟨ad', e', -, hc⟩ := hr.at_ (k := 0) hm
  have e2 : ad = ad' := Option.some.inj e'
  subst e2
  intro hg
  have hg := Option.some.inj hg
  have h0 : ad.add 0 = ad := rfl
  rw [h0] at hc
  unfold Blk at hb
  unfold World.cell? at hc
  rw [← hg, hb] at hc
  cases hs : ad.spot.isSome with
  | true => simp [hs] at hc
  | false =>
    simp only [hs] at hc
    rw [if_neg Bool.false_ne_true] at hc
    rcases Nat.eq_zero_or_pos ad.off with hl | hl
    · rw [hl] at hc
      injection hc with hc
      exact hv _ hc
    · rw [Array.getElem?_eq_none (by simp; omega)] at hc
      cases hc
theorem own_notint {u : World} {B n : Nat} {e : TypeId} {v : Value} {xs : List Value} (h : u.ownsRow B e 1 v n xs) : ∀ x, v ≠ .int .i64 x := by
  intro x
  rcases h.2 with ⟨rfl, _⟩ | ⟨g, cap, cur, rfl, -⟩
  · intro h; cases h
  · intro h; cases h
section
variable {w : World} {gF gP gT gS B n6 n7 : Nat} {F p : List Int} {v6 v7 v' : Value} {ps6 ps7 : List Pr} {K : List Ent} {u u' : World}
theorem SyS.cell (h : SyS w gF gP B F p v6 v7 n6 n7 ps6 ps7 u) {b : Nat} (hB : b < B) (hF : b ≠ gF) (hP : b ≠ gP) (hw : w.heap.size ≤ b) {T : TypeId} {v : Value} (hb : Blk u b T #[v]) (hv : ∀ x, v ≠ .int .i64 x) (x : Value) : SyS w gF gP B F p v6 v7 n6 n7 ps6 ps7 (u.setCell ⟨b, 0, none⟩ x) := by
  have hg := grown_set u b 0 x
  obtain ⟨ts, t1, t2, t3⟩ := h.tabs
  refine ⟨h.fr.only hg hF.symm, h.pr.only hg hP.symm, World.ownsRow.kept h.syms hg (.inr (own_far h.syms hB)), ⟨ts, t1, World.ownsRow.kept t2 hg (.inr (own_far t2 hB)), fun t ht => ?_⟩, h.l2, h.l3, h.h2, h.h3, Nat.le_trans h.hBu hg.size, h.blw.setCell hw _⟩
  obtain ⟨ad, r1, r2, r3, r6, r4, r5⟩ := t3 t ht
  exact ⟨ad, r1, Nat.lt_of_lt_of_le r2 hg.size, r3, r6, rdI_rowF r4 hg fun a e hn => (by injection e with e; subst e; exact rdI_far1 r4 hn hb hv), r5⟩
structure LsG (w : World) (gF gP gT gS B : Nat) : Prop where
  tB : gT < B
  sB : gS < B
  tw : w.heap.size ≤ gT
  sw : w.heap.size ≤ gS
  ts : gT ≠ gS
  tF : gT ≠ gF
  tP : gT ≠ gP
  sF : gS ≠ gF
  sP : gS ≠ gP
structure LsS (w : World) (gF gP gT gS B : Nat) (F p : List Int) (v6 v7 : Value) (ps6 ps7 : List Pr) (K : List Ent) (u : World) : Prop where
  sy : SyS w gF gP B F p v6 v7 ps6.length ps7.length ps6 ps7 u
  bT : Blk u gT 32 #[v7]
  bS : Blk u gS 33 #[v6]
  ks : ∀ e ∈ K, Blk u e.1 e.2.1 e.2.2 ∧ B ≤ e.1 ∧ v6.ownBlock ≠ some e.1 ∧ v7.ownBlock ≠ some e.1
theorem LsS.next (h : LsS w gF gP gT gS B F p v6 v7 ps6 ps7 K u) (hb : Below u.heap.size u u') : LsS w gF gP gT gS B F p v6 v7 ps6 ps7 K u' :=
  ⟨h.sy.next hb, h.bT.below hb h.bT.lt, h.bS.below hb h.bS.lt, fun e he => ⟨(h.ks e he).1.below hb (h.ks e he).1.lt, (h.ks e he).2⟩⟩
theorem LsS.add (h : LsS w gF gP gT gS B F p v6 v7 ps6 ps7 K u) (hb : Below u.heap.size u u') {L : List Ent} (hL : ∀ e ∈ L, u.heap.size ≤ e.1 ∧ Blk u' e.1 e.2.1 e.2.2) : LsS w gF gP gT gS B F p v6 v7 ps6 ps7 (L ++ K) u' := by
  have h2 := h.next hb
  obtain ⟨ts, -, t2, -⟩ := h.sy.tabs
  refine ⟨h2.sy, h2.bT, h2.bS, fun e he => ?_⟩
  rcases List.mem_append.1 he with he | he
  · obtain ⟨h3, h4⟩ := hL e he
    refine ⟨h4, Nat.le_trans h.sy.hBu h3, fun e2 => ?_, fun e2 => ?_⟩
    · have := (h.sy.syms.lt _ e2).2; omega
    · have := (t2.lt _ e2).2; omega
  · exact h2.ks e he
theorem LsS.tab (h : LsS w gF gP gT gS B F p v6 v7 ps6 ps7 K u) (G : LsG w gF gP gT gS B) (q : Pr) {gt m d : Nat} {ts : List Tb} (t1 : tbs ts = ps7.map (·.2)) (t2 : u.ownsRow B 40 1 v7 ps7.length (ts.map tbV)) (t3 : TbsF u v6.ownBlock v7.ownBlock ts) (ho : u'.ownsRow B 40 1 v' (ps7.length + 1) (ts.map tbV ++ [.slice (some ⟨gt, 0, none⟩) m d])) (hg : u.grownBy u' v7.ownBlock)
    (hr : RdI u (some ⟨gt, 0, none⟩) m q.2) (hl : gt < u.heap.size) (h6 : v6.ownBlock ≠ some gt) (h7 : v7.ownBlock ≠ some gt) (hm : m ≤ maxLen) (hv : v'.ownBlock = v7.ownBlock ∨ v'.ownBlock = some u.heap.size) :
    LsS w gF gP gT gS B F p v6 v' ps6 (ps7 ++ [q]) K (u'.setCell ⟨gT, 0, none⟩ v') ∧ u'.cell? ⟨gT, 0, none⟩ = some v7 ∧ u'.frozen? ⟨gT, 0, none⟩ = false := by
  have s1 := h.sy.push7 (ad := ⟨gt, 0, none⟩) q t1 t2 t3 ho hg hr hl h6 h7 hm hv
  have b1 := h.bT.row hg (own_far t2 G.tB)
  have b2 := h.bS.row hg (own_far t2 G.sB)
  refine ⟨⟨?_, ?_, Blk.far b2 (show gS ≠ gT from G.ts.symm) _, fun e he => ?_⟩, b1.cell 0, b1.frozen 0⟩
  · rw [List.length_append]
    exact s1.cell G.tB G.tF G.tP G.tw b1 (own_notint t2) v'
  · exact b1.set_ 0 v'
  · obtain ⟨k1, k2, k3, k4⟩ := h.ks e he
    refine ⟨Blk.far (k1.row hg k4) (show e.1 ≠ gT by have := G.tB; omega) _, k2, k3, ?_⟩
    rcases hv with hv | hv
    · rw [hv]; exact k4
    · rw [hv]
      intro e2
      injection e2 with e2
      have := k1.lt
      omega
theorem LsS.sym (h : LsS w gF gP gT gS B F p v6 v7 ps6 ps7 K u) (G : LsG w gF gP gT gS B) (q : Pr) (ho : u'.ownsRow B 3 1 v' (ps6.length + 1) ((ps6.map fun q => iV q.1) ++ [.int .i64 q.1])) (hg : u.grownBy u' v6.ownBlock) (hv : v'.ownBlock = v6.ownBlock ∨ v'.ownBlock = some u.heap.size) :
    LsS w gF gP gT gS B F p v' v7 (ps6 ++ [q]) ps7 K (u'.setCell ⟨gS, 0, none⟩ v') ∧ u'.cell? ⟨gS, 0, none⟩ = some v6 ∧ u'.frozen? ⟨gS, 0, none⟩ = false ∧ Blk u' gF 26 (icells F) := by
  have s1 := h.sy.push6 q ho hg hv
  have b1 := h.bT.row hg (own_far h.sy.syms G.tB)
  have b2 := h.bS.row hg (own_far h.sy.syms G.sB)
  refine ⟨⟨?_, Blk.far b1 (show gT ≠ gS from G.ts) _, ?_, fun e he => ?_⟩, b2.cell 0, b2.frozen 0, s1.fr⟩
  · rw [List.length_append]
    exact s1.cell G.sB G.sF G.sP G.sw b2 (own_notint h.sy.syms) v'
  · exact b2.set_ 0 v'
  · obtain ⟨k1, k2, k3, k4⟩ := h.ks e he
    refine ⟨Blk.far (k1.row hg k3) (show e.1 ≠ gS by have := G.sB; omega) _, k2, ?_, k4⟩
    rcases hv with hv | hv
    · rw [hv]; exact k3
    · rw [hv]
      intro e2
      injection e2 with e2
      have := k1.lt
      omega
end
def LsI (w : World) (gF gP gT gS B : Nat) (F p : List Int) (ps : List Pr) (K : List Ent) (u : World) : Prop := ∃ v6 v7, LsS w gF gP gT gS B F p v6 v7 ps ps K u
theorem ov_storeE {o : Oper} {a : Act} {w w' : World} {Q : Exit → Act → World → Prop} {K : Act → World → Prop} (T : TypeId) (x y : Operand) (ho : o.op = .store T x y) {ad : Addr} {v : Value} (hx : a.eval x = .pointer (some ad)) (hy : a.eval y = v) (hr : (storeVar T ad v).run Tryz.prog w = .ok () w') (hd : o.dst = none) (h : K (a.put none undef) w') : o.wp Tryz.prog a w K Q := by
  rw [← hd] at h
  unfold Oper.wp execOp
  simp only [ho, hx, hy, Instr.storeAt, Instr.sureAddr, Sem.run_bind, Sem.run_pure, Result.andThen_ok, hr]
  exact h
theorem run_store_row {T : TypeId} (hs : ∀ w, (sizeOf T).run Tryz.prog w = .ok 1 w) {w : World} {ad : Addr} {old : Value} {A : Option Addr} {n c : Nat} (hc : w.cell? ad = some old) (hf : w.frozen? ad = false) : (storeVar T ad (.slice A n c)).run Tryz.prog w = .ok () (w.setCell ad (.slice A n c)) := by
  simp [storeVar, storeCells, Value.cells, go_sem, run_store, Value.oneCell', hc, hf, hs]
end Go.Proofs.YtgpdgegelipboaaGreatDoor.Lp
namespace Go.Proofs.YtgpdgegelipboaaGreatDoor.Lp
open Go.RowKit Fx Fq Tb
open Cd (Pr Tb RdT tbs own_far row_neC)
open Yr (stW)
theorem own_slice {u : World} {B n : Nat} {e : TypeId} {v : Value} {xs : List Value} (h : u.ownsRow B e 1 v n xs) : ∃ A c, v = .slice A n c := by
  rcases h.2 with ⟨rfl, rfl⟩ | ⟨g, cap, cur, rfl, -⟩
  · exact ⟨none, 0, rfl⟩
  · exact ⟨_, _, rfl⟩
theorem sizS (w : World) : (sizeOf 33).run Tryz.prog w = .ok 1 w := by kernel_rfl
theorem rdI_blkE {u : World} {g : Nat} {xs : List Int} (h : Blk u g 3 (icells xs)) : RdI u (some ⟨g, 0, none⟩) xs.length xs := RdI.of_blk h rfl
def LsP (w : World) (gF gP gT gS B : Nat) (F p : List Int) (ps : List Pr) (K : List Ent) (e : Ending) (u : World) : Prop := e = .returned (.int .i64 0) ∧ LsI w gF gP gT gS B F p ps K u
set_option maxHeartbeats 4000000 in
theorem list1_any {w : World} {gF gP gT gS B : Nat} {F p : List Int} {ps : List Pr} {KK : List Ent} {u : World} {gt n i : Nat} {xs : List Int} {fst : Int} (G : Hid (LsG w gF gP gT gS B)) (h : LsI w gF gP gT gS B F p ps KK u) (LF : F.length = 23) (hF : -1099511627776 ≤ F.getD i 0 ∧ F.getD i 0 ≤ 1099511627776)
    (hin : (gt, 3, icells xs) ∈ KK) (hn : xs.length = n) (hl : n ≤ 300) (hi : i < 23) (h1 : -1000 ≤ fst) (h2 : fst ≤ 1000) (hp : ps.length ≤ i) :
    Calls Tryz.prog 38 #[.agg #[.slice (some ⟨gt, 0, none⟩) n n], .pointer (some ⟨gF, i, none⟩), .int .i64 fst, .pointer (some ⟨gT, 0, none⟩), .pointer (some ⟨gS, 0, none⟩)] u (LsP w gF gP gT gS B F p (ps ++ [(F.getD i 0 - fst, xs)]) KK) := by
  obtain ⟨i0, hi0, hz0, hz1, hz2⟩ := info_partsT info_intT
  obtain ⟨j0, hj0, hy0, hy1, hy2⟩ := info_partsT info_freqL
  obtain ⟨v6, v7, hs⟩ := h
  obtain ⟨k1, k2, k3, k4⟩ := hs.ks _ hin
  have HS := Lib.hid hs
  have HR := Lib.hid (show RdI u (some ⟨gt, 0, none⟩) n xs by rw [← hn]; exact rdI_blkE k1)
  have HGL := Lib.hid k1.lt
  have HK3 := Lib.hid k3
  have HK4 := Lib.hid k4
  have HLF := Lib.hid LF
  obtain ⟨x, hx⟩ : ∃ x, F.getD i 0 = x := ⟨_, rfl⟩
  rw [hx] at hF
  rw [hx]
  have HX := Lib.hid hx
  have w1 : IntKind.i64.wrap (x - fst) = x - fst := i64_w (by omega) (by omega)
  obtain ⟨m, hm⟩ : ∃ m, m = ps.length := ⟨_, rfl⟩
  have HMM := Lib.hid hm.symm
  have hm23 : m ≤ 23 := by omega
  have HL7 := Lib.hid (fun (L : List Ent) (w1 u' : World) (hmv : MV u w1 L u') => run_load_one aggT ((HS.out.next hmv.1).bT.cell 0))
  have HM := Lib.hid (MV.start u)
  clear hs k1 k2 k3 k4 hx hF hin hn hm LF hp
  go_enter Tryz.func38, Tryz.ntmps38
  go_wp2_with (first
    | (at_builtin
       have HS1 := Lib.hid ((HS.out.next HM.out.1).next ((Below.refl u1.heap.size u1).alloc (Nat.le_refl _) (.cells #[.slice (some ⟨gt, 0, none⟩) n n] 40)))
       have HR1 := Lib.hid ((HR.out.below HM.out.1).alloc (.cells #[.slice (some ⟨gt, 0, none⟩) n n] 40))
       have HGL1 := Lib.hid (show gt < (u1.alloc (.cells #[.slice (some ⟨gt, 0, none⟩) n n] 40)).heap.size by have := HGL.out; have := HM.out.1.size; simp; omega)
       obtain ⟨ts, t1, t2, t3⟩ := HS1.out.sy.tabs
       have H1 := Lib.hid t1
       have H2 := Lib.hid t2
       have H3 := Lib.hid t3
       have HB1 := Lib.hid HS1.out.sy.hBu
       clear t1 t2 t3 HS HR HGL HL7
       refine wpList_append_own_at _ rfl (.tmp 9) (.tmp 11) 32 rfl B 40 j0 _ 1 24 Tryz.underlying32 hj0 hy0 hy1 hy2 rfl (by omega) _ _ _ rfl H2.out ⟨u1.heap.size, 0, none⟩ 1 1 [.slice (some ⟨gt, 0, none⟩) n n] rfl rfl (cell_one_new _ _ _) (by intro u hu; simp at hu; subst hu; rfl) (by rw [HMM.out]; unfold maxLen; omega) (by rw [HMM.out]; omega) HB1.out ?_
       intro v8 w6 hown hg _ hv
       have HX6 := Lib.hid (HS1.out.tab G.out (x - fst, xs) H1.out H2.out H3.out hown hg HR1.out HGL1.out HK3.out HK4.out (by unfold maxLen; omega) hv)
       obtain ⟨A8, c8, hv8⟩ := own_slice hown
       subst hv8
       clear hown hg hv HS1 HR1 HGL1 H1 H2 H3 HB1 HM
       have c7 := HX6.out.2.1
       have f7 := HX6.out.2.2)
    | (refine wv_loadE rfl _ _ rfl rfl (Lib.hid (HL7.out _ _ _ HM.out)) ?_) | (first | ((first | refine wv_box rfl _ _ rfl rfl HM ?_ | refine wv_alloc rfl _ rfl (by exact rowOf) HM ?_); first | (have q:dV HM = 0:=rfl;clear q HM;intro g1 u1 HG1 HM) | (have q:dV HM = 1:=rfl;clear q HM;intro g2 u2 HG2 HM) | (have q:dV HM = 2:=rfl;clear q HM;intro g3 u3 HG3 HM) | (have q:dV HM = 3:=rfl;clear q HM;intro g4 u4 HG4 HM) | (have q:dV HM = 4:=rfl;clear q HM;intro g5 u5 HG5 HM) | (have q:dV HM = 5:=rfl;clear q HM;intro g6 u6 HG6 HM)) | (refine wv_load rfl _ _ rfl rfl (by exact rowOf) HM (by exact vmemOf) (by exact vsizOf) ?_) | (refine wv_store rfl _ _ _ rfl rfl rfl (by exact rowOf) HM (by exact vidxOf) (by exact vsizOf) (by exact vsizOf) (by exact voneOf) ?_; clear HM; intro us HM; dsimp only [List.set] at HM) | (refine wl_zero rfl _ rfl (by exact arrOf) (by kernel_rfl) ?_)))
  have HS2 := Lib.hid HX6.out.1
  generalize w6.setCell _ _ = w7 at HS2 ⊢
  clear HX6 c7 f7
  have HSd := Lib.hid (HS2.out.next (Below.drew (Below.refl _ _)))
  clear HS2
  refine wp_region_held_drew (S := fun y => y.cell? ⟨gF, i, none⟩ = some (.int .i64 x)) (by kernel_rfl) (by have h := blk_at HSd.out.sy.fr (i := i) (by rw [HLF.out]; exact hi); rw [HX.out] at h; exact h) (fun hHeld => ?_)
  have HC := Lib.hid (fun (y : World) (hy : y.cell? ⟨gF, i, none⟩ = some (.int .i64 x)) => hy)
  generalize World.drew _ = wd at HSd hHeld ⊢
  have HF := Lib.hid (fun (v6 v7 : Value) (ps6 ps7 : List Pr) (y : World) (h : LsS w gF gP gT gS B F p v6 v7 ps6 ps7 KK y) => (by have h2 := blk_at h.sy.fr (i := i) (by rw [HLF.out]; exact hi); rw [HX.out] at h2; exact h2 : y.cell? ⟨gF, i, none⟩ = some (.int .i64 x)))
  (refine wa_take (i := 1) (v := .pointer (some ⟨gF, i, none⟩)) rfl (by kernel_rfl) (by kernel_rfl) (by kernel_rfl) (fun _ _ _ h => h) (yi_free rfl (fun u => rfl)) hHeld rfl ?_; (try simp only [Act.put, qz1, qz2, qz3]))
  (refine wa_take (i := 2) (v := .pointer (some ⟨gF, i, none⟩)) rfl (by kernel_rfl) (by kernel_rfl) (by kernel_rfl) (fun _ _ _ h => h) (yi_free rfl (fun u => rfl)) hHeld rfl ?_; (try simp only [Act.put, qz1, qz2, qz3]))
  (refine wa_take (i := 3) rfl (by kernel_rfl) (by kernel_rfl) (by kernel_rfl) (fun _ _ _ h => h) (yi_cell rfl _ rfl rfl (HC).out) hHeld rfl ?_; (try simp only [Act.put, qz1, qz2, qz3]))
  (refine wa_take (i := 4) (v := .int .i64 fst) rfl (by kernel_rfl) (by kernel_rfl) (by kernel_rfl) (fun _ _ _ h => h) (yi_free rfl (fun u => rfl)) hHeld rfl ?_; (try simp only [Act.put, qz1, qz2, qz3]))
  (refine wa_take (i := 5) (v := .int .i64 (x - fst)) rfl (by kernel_rfl) (by kernel_rfl) (by kernel_rfl) (fun _ _ _ h => h) (yi_free rfl (fun u => by go_simp)) hHeld rfl ?_; (try simp only [Act.put, qz1, qz2, qz3]))
  refine wpAnyH_ready (rs := [0, 6]) (by kernel_rfl) (by simp) ?_; refine AllReadyH.cons rfl (fun K hK => ?_) (AllReadyH.cons rfl (fun K hK => ?_) (AllReadyH.nil))
  rotate_left
  focus
    rw [if_pos (by rfl)]; go_simp
    have HSa := Lib.hid (HSd.out.next ((Below.refl wd.heap.size wd).alloc (Nat.le_refl _) (.cells #[.int .i64 (x - fst)] 3)))
    refine hK.out _ _ (HF.out _ _ _ _ _ HSa.out) (fun hHeld => ?_)
    clear hK K
    (try simp only [Act.put, qz1, qz2, qz3])
    have HLD := Lib.hid (run_load_one aggS (HSa.out.bS.cell 0))
    refine wpAnyH_ready (rs := [0]) (by kernel_rfl) (by simp) ?_; refine AllReadyH.cons rfl (fun K hK => ?_) (AllReadyH.nil)
    rw [if_pos (by rfl)]; refine ov_load _ _ rfl rfl (HLD.out) ?_
    refine hK.out _ _ (HF.out _ _ _ _ _ HSa.out) (fun hHeld => ?_)
    clear hK K HLD
    (try simp only [Act.put, qz1, qz2, qz3])
  rotate_left
  focus
    have HLD := Lib.hid (run_load_one aggS (HSd.out.bS.cell 0))
    rw [if_pos (by rfl)]; refine ov_load _ _ rfl rfl (HLD.out) ?_
    refine hK.out _ _ (HF.out _ _ _ _ _ HSd.out) (fun hHeld => ?_)
    clear hK K HLD
    (try simp only [Act.put, qz1, qz2, qz3])
    refine wpAnyH_ready (rs := [6]) (by kernel_rfl) (by simp) ?_; refine AllReadyH.cons rfl (fun K hK => ?_) (AllReadyH.nil)
    rw [if_pos (by rfl)]; go_simp
    have HSa := Lib.hid (HSd.out.next ((Below.refl wd.heap.size wd).alloc (Nat.le_refl _) (.cells #[.int .i64 (x - fst)] 3)))
    refine hK.out _ _ (HF.out _ _ _ _ _ HSa.out) (fun hHeld => ?_)
    clear hK K
    (try simp only [Act.put, qz1, qz2, qz3])
  all_goals
    refine wpAnyH_ready (rs := [7]) (by kernel_rfl) (by simp) ?_; refine AllReadyH.cons rfl (fun K hK => ?_) (AllReadyH.nil)
    refine step_append_lies _ rfl (.tmp 13) (.tmp 19) 33 rfl B 3 i0 _ 1 8 Tryz.underlying33 hi0 hz0 hz1 hz2 rfl (by omega) _ _ _ rfl HSa.out.sy.syms ⟨wd.heap.size, 0, none⟩ 1 1 [.int .i64 (x - fst)] rfl rfl (cell_one_new _ _ _) (by intro u hu; simp at hu; subst hu; rfl) (by omega) (by rw [HMM.out]; unfold maxLen; omega) (by rw [HMM.out]; omega) (by have := HSa.out.sy.hBu; simpa using this) _ rfl ?_
    intro g5 cap5 w4 hown1 hg1 hv1 _
    have HX4 := Lib.hid (HSa.out.sym G.out (x - fst, xs) hown1 hg1 (hv1.imp (fun h => h.symm) (fun h => by show some g5 = _; rw [h])))
    clear hown1 hg1 hv1 hHeld
    refine hK.out _ _ (by have h2 := blk_at HX4.out.2.2.2 (i := i) (by rw [HLF.out]; exact hi); rw [HX.out] at h2; exact h2) (fun hHeld => ?_)
    clear hK K
    (try simp only [Act.put, qz1, qz2, qz3])
    refine wpAnyH_ready (rs := [8]) (by kernel_rfl) (by simp) ?_; refine AllReadyH.cons rfl (fun K hK => ?_) (AllReadyH.nil)
    rw [if_pos (by rfl)]
    refine ov_storeE 33 _ _ rfl rfl rfl (run_store_row sizS HX4.out.2.1 HX4.out.2.2.1) rfl ?_
    have HS9 := Lib.hid HX4.out.1
    generalize w4.setCell _ _ = w9 at HS9 ⊢
    clear HX4 HSa HSd
    refine hK.out _ _ (HF.out _ _ _ _ _ HS9.out) (fun hHeld => ?_)
    clear hK K
    (try simp only [Act.put, qz1, qz2, qz3])
    refine wpAnyH_done (by kernel_rfl) ?_ _
    go_wp2
    go_ret
    exact ⟨rfl, _, _, HS9.out⟩
end Go.Proofs.YtgpdgegelipboaaGreatDoor.Lp
namespace Go.Proofs.YtgpdgegelipboaaGreatDoor.Lp
open Go.RowKit Fx Fq Tb
open Cd (Pr Tb RdT tbs prs)
open Yr (chkB symsP wrB inB kindR rdR)
def errC (K : Int) (l q p : List Int) : Int := if chkB K l q p = true then 0 else 1
def WrOut (w : World) (K : Int) (l q p : List Int) (e : Ending) (w' : World) : Prop :=
  if chkB K l q p = true then ∃ A n c, e = .returned (.tuple #[.slice A n c, .int .i64 0]) ∧ Rd w' A n (wrB K l q p) ∧ Below w.heap.size w w'
  else e = .returned (.tuple #[.slice none 0 0, .int .i64 1]) ∧ Below w.heap.size w w'
def TbOut (w : World) (K : Int) (l q : List Int) (e : Ending) (w' : World) : Prop :=
  if ¬ K = 1 ∧ chkB K l q (zr 6) = true then ∃ A n c L d ts, e = .returned (.tuple #[.slice L n d, .slice A n c, .int .i64 0]) ∧ (symsP K l q (zr 6)).length = n ∧ RdI w' A n ((symsP K l q (zr 6)).map (·.1)) ∧ RdT w' L n ts ∧ tbs ts = (symsP K l q (zr 6)).map (·.2) ∧ Below w.heap.size w w'
  else e = .returned (.tuple #[.slice none 0 0, .slice none 0 0, .int .i64 1]) ∧ Below w.heap.size w w'
def kdV (bs : List Nat) : Value := if 1 ≤ bs.length ∧ bs.length ≤ 40 then .tuple #[.int .i64 (kindR (inB bs)), .int .i64 0] else .tuple #[.int .i64 0, .int .i64 21]
theorem push_listF (l : List Int) (r : ByteArray) : (l.foldl (fun r n => r.push (UInt8.ofNat n.toNat)) r).data.toList = r.data.toList ++ l.map (fun n => UInt8.ofNat n.toNat) := by
  induction l generalizing r with
  | nil => simp
  | cons x l ih =>
    rw [List.foldl_cons, ih]
    have : (r.push (UInt8.ofNat x.toNat)).data = r.data.push (UInt8.ofNat x.toNat) := rfl
    rw [this, Array.toList_push]
    simp
theorem strOf_injF (a b : List Nat) (ha : ∀ x ∈ a, x < 256) (hb : ∀ x ∈ b, x < 256) (h : strOf a = strOf b) : a = b := by
  have h1 := congrArg (fun s : ByteArray => s.data.toList.map UInt8.toNat) h
  unfold strOf at h1
  simp only [push_listF, List.map_append, List.map_map] at h1
  have key : ∀ l : List Nat, (∀ x ∈ l, x < 256) → l.map (UInt8.toNat ∘ (fun n : Int => UInt8.ofNat n.toNat) ∘ fun n : Nat => (n : Int)) = l := by
    intro l hl
    refine (List.map_congr_left fun x hx => ?_).trans (List.map_id l)
    have := hl x hx
    simp; omega
  have e : ∀ l : List Nat, List.map (UInt8.toNat ∘ (fun n : Int => UInt8.ofNat n.toNat)) (List.map (fun n : Nat => (n : Int)) l) = l.map (UInt8.toNat ∘ (fun n : Int => UInt8.ofNat n.toNat) ∘ fun n : Nat => (n : Int)) := fun l => by rw [List.map_map]; rfl
  have h2 := List.append_cancel_left h1
  simp only [← List.map_map] at h2
  have k1 := key a ha
  have k2 := key b hb
  simp only [← List.map_map] at k1 k2
  rw [← k1, ← k2]
  exact h2
theorem str_beqF (a b : List Nat) (ha : ∀ x ∈ a, x < 256) (hb : ∀ x ∈ b, x < 256) : ((strOf a).toList == (strOf b).toList) = decide (a = b) := by
  by_cases h : a = b
  · subst h
    simp
  · rw [decide_eq_false h]
    refine beq_eq_false_iff_ne.2 fun e => h (strOf_injF a b ha hb ?_)
    rw [ByteArray.toList_eq, ByteArray.toList_eq] at e
    exact ByteArray.ext (Array.toList_inj.1 e)
def rdV (bs : List Nat) (p : List Int) : Value :=
  if chkL p = true then match rdR bs p with
    | some (K, l, q) => .tuple #[.agg (icells (frL K l q)), .int .i64 0]
    | none => .tuple #[.agg (icells (zr 23)), .int .i64 21]
  else .tuple #[.agg (icells (zr 23)), .int .i64 1]
theorem frL_len {K : Int} {l q : List Int} (ll : l.length = 6) (lq : q.length = 16) : (frL K l q).length = 23 := by
  unfold frL; rw [List.length_cons, List.length_append, ll, lq]
theorem frS_mk {K : Int} {l q : List Int} (ll : l.length = 6) (lq : q.length = 16) : FrS (frL K l q) K l q := by
  refine ⟨frL_len ll lq, ll, lq, rfl, ?_, ?_⟩
  · unfold frL; rw [List.drop_succ_cons, List.drop_zero, ← ll, List.take_left]
  · unfold frL; rw [show 7 = 6 + 1 by rfl, List.drop_succ_cons, ← ll, List.drop_left, ← lq, List.take_length]
theorem nums_len (q ms : List Int) : ∀ k, (Yr.numsP q ms k).length ≤ k
  | 0 => Nat.le_refl _
  | k + 1 => by
    have := nums_len q ms k
    rw [Yr.numsP_succ, List.length_append]
    split
    · rw [List.length_singleton]; omega
    · rw [List.length_nil]; omega
theorem syms_len (K : Int) (l q p : List Int) : (symsP K l q p).length ≤ 40 := by
  unfold symsP Yr.headP
  have := nums_len q (msL l) 16
  rw [List.length_append, List.length_cons, List.length_map, List.length_range]
  split
  · rw [List.length_nil]; omega
  · omega
theorem prs_is {ts : List Tb} {ps : List Pr} (h : tbs ts = ps.map (·.2)) : prs (ps.map (·.1)) ts = ps := by
  unfold prs
  unfold tbs at h
  rw [h]
  induction ps generalizing ts with
  | nil => rfl
  | cons x ps ih =>
    cases ts with
    | nil => cases h
    | cons t ts =>
      rw [List.map_cons, List.map_cons] at h
      injection h with h1 h2
      rw [List.map_cons, List.map_cons, List.zip_cons_cons, ih h2]
end Go.Proofs.YtgpdgegelipboaaGreatDoor.Lp
namespace Go.Proofs.YtgpdgegelipboaaGreatDoor.Lp
open Go.RowKit Fx Fq Tb
open Yr (nearN nearB chkB Fr nearN_succ chkB_iff)
theorem grdHopE : Tryz.prog.eqGuardType Tryz.prog.depth 24 = false := by kernel_rfl
set_option maxHeartbeats 4000000 in
theorem fnear_any (l p : List Int) (w : World) (ll : l.length = 6) (lp : p.length = 6) :
    Calls Tryz.prog 13 #[.agg (icells l), .agg (icells p)] w (ValQ w (.bool (nearB l p))) := by
  have LL := Lib.hid ll
  have LP := Lib.hid lp
  have HM := Lib.hid (Mem.start w)
  cases hl : chkL l with
  | false =>
    have HC := Lib.hid (fun u => bcheck_any l false 1 u ll hl rfl)
    rw [show nearB l p = false by unfold nearB; rw [hl]; rfl]
    clear ll lp hl
    go_enter Tryz.func13, Tryz.ntmps13
    go_wp2_with (first | (refine wl_skip (by rfl) ?_) | (first | (first | ((first | refine wl_box rfl _ _ rfl rfl HM ?_ | refine wl_alloc rfl _ rfl (by exact arrOf) HM ?_); first | (have q:dL HM = 0:=rfl;clear q HM;intro g1 u1 HM) | (have q:dL HM = 1:=rfl;clear q HM;intro g2 u2 HM) | (have q:dL HM = 2:=rfl;clear q HM;intro g3 u3 HM) | (have q:dL HM = 3:=rfl;clear q HM;intro g4 u4 HM)) | (refine wl_load rfl _ _ rfl rfl (by exact arrOf) HM (by exact memOf) (by exact lenOf) ?_) | (refine wl_storeM rfl _ _ _ rfl rfl rfl (by exact arrOf) HM (by exact idxOf) (by exact lenOf) (by exact lenOf) ?_; clear HM; intro us HM; dsimp only [List.set] at HM) | (refine wl_zero rfl _ rfl (by exact arrOf) (by kernel_rfl) ?_)) | (refine wl_loadS rfl _ _ rfl rfl (by exact arrOf) HM (by exact memOf) (by exact subF) (by exact lenOf) ?_) | (refine wl_cellF rfl _ rfl rfl HM (by exact memOf) (by exact celF) ?_)))
    refine (HC.out _).mono ?_
    rintro e w2 ⟨rfl, h1⟩
    have HM2 := Lib.hid (HM.out.below h1)
    clear h1 HM HC
    have HM := HM2
    clear HM2
    go_wp2_with (first | (refine wl_skip (by rfl) ?_) | (first | (first | ((first | refine wl_box rfl _ _ rfl rfl HM ?_ | refine wl_alloc rfl _ rfl (by exact arrOf) HM ?_); first | (have q:dL HM = 0:=rfl;clear q HM;intro g1 u1 HM) | (have q:dL HM = 1:=rfl;clear q HM;intro g2 u2 HM) | (have q:dL HM = 2:=rfl;clear q HM;intro g3 u3 HM) | (have q:dL HM = 3:=rfl;clear q HM;intro g4 u4 HM)) | (refine wl_load rfl _ _ rfl rfl (by exact arrOf) HM (by exact memOf) (by exact lenOf) ?_) | (refine wl_storeM rfl _ _ _ rfl rfl rfl (by exact arrOf) HM (by exact idxOf) (by exact lenOf) (by exact lenOf) ?_; clear HM; intro us HM; dsimp only [List.set] at HM) | (refine wl_zero rfl _ rfl (by exact arrOf) (by kernel_rfl) ?_)) | (refine wl_loadS rfl _ _ rfl rfl (by exact arrOf) HM (by exact memOf) (by exact subF) (by exact lenOf) ?_) | (refine wl_cellF rfl _ rfl rfl HM (by exact memOf) (by exact celF) ?_)))
    go_ret
    exact ⟨rfl, HM.out.1⟩
  | true =>
    have HC := Lib.hid (fun u => bcheck_any l true 0 u ll hl rfl)
    cases hp : chkL p with
    | false =>
      have HD := Lib.hid (fun u => bcheck_any p false 1 u lp hp rfl)
      rw [show nearB l p = false by unfold nearB; rw [hl, hp]; rfl]
      clear ll lp hl hp
      go_enter Tryz.func13, Tryz.ntmps13
      go_wp2_with (first | (refine wl_skip (by rfl) ?_) | (first | (first | ((first | refine wl_box rfl _ _ rfl rfl HM ?_ | refine wl_alloc rfl _ rfl (by exact arrOf) HM ?_); first | (have q:dL HM = 0:=rfl;clear q HM;intro g1 u1 HM) | (have q:dL HM = 1:=rfl;clear q HM;intro g2 u2 HM) | (have q:dL HM = 2:=rfl;clear q HM;intro g3 u3 HM) | (have q:dL HM = 3:=rfl;clear q HM;intro g4 u4 HM)) | (refine wl_load rfl _ _ rfl rfl (by exact arrOf) HM (by exact memOf) (by exact lenOf) ?_) | (refine wl_storeM rfl _ _ _ rfl rfl rfl (by exact arrOf) HM (by exact idxOf) (by exact lenOf) (by exact lenOf) ?_; clear HM; intro us HM; dsimp only [List.set] at HM) | (refine wl_zero rfl _ rfl (by exact arrOf) (by kernel_rfl) ?_)) | (refine wl_loadS rfl _ _ rfl rfl (by exact arrOf) HM (by exact memOf) (by exact subF) (by exact lenOf) ?_) | (refine wl_cellF rfl _ rfl rfl HM (by exact memOf) (by exact celF) ?_)))
      refine (HC.out _).mono ?_
      rintro e w2 ⟨rfl, h1⟩
      have HM2 := Lib.hid (HM.out.below h1)
      clear h1 HM HC
      have HM := HM2
      clear HM2
      go_wp2_with (first | (refine wl_skip (by rfl) ?_) | (first | (first | ((first | refine wl_box rfl _ _ rfl rfl HM ?_ | refine wl_alloc rfl _ rfl (by exact arrOf) HM ?_); first | (have q:dL HM = 0:=rfl;clear q HM;intro g1 u1 HM) | (have q:dL HM = 1:=rfl;clear q HM;intro g2 u2 HM) | (have q:dL HM = 2:=rfl;clear q HM;intro g3 u3 HM) | (have q:dL HM = 3:=rfl;clear q HM;intro g4 u4 HM)) | (refine wl_load rfl _ _ rfl rfl (by exact arrOf) HM (by exact memOf) (by exact lenOf) ?_) | (refine wl_storeM rfl _ _ _ rfl rfl rfl (by exact arrOf) HM (by exact idxOf) (by exact lenOf) (by exact lenOf) ?_; clear HM; intro us HM; dsimp only [List.set] at HM) | (refine wl_zero rfl _ rfl (by exact arrOf) (by kernel_rfl) ?_)) | (refine wl_loadS rfl _ _ rfl rfl (by exact arrOf) HM (by exact memOf) (by exact subF) (by exact lenOf) ?_) | (refine wl_cellF rfl _ rfl rfl HM (by exact memOf) (by exact celF) ?_)))
      refine (HD.out _).mono ?_
      rintro e w2 ⟨rfl, h1⟩
      have HM2 := Lib.hid (HM.out.below h1)
      clear h1 HM HD
      have HM := HM2
      clear HM2
      go_wp2_with (first | (refine wl_skip (by rfl) ?_) | (first | (first | ((first | refine wl_box rfl _ _ rfl rfl HM ?_ | refine wl_alloc rfl _ rfl (by exact arrOf) HM ?_); first | (have q:dL HM = 0:=rfl;clear q HM;intro g1 u1 HM) | (have q:dL HM = 1:=rfl;clear q HM;intro g2 u2 HM) | (have q:dL HM = 2:=rfl;clear q HM;intro g3 u3 HM) | (have q:dL HM = 3:=rfl;clear q HM;intro g4 u4 HM)) | (refine wl_load rfl _ _ rfl rfl (by exact arrOf) HM (by exact memOf) (by exact lenOf) ?_) | (refine wl_storeM rfl _ _ _ rfl rfl rfl (by exact arrOf) HM (by exact idxOf) (by exact lenOf) (by exact lenOf) ?_; clear HM; intro us HM; dsimp only [List.set] at HM) | (refine wl_zero rfl _ rfl (by exact arrOf) (by kernel_rfl) ?_)) | (refine wl_loadS rfl _ _ rfl rfl (by exact arrOf) HM (by exact memOf) (by exact subF) (by exact lenOf) ?_) | (refine wl_cellF rfl _ rfl rfl HM (by exact memOf) (by exact celF) ?_)))
      go_ret
      exact ⟨rfl, HM.out.1⟩
    | true =>
      have HD := Lib.hid (fun u => bcheck_any p true 0 u lp hp rfl)
      have HV := Lib.hid (show nearB l p = nearN l p 6 by unfold nearB; rw [hl, hp]; rfl)
      have H1 := Lib.hid (fun k => inR_bd hl (by omega) (by omega) k)
      have H2 := Lib.hid (fun k => inR_bd hp (by omega) (by omega) k)
      generalize nearB l p = V at HV
      clear ll lp hl hp
      go_enter Tryz.func13, Tryz.ntmps13
      go_wp2_with (first | (refine wl_skip (by rfl) ?_) | (first | (first | ((first | refine wl_box rfl _ _ rfl rfl HM ?_ | refine wl_alloc rfl _ rfl (by exact arrOf) HM ?_); first | (have q:dL HM = 0:=rfl;clear q HM;intro g1 u1 HM) | (have q:dL HM = 1:=rfl;clear q HM;intro g2 u2 HM) | (have q:dL HM = 2:=rfl;clear q HM;intro g3 u3 HM) | (have q:dL HM = 3:=rfl;clear q HM;intro g4 u4 HM)) | (refine wl_load rfl _ _ rfl rfl (by exact arrOf) HM (by exact memOf) (by exact lenOf) ?_) | (refine wl_storeM rfl _ _ _ rfl rfl rfl (by exact arrOf) HM (by exact idxOf) (by exact lenOf) (by exact lenOf) ?_; clear HM; intro us HM; dsimp only [List.set] at HM) | (refine wl_zero rfl _ rfl (by exact arrOf) (by kernel_rfl) ?_)) | (refine wl_loadS rfl _ _ rfl rfl (by exact arrOf) HM (by exact memOf) (by exact subF) (by exact lenOf) ?_) | (refine wl_cellF rfl _ rfl rfl HM (by exact memOf) (by exact celF) ?_)))
      refine (HC.out _).mono ?_
      rintro e w2 ⟨rfl, h1⟩
      have HM2 := Lib.hid (HM.out.below h1)
      clear h1 HM HC
      have HM := HM2
      clear HM2
      go_wp2_with (first | (refine wl_skip (by rfl) ?_) | (first | (first | ((first | refine wl_box rfl _ _ rfl rfl HM ?_ | refine wl_alloc rfl _ rfl (by exact arrOf) HM ?_); first | (have q:dL HM = 0:=rfl;clear q HM;intro g1 u1 HM) | (have q:dL HM = 1:=rfl;clear q HM;intro g2 u2 HM) | (have q:dL HM = 2:=rfl;clear q HM;intro g3 u3 HM) | (have q:dL HM = 3:=rfl;clear q HM;intro g4 u4 HM)) | (refine wl_load rfl _ _ rfl rfl (by exact arrOf) HM (by exact memOf) (by exact lenOf) ?_) | (refine wl_storeM rfl _ _ _ rfl rfl rfl (by exact arrOf) HM (by exact idxOf) (by exact lenOf) (by exact lenOf) ?_; clear HM; intro us HM; dsimp only [List.set] at HM) | (refine wl_zero rfl _ rfl (by exact arrOf) (by kernel_rfl) ?_)) | (refine wl_loadS rfl _ _ rfl rfl (by exact arrOf) HM (by exact memOf) (by exact subF) (by exact lenOf) ?_) | (refine wl_cellF rfl _ rfl rfl HM (by exact memOf) (by exact celF) ?_)))
      refine (HD.out _).mono ?_
      rintro e w2 ⟨rfl, h1⟩
      have HM2 := Lib.hid (HM.out.below h1)
      clear h1 HM HD
      have HM := HM2
      clear HM2
      go_wp2_with (first | (refine wl_skip (by rfl) ?_) | (first | (first | ((first | refine wl_box rfl _ _ rfl rfl HM ?_ | refine wl_alloc rfl _ rfl (by exact arrOf) HM ?_); first | (have q:dL HM = 0:=rfl;clear q HM;intro g1 u1 HM) | (have q:dL HM = 1:=rfl;clear q HM;intro g2 u2 HM) | (have q:dL HM = 2:=rfl;clear q HM;intro g3 u3 HM) | (have q:dL HM = 3:=rfl;clear q HM;intro g4 u4 HM)) | (refine wl_load rfl _ _ rfl rfl (by exact arrOf) HM (by exact memOf) (by exact lenOf) ?_) | (refine wl_storeM rfl _ _ _ rfl rfl rfl (by exact arrOf) HM (by exact idxOf) (by exact lenOf) (by exact lenOf) ?_; clear HM; intro us HM; dsimp only [List.set] at HM) | (refine wl_zero rfl _ rfl (by exact arrOf) (by kernel_rfl) ?_)) | (refine wl_loadS rfl _ _ rfl rfl (by exact arrOf) HM (by exact memOf) (by exact subF) (by exact lenOf) ?_) | (refine wl_cellF rfl _ rfl rfl HM (by exact memOf) (by exact celF) ?_)))
      go_loopw [16] (fun vi wr => ∃ k : Nat, k ≤ 6 ∧ vi = .int .i64 (k : Int) ∧ nearN l p k = true ∧ Hid (Mem w [(g2, 23, p), (g1, 23, l)] wr)) (fun vi _ => 6 - (intOf vi).toNat)
      case atStart => exact ⟨0, by omega, rfl, rfl, HM⟩
      case round =>
        clear HM
        obtain ⟨k, hk, rfl, hn, HM⟩ := hrel
        by_cases hlt : k < 6
        · have k6 : (k : Int) < 6 := by omega
          have HS := Lib.hid (nearN_succ l p k)
          have HN := Lib.hid (fun h => near_mono (l := l) (p := p) (k := k + 1) (n := 6) (by omega) h)
          rw [hn, Bool.true_and] at HS
          have c1 := run_index 23 (n := 6) (by kernel_rfl) l LL.out k hlt
          have c2 := HM.out.cell (.head _) (k := k) (by rw [LP.out]; exact hlt)
          obtain ⟨x1, x2⟩ := H1.out k
          obtain ⟨y1, y2⟩ := H2.out k
          generalize l.getD k 0 = x at c1 HS x1 x2
          generalize p.getD k 0 = y at c2 HS y1 y2
          have w1 : IntKind.i64.wrap (y - 8) = y - 8 := i64_w (by omega) (by omega)
          have w2 : IntKind.i64.wrap (y + 7) = y + 7 := i64_w (by omega) (by omega)
          clear hn x1 x2 y1 y2
          by_cases h1 : y - 8 ≤ x
          · have d1 : decide (x < y - 8) = false := decide_eq_false (by omega)
            by_cases h2 : x ≤ y + 7
            · have d2 : decide (y + 7 < x) = false := decide_eq_false (by omega)
              rw [decide_eq_true h1, decide_eq_true h2] at HS
              clear h1 h2 HN
              go_wp2_with (refine wl_skip (by rfl) ?_)
              clear c1 c2 w1 w2 d1 d2
              go_roundw
              case rel => exact ⟨k + 1, by omega, by go_num, by rw [HS.out]; rfl, HM⟩
              case measure => simp [intOf]; omega
            · have d2 : decide (y + 7 < x) = true := decide_eq_true (by omega)
              rw [decide_eq_true h1, decide_eq_false h2] at HS
              have HF := Lib.hid (HN.out HS.out)
              rw [← HV.out] at HF
              have e := HF.out
              subst e
              clear h1 h2 HN HS
              go_wp2_with (refine wl_skip (by rfl) ?_)
              clear c1 c2 w1 w2 d1 d2
              go_ret
              exact ⟨rfl, HM.out.1⟩
          · have d1 : decide (x < y - 8) = true := decide_eq_true (by omega)
            rw [decide_eq_false h1, Bool.false_and] at HS
            have HF := Lib.hid (HN.out HS.out)
            rw [← HV.out] at HF
            have e := HF.out
            subst e
            clear h1 HN HS
            go_wp2_with (refine wl_skip (by rfl) ?_)
            clear c1 c2 w1 w2 d1
            go_ret
            exact ⟨rfl, HM.out.1⟩
        · obtain rfl : k = 6 := by omega
          rw [← HV.out] at hn
          subst hn
          go_wp2_with fail
          go_ret
          exact ⟨rfl, HM.out.1⟩
theorem isKind_yes (K : Int) (w : World) (h : 0 ≤ K ∧ K ≤ 2) :
    Calls Tryz.prog 24 #[.int .i64 K] w (ValQ w (.bool true)) := by
  obtain rfl | rfl | rfl : K = 0 ∨ K = 1 ∨ K = 2 := by omega
  all_goals
    go_enter Tryz.func24, Tryz.ntmps24
    go_wp2
    go_ret
    exact ⟨rfl, Below.refl _ _⟩
theorem isKind_no (K : Int) (w : World) (h : ¬ (0 ≤ K ∧ K ≤ 2)) :
    Calls Tryz.prog 24 #[.int .i64 K] w (ValQ w (.bool false)) := by
  have a0 : (K == 0) = false := by simp; omega
  have a1 : (K == 1) = false := by simp; omega
  have a2 : (K == 2) = false := by simp; omega
  clear h
  go_enter Tryz.func24, Tryz.ntmps24
  go_wp2
  go_ret
  exact ⟨rfl, Below.refl _ _⟩
end Go.Proofs.YtgpdgegelipboaaGreatDoor.Lp
