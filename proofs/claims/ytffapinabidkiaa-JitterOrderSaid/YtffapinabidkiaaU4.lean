/-
  The gaps: how many, and which; a gap that is filled.
-/
import Derived.Test.YtffapinabidkiaaU3
set_option linter.unusedSimpArgs false
set_option linter.unusedVariables false
/- U4 -/
namespace Go.Proofs.Ytffapinabidkiaa.Lp
open Go.RowKit Go.Proofs.Ytffapinabidkiaa.Fq
theorem irange_mem {a : Int} {m : Nat} {v : Int} : v ∈ irange a m ↔ a ≤ v ∧ v < a + (m : Int) := by
  unfold irange
  rw [List.mem_map]
  constructor
  · rintro ⟨i, hi, rfl⟩
    have := List.mem_range.1 hi
    omega
  · rintro ⟨h1, h2⟩
    exact ⟨(v - a).toNat, List.mem_range.2 (by omega), by omega⟩
theorem gst_all {j : Jp} (h : OkJ j) : ∀ k, k ≤ j.q.length →
    (((gst (firstJ j) (j.q.take k)).2.length : Int) + (k : Int) = (gst (firstJ j) (j.q.take k)).1 - firstJ j) ∧
    (∀ i p, i + 1 = k → j.q[i]? = some p → (gst (firstJ j) (j.q.take k)).1 = p.1 + 1) ∧
    (∀ v ∈ (gst (firstJ j) (j.q.take k)).2, firstJ j ≤ v ∧ v < (gst (firstJ j) (j.q.take k)).1 ∧ ∀ p ∈ j.q, p.1 ≠ v) := by
  intro k
  induction k with
  | zero =>
    intro _
    refine ⟨by simp [gst], fun i p hi => by omega, fun v hv => ?_⟩
    simp [gst] at hv
  | succ k ih =>
    intro hk
    obtain ⟨i1, i2, i3⟩ := ih (by omega)
    obtain ⟨g1, g2, g3, g4⟩ := gst_inv h k (by omega)
    have hx := List.getElem?_eq_getElem (show k < j.q.length by omega)
    have i5 := g4 _ hx
    rw [take_snocP _ _ hx, gst_snoc]
    unfold gstep
    refine ⟨?_, fun i p hi hp => ?_, fun v hv => ?_⟩
    · show (((gst (firstJ j) (j.q.take k)).2 ++ irange _ _).length : Int) + _ = _ + 1 - _
      rw [List.length_append, irange_length]
      omega
    · obtain rfl : i = k := by omega
      rw [hx] at hp
      injection hp with hp
      rw [← hp]
    · show firstJ j ≤ v ∧ v < _ + 1 ∧ _
      rcases List.mem_append.1 hv with hv | hv
      · obtain ⟨a, b, c⟩ := i3 v hv
        exact ⟨a, by omega, c⟩
      · obtain ⟨a, b⟩ := irange_mem.1 hv
        refine ⟨by omega, by omega, fun p hp he => ?_⟩
        obtain ⟨t, ht⟩ := List.mem_iff_getElem?.1 hp
        rcases Nat.lt_trichotomy t k with h0 | h0 | h0
        · have h8 : ∀ y, j.q[k - 1]? = some y → p.1 ≤ y.1 := fun y hy => by
            rcases Nat.lt_or_ge t (k - 1) with h1 | h1
            · exact Int.le_of_lt (rise_at h.2.2.1 ht hy h1)
            · obtain rfl : t = k - 1 := by omega
              rw [ht] at hy; injection hy with hy; rw [hy]; exact Int.le_refl _
          have hy := List.getElem?_eq_getElem (show k - 1 < j.q.length by omega)
          have h9 := i2 (k - 1) _ (by omega) hy
          have := h8 _ hy
          omega
        · subst h0
          rw [hx] at ht
          injection ht with ht
          rw [← ht] at he
          omega
        · have := rise_at h.2.2.1 hx ht h0
          omega
/-- how many gaps there are; a gap is a number between, and no packet's -/
theorem gaps_all {j : Jp} (h : OkJ j) {p : Pq} (hp : j.q[j.q.length - 1]? = some p) : ((gapsJ j).length : Int) + (j.q.length : Int) = p.1 - firstJ j + 1 ∧ ∀ v ∈ gapsJ j, firstJ j ≤ v ∧ v ≤ p.1 ∧ ∀ x ∈ j.q, x.1 ≠ v := by
  have hl := (List.getElem?_eq_some_iff.1 hp).1
  have hne : j.q ≠ [] := by intro e; rw [e] at hl; simp at hl
  obtain ⟨a, b, c⟩ := gst_all h j.q.length (Nat.le_refl _)
  have hg : gapsJ j = (gst (firstJ j) (j.q.take j.q.length)).2 := by unfold gapsJ; rw [if_pos ⟨h, hne⟩, List.take_length]
  rw [← hg] at a c
  have h1 := b (j.q.length - 1) p (by omega) hp
  refine ⟨by omega, fun v hv => ?_⟩
  obtain ⟨d, e, f⟩ := c v hv
  exact ⟨d, by omega, f⟩
theorem there_iff {seq : Int} {q : List Pq} (h : q.Pairwise (fun a b => a.1 < b.1)) (hn : ∀ x ∈ q, x.1 ≠ seq) : thereQ seq q = false := by
  cases ht : thereQ seq q with
  | false => rfl
  | true =>
    unfold thereQ at ht
    cases hx : q[atQ seq q]? with
    | none => rw [hx] at ht; cases ht
    | some x =>
      rw [hx] at ht
      exact absurd (by simpa using ht) (hn x (List.mem_of_getElem? hx))
theorem first_of {j : Jp} (h : OkJ j) {a : Pq} (ha : j.q[0]? = some a) : firstJ j ≤ a.1 := (first_le h (List.mem_of_getElem? ha)).1
/-- a gap that is filled -/
theorem gap_fill {j : Jp} (h : OkJ j) {p : Pq} (hp : j.q[j.q.length - 1]? = some p) {v : Int} (hv : v ∈ gapsJ j) (bs : List Nat) (hb : bs.length = 1) :
    (putR j (v, bs)).1 = 0 ∧ badP (v, bs) = false ∧ OkJ (putS j (v, bs)) ∧ (gapsJ (putS j (v, bs))).length + 1 = (gapsJ j).length ∧ v ∉ gapsJ (putS j (v, bs)) := by
  obtain ⟨hc, hm⟩ := gaps_all h hp
  obtain ⟨h1, h2, h3⟩ := hm v hv
  have hl := (List.getElem?_eq_some_iff.1 hp).1
  have ha := List.getElem?_eq_getElem (show 0 < j.q.length by omega)
  have hpm := List.mem_of_getElem? hp
  have hpb := bad_iff (h.2.1 p hpm)
  have hhd : j.q.headD (0, []) = j.q[0] := head_of ha
  have hla : j.q.getLastD (0, []) = p := by rw [List.getLastD_eq_getLast?, List.getLast?_eq_getElem?, hp]; rfl
  have hne : j.q ≠ [] := by intro e; rw [e] at hl; simp at hl
  have hfp := first_le h hpm
  have h0f := first_of h ha
  have hf0 : 0 ≤ firstJ j := by
    unfold firstJ
    cases j.on
    · rw [hhd]; exact (bad_iff (h.2.1 _ (List.mem_of_getElem? ha))).1
    · exact h.1.2.2.1
  have hbad : badP (v, bs) = false := bad_no (by show 0 ≤ v; omega) (by show v ≤ _; omega) (by show 1 ≤ bs.length; omega) (by show bs.length ≤ 40; omega)
  have hat := h3 _ (List.mem_of_getElem? ha)
  have hlast := h3 p hpm
  have hle := head_le h.2.2.1 hpm
  rw [hhd] at hle
  have hput : putR j (v, bs) = (0, j.q.take (atQ v j.q) ++ (v, bs) :: j.q.drop (atQ v j.q)) := by
    have hlate : lateJ j (v, bs) = false := by
      unfold lateJ
      cases hon : j.on
      · rfl
      · have : firstJ j = j.nx := by unfold firstJ; rw [hon]; rfl
        rw [Bool.true_and]
        exact decide_eq_false (by show ¬ v < j.nx; omega)
    have hth := there_iff h.2.2.1 h3
    have hfar : farP j.on j.nx v j.q = false := by
      unfold farP
      rw [if_neg hne, hhd, hla]
      have hmax : max v p.1 = p.1 := by omega
      rw [hmax]
      unfold fitsB
      cases hon : j.on
      · have : firstJ j = (j.q[0]).1 := by unfold firstJ; rw [hon, hhd]; rfl
        have hmin : min v (j.q[0]).1 = (j.q[0]).1 := by omega
        rw [hmin]
        simp
        omega
      · have : firstJ j = j.nx := by unfold firstJ; rw [hon]; rfl
        simp
        omega
    unfold putR
    simp only [hlate, hth, hfar, Bool.false_eq_true, if_false]
  have hok := okJ_put h hbad
  have hq : (putS j (v, bs)).q = j.q.take (atQ v j.q) ++ (v, bs) :: j.q.drop (atQ v j.q) := by unfold putS; rw [hput]
  have hlen : (putS j (v, bs)).q.length = j.q.length + 1 := by
    rw [hq, List.length_append, List.length_cons, List.length_take, List.length_drop]; omega
  have hmem : ∀ x, x ∈ (putS j (v, bs)).q ↔ x = (v, bs) ∨ x ∈ j.q := fun x => by
    rw [hq, List.mem_append, List.mem_cons]
    have := List.take_append_drop (atQ v j.q) j.q
    constructor
    · rintro (hx | rfl | hx)
      · exact .inr (List.mem_of_mem_take hx)
      · exact .inl rfl
      · exact .inr (List.mem_of_mem_drop hx)
    · rintro (rfl | hx)
      · exact .inr (.inl rfl)
      · rw [← this] at hx
        rcases List.mem_append.1 hx with hx | hx
        · exact .inl hx
        · exact .inr (.inr hx)
  have hb' := List.getElem?_eq_getElem (show (putS j (v, bs)).q.length - 1 < (putS j (v, bs)).q.length by omega)
  have ha' := List.getElem?_eq_getElem (show 0 < (putS j (v, bs)).q.length by omega)
  generalize (putS j (v, bs)).q[(putS j (v, bs)).q.length - 1] = p' at hb'
  generalize (putS j (v, bs)).q[0] = a' at ha'
  have hlp : p'.1 = p.1 := by
    have e1 : p'.1 ≤ p.1 := by
      rcases (hmem p').1 (List.mem_of_getElem? hb') with rfl | hx
      · exact h2
      · have := le_last h.2.2.1 hx
        rw [hla] at this
        exact this
    have e2 : p.1 ≤ p'.1 := by
      have := le_last hok.2.2.1 ((hmem p).2 (.inr hpm))
      have e3 : (putS j (v, bs)).q.getLastD (0, []) = p' := by rw [List.getLastD_eq_getLast?, List.getLast?_eq_getElem?, hb']; rfl
      rw [e3] at this
      exact this
    omega
  have hfj : firstJ (putS j (v, bs)) = firstJ j := by
    have hon' : (putS j (v, bs)).on = j.on := rfl
    have hnx' : (putS j (v, bs)).nx = j.nx := rfl
    unfold firstJ
    rw [hon', hnx']
    cases hon : j.on
    · have hfe : firstJ j = (j.q[0]).1 := by unfold firstJ; rw [hon, hhd]; rfl
      simp only [Bool.false_eq_true, if_false]
      rw [head_of ha', hhd]
      have e1 : a'.1 ≤ (j.q[0]).1 := by
        have := head_le hok.2.2.1 ((hmem _).2 (.inr (List.mem_of_getElem? ha)))
        rw [head_of ha'] at this
        exact this
      have e2 : (j.q[0]).1 ≤ a'.1 := by
        rcases (hmem a').1 (List.mem_of_getElem? ha') with rfl | hx
        · show _ ≤ v; omega
        · have := head_le h.2.2.1 hx
          rw [hhd] at this
          exact this
      omega
    · rfl
  obtain ⟨hc', hm'⟩ := gaps_all hok hb'
  refine ⟨by rw [hput], hbad, hok, by omega, fun hv' => ?_⟩
  exact (hm' v hv').2.2 (v, bs) ((hmem _).2 (.inl rfl)) rfl
end Go.Proofs.Ytffapinabidkiaa.Lp
