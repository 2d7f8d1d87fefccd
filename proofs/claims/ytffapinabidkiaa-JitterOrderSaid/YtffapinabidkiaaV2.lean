/-
  What comes of a state that may be, case by case, in plain words.
-/
import Derived.Test.YtffapinabidkiaaV1
set_option linter.unusedSimpArgs false
set_option linter.unusedVariables false
/- V2 -/
namespace Go.Proofs.Ytffapinabidkiaa.Lp
open Go.RowKit Go.Proofs.Ytffapinabidkiaa.Fq
/-- what comes next stands not too far behind all numbers -/
def NxB (j : Jp) : Prop := j.on = true → j.nx ≤ 1099511627777 + j.dr
theorem atQ_zero {nx : Int} {p : Pq} {q : List Pq} (h : nx ≤ p.1) : atQ nx (p :: q) = 0 := by
  unfold atQ
  rw [List.findIdx_cons, decide_eq_true h]
  rfl
theorem thereQ_cons {nx : Int} {p : Pq} {q : List Pq} (h : nx ≤ p.1) : thereQ nx (p :: q) = (p.1 == nx) := by
  unfold thereQ
  rw [atQ_zero h]
  rfl
theorem turn_head {nx : Int} {q : List Pq} (hr : q.Pairwise (fun a b => a.1 < b.1)) (hlo : ∀ p ∈ q, nx ≤ p.1) :
    (∃ p rest, q = p :: rest ∧ p.1 = nx ∧ thereQ nx q = true ∧ atQ nx q = 0) ∨ (thereQ nx q = false ∧ ∀ p ∈ q, nx + 1 ≤ p.1) := by
  cases q with
  | nil => exact .inr ⟨rfl, fun p hp => nomatch hp⟩
  | cons p rest =>
    have h0 := hlo p (.head _)
    by_cases he : p.1 = nx
    · exact .inl ⟨p, rest, rfl, he, by rw [thereQ_cons h0]; simpa using he, atQ_zero h0⟩
    · refine .inr ⟨by rw [thereQ_cons h0]; simpa using he, fun x hx => ?_⟩
      rcases List.mem_cons.1 hx with rfl | hx
      · omega
      · have := (List.pairwise_cons.1 hr).1 x hx
        omega
/-- the four kinds of what comes -/
def PullC (j : Jp) (r : Int) (bs : List Nat) (k : Jp) : Prop :=
  (r = 1 ∧ ∃ p rest, j.q = p :: rest ∧ bs = p.2 ∧ k = ⟨true, p.1 + 1, j.dp, 0, rest⟩ ∧ (j.on = true → p.1 = j.nx)) ∨
  (r = 2 ∧ bs = [] ∧ j.on = true ∧ k = ⟨true, j.nx + 1, j.dp, j.dr + 1, j.q⟩) ∨
  (r = 0 ∧ bs = [] ∧ k = j ∧ j.on = false ∧ (j.q.length : Int) < j.dp) ∨
  (r = 3 ∧ bs = [] ∧ j.on = true ∧ j.dr = 11 ∧ k = ⟨false, 0, j.dp, 0, []⟩)
theorem pull_one {j : Jp} {p : Pq} {rest : List Pq} (h : OkJ j) (hq : j.q = p :: rest) (hlo : ∀ x ∈ j.q, p.1 ≤ x.1 ∧ x.1 < p.1 + 64) : OkJ ⟨true, p.1 + 1, j.dp, 0, rest⟩ ∧ NxB ⟨true, p.1 + 1, j.dp, 0, rest⟩ := by
  obtain ⟨hN, hB, hR, hF⟩ := h
  have hp := bad_iff (hB p (by rw [hq]; exact .head _))
  rw [hq] at hR hB hlo
  have hr := List.pairwise_cons.1 hR
  refine ⟨⟨⟨hN.1, hN.2.1, ?_, ?_, Int.le_refl _, ?_⟩, fun x hx => hB x (.tail _ hx), hr.2, fun x hx => ?_⟩, fun _ => ?_⟩
  · show 0 ≤ p.1 + 1; omega
  · show p.1 + 1 ≤ mostX true; simp only [mostX, if_true]; omega
  · show (0 : Int) ≤ mostD true; simp [mostD]
  · simp only [if_true]
    have h1 := hr.1 x hx
    have h2 := hlo x (.tail _ hx)
    omega
  · show p.1 + 1 ≤ 1099511627777 + 0; omega
theorem pull_cases {j : Jp} (h : OkJ j) (hb : NxB j) : ∃ r bs k, pullR j = (r, bs, k) ∧ OkJ k ∧ NxB k ∧ k.dp = j.dp ∧ PullC j r bs k := by
  have h' := h
  obtain ⟨hN, hB, hR, hF⟩ := h'
  cases hon : j.on with
  | false =>
    by_cases hl : (j.q.length : Int) < j.dp
    · exact ⟨0, [], j, by unfold pullR; rw [if_pos ⟨hon, hl⟩], h, hb, rfl, .inr (.inr (.inl ⟨rfl, rfl, rfl, hon, hl⟩))⟩
    · obtain ⟨p, rest, hq⟩ : ∃ p rest, j.q = p :: rest := by
        cases hq : j.q with
        | nil => rw [hq] at hl; have := hN.1; simp at hl; omega
        | cons p rest => exact ⟨p, rest, rfl⟩
      have hlo : ∀ x ∈ j.q, p.1 ≤ x.1 ∧ x.1 < p.1 + 64 := fun x hx => by
        have h1 := hF x hx
        have h2 := head_le hR hx
        rw [hon, hq] at h1
        rw [hq] at h2
        simp only [Bool.false_eq_true, if_false, List.headD_cons] at h1 h2
        omega
      obtain ⟨h1, h2⟩ := pull_one h hq hlo
      refine ⟨1, p.2, ⟨true, p.1 + 1, j.dp, 0, rest⟩, ?_, h1, h2, rfl, .inl ⟨rfl, p, rest, hq, rfl, rfl, fun h9 => by rw [hon] at h9; cases h9⟩⟩
      unfold pullR
      rw [if_neg (fun h9 => hl h9.2), hon, hq]
      simp only [Bool.false_eq_true, if_false, List.headD_cons]
      unfold turnR
      rw [if_pos (by rw [thereQ_cons (Int.le_refl _)]; simp), atQ_zero (Int.le_refl _)]
      rfl
  | true =>
    have e0 : pullR j = turnR ⟨true, j.nx, j.dp, j.dr, j.q⟩ := by
      unfold pullR
      rw [if_neg (by rw [hon]; simp), hon]
      rfl
    have hlo : ∀ x ∈ j.q, j.nx ≤ x.1 ∧ x.1 < j.nx + 64 := fun x hx => by
      have h1 := hF x hx
      rw [hon] at h1
      simpa using h1
    rw [e0]
    unfold turnR
    rcases turn_head hR (fun x hx => (hlo x hx).1) with ⟨p, rest, hq, hp, ht, ha⟩ | ⟨ht, hgt⟩
    · obtain ⟨h1, h2⟩ := pull_one h hq (fun x hx => by rw [hp]; exact hlo x hx)
      refine ⟨1, p.2, ⟨true, p.1 + 1, j.dp, 0, rest⟩, ?_, h1, h2, rfl, .inl ⟨rfl, p, rest, hq, rfl, rfl, fun _ => hp⟩⟩
      rw [if_pos ht]
      rw [hq] at ha
      simp only [hq, ha, hp, List.getD_cons_zero, List.take_zero, List.nil_append, Nat.zero_add, List.drop_succ_cons, List.drop_zero]
    · rw [if_neg (by rw [ht]; simp)]
      have hd : 0 ≤ j.dr ∧ j.dr ≤ 11 := by
        have := hN.2.2.2.2
        rw [hon] at this
        simpa [mostD] using this
      by_cases he : j.dr + 1 = 12
      · refine ⟨3, [], ⟨false, 0, j.dp, 0, []⟩, by rw [if_pos he], ⟨⟨hN.1, hN.2.1, Int.le_refl _, by simp [mostX], Int.le_refl _, by simp [mostD]⟩, fun x hx => (nomatch hx), .nil, fit_nil _ _⟩, fun h9 => (nomatch h9), rfl, .inr (.inr (.inr ⟨rfl, rfl, hon, by omega, rfl⟩))⟩
      · have hx9 := hb hon
        have hn0 := hN.2.2.1
        refine ⟨2, [], ⟨true, j.nx + 1, j.dp, j.dr + 1, j.q⟩, by rw [if_neg he], ⟨⟨hN.1, hN.2.1, ?_, ?_, ?_, ?_⟩, hB, hR, fun x hx => ?_⟩, fun _ => ?_, rfl, .inr (.inl ⟨rfl, rfl, hon, rfl⟩)⟩
        · show 0 ≤ j.nx + 1; omega
        · show j.nx + 1 ≤ mostX true; simp only [mostX, if_true]; omega
        · show 0 ≤ j.dr + 1; omega
        · show j.dr + 1 ≤ mostD true; simp only [mostD, if_true]; omega
        · simp only [if_true]
          have := hgt x hx
          have := hlo x hx
          omega
        · show j.nx + 1 ≤ 1099511627777 + (j.dr + 1); omega
theorem okN_new {d : Int} (h : 1 ≤ d ∧ d ≤ 16) : OkJ ⟨false, 0, d, 0, []⟩ ∧ NxB ⟨false, 0, d, 0, []⟩ := ⟨⟨⟨h.1, h.2, Int.le_refl _, by simp [mostX], Int.le_refl _, by simp [mostD]⟩, fun x hx => (nomatch hx), .nil, fit_nil _ _⟩, fun h9 => (nomatch h9)⟩
theorem nxB_puts {j : Jp} {l : List Pq} (h : NxB j) : NxB (putsJ j l) := by
  obtain ⟨h1, h2, h3, h4⟩ := putsJ_same j l
  unfold NxB
  rw [h1, h2, h4]
  exact h
theorem putsJ_mk (on : Bool) (nx dp dr : Int) (q l : List Pq) : putsJ ⟨on, nx, dp, dr, q⟩ l = ⟨on, nx, dp, dr, (putsJ ⟨on, nx, dp, dr, q⟩ l).q⟩ := by
  obtain ⟨h1, h2, h3, h4⟩ := putsJ_same ⟨on, nx, dp, dr, q⟩ l
  generalize putsJ ⟨on, nx, dp, dr, q⟩ l = k at h1 h2 h3 h4
  cases k
  simp only at h1 h2 h3 h4
  subst h1 h2 h3 h4
  rfl
theorem good_all {l : List Pq} (h : goodL l = true) : ∀ p ∈ l, badP p = false := fun p hp => by
  unfold goodL at h
  cases hb : badP p with
  | false => rfl
  | true => rw [List.any_eq_true.2 ⟨p, hp, hb⟩] at h; cases h
end Go.Proofs.Ytffapinabidkiaa.Lp
