/-
  Packets put one behind the other, in plain words.
-/
import Derived.Test.YtffapinabidkiaaUK
set_option linter.unusedSimpArgs false
set_option linter.unusedVariables false
/- UQ -/
namespace Go.Proofs.Ytffapinabidkiaa.Lp
open Go.RowKit Go.Proofs.Ytffapinabidkiaa.Fq
theorem rise_far {q : List Pq} (h : q.Pairwise (fun a b => a.1 < b.1)) : ∀ (i : Nat) (a b : Pq), q[0]? = some a → q[i]? = some b → a.1 + (i : Int) ≤ b.1 := by
  intro i
  induction i with
  | zero => intro a b ha hb; rw [ha] at hb; injection hb with hb; rw [hb]; omega
  | succ i ih =>
    intro a b ha hb
    have hl := (List.getElem?_eq_some_iff.1 hb).1
    have hc := List.getElem?_eq_getElem (show i < q.length by omega)
    have h1 := ih a _ ha hc
    have h2 := rise_at h hc hb (by omega)
    omega
theorem head_of {q : List Pq} {a : Pq} (h : q[0]? = some a) : q.headD (0, []) = a := by cases q with | nil => cases h | cons c l => simpa using h
theorem head_le {q : List Pq} (h : q.Pairwise (fun a b => a.1 < b.1)) {p : Pq} (hp : p ∈ q) : (q.headD (0, [])).1 ≤ p.1 := by
  obtain ⟨j, hj⟩ := List.mem_iff_getElem?.1 hp
  have hl := (List.getElem?_eq_some_iff.1 hj).1
  have h0 := List.getElem?_eq_getElem (show 0 < q.length by omega)
  have := rise_far h j _ _ h0 hj
  rw [head_of h0]
  omega
theorem le_last {q : List Pq} (h : q.Pairwise (fun a b => a.1 < b.1)) {p : Pq} (hp : p ∈ q) : p.1 ≤ (q.getLastD (0, [])).1 := by
  obtain ⟨j, hj⟩ := List.mem_iff_getElem?.1 hp
  have hl := (List.getElem?_eq_some_iff.1 hj).1
  have h0 := List.getElem?_eq_getElem (show q.length - 1 < q.length by omega)
  have e : q.getLastD (0, []) = q[q.length - 1] := by rw [List.getLastD_eq_getLast?, List.getLast?_eq_getElem?, h0]; rfl
  rw [e]
  rcases Nat.lt_or_ge j (q.length - 1) with k | k
  · exact Int.le_of_lt (rise_at h hj h0 k)
  · obtain rfl : j = q.length - 1 := by omega
    rw [h0] at hj; injection hj with hj; rw [hj]; omega
theorem okJ_len {j : Jp} (h : OkJ j) : j.q.length ≤ 64 := by
  rcases Nat.eq_zero_or_pos j.q.length with h0 | h0
  · omega
  have ha := List.getElem?_eq_getElem h0
  have hb := List.getElem?_eq_getElem (show j.q.length - 1 < j.q.length by omega)
  have h1 := rise_far h.2.2.1 _ _ _ ha hb
  have fa := h.2.2.2 _ (List.mem_of_getElem? ha)
  have fb := h.2.2.2 _ (List.mem_of_getElem? hb)
  rw [head_of ha] at fa fb
  cases hon : j.on
  · rw [hon] at fa fb
    simp only [Bool.false_eq_true, if_false] at fa fb
    omega
  · rw [hon] at fa fb
    simp only [if_true] at fa fb
    omega
theorem at_lt {seq : Int} {q : List Pq} {p : Pq} (hp : p ∈ q.take (atQ seq q)) : p.1 < seq := by
  obtain ⟨j, hj⟩ := List.mem_iff_getElem?.1 hp
  rw [List.getElem?_take] at hj
  split at hj
  · rename_i hlt
    obtain ⟨hl, e⟩ := List.getElem?_eq_some_iff.1 hj
    have := List.not_of_lt_findIdx (p := fun p : Pq => decide (seq ≤ p.1)) (xs := q) hlt
    rw [e] at this
    simp at this
    exact this
  · cases hj
theorem at_ge {seq : Int} {q : List Pq} (h : q.Pairwise (fun a b => a.1 < b.1)) {p : Pq} (hp : p ∈ q.drop (atQ seq q)) : seq ≤ p.1 := by
  obtain ⟨j, hj⟩ := List.mem_iff_getElem?.1 hp
  rw [List.getElem?_drop] at hj
  have hl := (List.getElem?_eq_some_iff.1 hj).1
  have hk : atQ seq q < q.length := by omega
  have h1 := List.getElem?_eq_getElem hk
  have h2 : seq ≤ (q[atQ seq q]).1 := of_decide_eq_true (List.findIdx_getElem (p := fun p : Pq => decide (seq ≤ p.1)) (w := hk))
  rcases Nat.eq_zero_or_pos j with rfl | h0
  · rw [Nat.add_zero, h1] at hj; injection hj with hj; rw [← hj]; exact h2
  · have := rise_at h h1 hj (by omega); omega
theorem not_there {seq : Int} {q : List Pq} (h : q.Pairwise (fun a b => a.1 < b.1)) (ht : ¬ thereQ seq q = true) {p : Pq} (hp : p ∈ q) : p.1 ≠ seq := by
  intro he
  obtain ⟨j, hj⟩ := List.mem_iff_getElem?.1 hp
  have hl := (List.getElem?_eq_some_iff.1 hj).1
  have hk : atQ seq q ≤ j := by
    rcases Nat.lt_or_ge j (atQ seq q) with k | k
    · have := at_lt (seq := seq) (q := q) (p := p) (List.mem_of_getElem? (i := j) (by rw [List.getElem?_take, if_pos k]; exact hj))
      omega
    · exact k
  have h1 := List.getElem?_eq_getElem (show atQ seq q < q.length by omega)
  have h2 := at_ge h (seq := seq) (List.mem_of_getElem? (i := 0) (by rw [List.getElem?_drop, Nat.add_zero]; exact h1))
  have h3 : (q[atQ seq q]'(by omega)).1 ≤ p.1 := by
    rcases Nat.lt_or_ge (atQ seq q) j with k | k
    · exact Int.le_of_lt (rise_at h h1 hj k)
    · have e : atQ seq q = j := by omega
      have h3 : q[atQ seq q]? = some p := by rw [e]; exact hj
      rw [h1] at h3
      injection h3 with h3
      rw [h3]; exact Int.le_refl _
  apply ht
  unfold thereQ
  rw [h1]
  show ((q[atQ seq q]'(by omega)).1 == seq) = true
  simp
  omega
/-- put in at its place, all that rose rises -/
theorem put_rise {seq : Int} {q : List Pq} {p : Pq} (hp : p.1 = seq) (h : q.Pairwise (fun a b => a.1 < b.1)) (ht : ¬ thereQ seq q = true) : (q.take (atQ seq q) ++ p :: q.drop (atQ seq q)).Pairwise (fun a b => a.1 < b.1) := by
  rw [List.pairwise_append]
  refine ⟨h.sublist (List.take_sublist _ _), ?_, fun a ha b hb => ?_⟩
  · rw [List.pairwise_cons]
    refine ⟨fun b hb => ?_, h.sublist (List.drop_sublist _ _)⟩
    have h1 := at_ge h hb
    have h2 := not_there h ht (List.mem_of_mem_drop hb)
    omega
  · have h1 := at_lt ha
    rcases List.mem_cons.1 hb with rfl | hb
    · omega
    · have := at_ge h hb; omega
def putS (j : Jp) (p : Pq) : Jp := { j with q := (putR j p).2 }
def putsJ : Jp → List Pq → Jp
  | j, [] => j
  | j, p :: l => putsJ (putS j p) l
def outsJ : Jp → List Pq → List Int
  | _, [] => []
  | j, p :: l => (putR j p).1 :: outsJ (putS j p) l
theorem putsJ_same (j : Jp) (l : List Pq) : (putsJ j l).on = j.on ∧ (putsJ j l).nx = j.nx ∧ (putsJ j l).dp = j.dp ∧ (putsJ j l).dr = j.dr := by
  induction l generalizing j with
  | nil => exact ⟨rfl, rfl, rfl, rfl⟩
  | cons p l ih => exact ih (putS j p)
theorem putsJ_snoc (j : Jp) (l : List Pq) (p : Pq) : putsJ j (l ++ [p]) = putS (putsJ j l) p := by
  induction l generalizing j with
  | nil => rfl
  | cons a l ih => exact ih (putS j a)
theorem outsJ_snoc (j : Jp) (l : List Pq) (p : Pq) : outsJ j (l ++ [p]) = outsJ j l ++ [(putR (putsJ j l) p).1] := by
  induction l generalizing j with
  | nil => rfl
  | cons a l ih => show _ :: outsJ (putS j a) (l ++ [p]) = _; rw [ih]; rfl
theorem outsJ_length (j : Jp) (l : List Pq) : (outsJ j l).length = l.length := by
  induction l generalizing j with
  | nil => rfl
  | cons a l ih => show (outsJ (putS j a) l).length + 1 = _; rw [ih]; rfl
theorem putR_cases (j : Jp) (p : Pq) : ((putR j p).2 = j.q ∧ ((putR j p).1 = 1 ∨ (putR j p).1 = 2 ∨ (putR j p).1 = 3)) ∨ ((putR j p).1 = 0 ∧ (putR j p).2 = j.q.take (atQ p.1 j.q) ++ p :: j.q.drop (atQ p.1 j.q) ∧ lateJ j p = false ∧ ¬ thereQ p.1 j.q = true ∧ farP j.on j.nx p.1 j.q = false) := by
  unfold putR
  by_cases h1 : lateJ j p = true
  · rw [if_pos h1]; exact .inl ⟨rfl, .inl rfl⟩
  rw [if_neg h1]
  by_cases h2 : thereQ p.1 j.q = true
  · rw [if_pos h2]; exact .inl ⟨rfl, .inr (.inl rfl)⟩
  rw [if_neg h2]
  by_cases h3 : farP j.on j.nx p.1 j.q = true
  · rw [if_pos h3]; exact .inl ⟨rfl, .inr (.inr rfl)⟩
  rw [if_neg h3]
  exact .inr ⟨rfl, rfl, by simpa using h1, h2, by simpa using h3⟩
theorem far_no {on : Bool} {nx seq : Int} {q : List Pq} (hq : q.Pairwise (fun a b => a.1 < b.1)) (h : farP on nx seq q = false) : ∃ lo hi : Int, fitsB on nx lo hi = true ∧ lo ≤ seq ∧ seq ≤ hi ∧ (∀ x ∈ q, lo ≤ x.1 ∧ x.1 ≤ hi) := by
  unfold farP at h
  by_cases he : q = []
  · rw [if_pos he] at h
    exact ⟨seq, seq, by simpa using h, Int.le_refl _, Int.le_refl _, fun x hx => by rw [he] at hx; cases hx⟩
  · rw [if_neg he] at h
    refine ⟨min seq (q.headD (0, [])).1, max seq (q.getLastD (0, [])).1, by rw [Bool.not_eq_false'] at h; exact h, by omega, by omega, fun x hx => ?_⟩
    have h1 := head_le hq hx
    have h2 := le_last hq hx
    omega
theorem okJ_put {j : Jp} {p : Pq} (h : OkJ j) (hb : badP p = false) : OkJ (putS j p) := by
  rcases putR_cases j p with ⟨h1, -⟩ | ⟨-, h1, -, h2, h3⟩
  · unfold putS; rw [h1]; exact h
  · unfold putS
    rw [h1]
    obtain ⟨lo, hi, f1, f2, f3, f4⟩ := far_no h.2.2.1 h3
    have hm : ∀ x ∈ j.q.take (atQ p.1 j.q) ++ p :: j.q.drop (atQ p.1 j.q), x = p ∨ x ∈ j.q := fun x hx => by
      rcases List.mem_append.1 hx with hx | hx
      · exact .inr (List.mem_of_mem_take hx)
      · rcases List.mem_cons.1 hx with rfl | hx
        · exact .inl rfl
        · exact .inr (List.mem_of_mem_drop hx)
    have hr := put_rise rfl h.2.2.1 h2
    refine ⟨h.1, fun x hx => ?_, hr, fun x hx => ?_⟩
    · rcases hm x hx with rfl | hx
      · exact hb
      · exact h.2.1 x hx
    · have hx1 : lo ≤ x.1 ∧ x.1 ≤ hi := by
        rcases hm x hx with rfl | hx
        · exact ⟨f2, f3⟩
        · exact f4 x hx
      have hh : lo ≤ ((j.q.take (atQ p.1 j.q) ++ p :: j.q.drop (atQ p.1 j.q)).headD (0, [])).1 := by
        have hm2 : (j.q.take (atQ p.1 j.q) ++ p :: j.q.drop (atQ p.1 j.q)).headD (0, []) ∈ j.q.take (atQ p.1 j.q) ++ p :: j.q.drop (atQ p.1 j.q) := by
          cases hl : j.q.take (atQ p.1 j.q) ++ p :: j.q.drop (atQ p.1 j.q) with
          | nil => simp at hl
          | cons a l => simp
        rcases hm _ hm2 with e | e
        · rw [e]; exact f2
        · exact (f4 _ e).1
      unfold fitsB at f1
      show if j.on = true then _ else _
      cases hon : j.on
      · rw [hon] at f1
        simp only [Bool.false_eq_true, if_false, decide_eq_true_iff] at f1 ⊢
        omega
      · rw [hon] at f1
        simp only [if_true, Bool.and_eq_true, decide_eq_true_iff] at f1 ⊢
        omega
theorem okJ_puts {j : Jp} {l : List Pq} (h : OkJ j) (hb : ∀ p ∈ l, badP p = false) : OkJ (putsJ j l) := by
  induction l generalizing j with
  | nil => exact h
  | cons p l ih => exact ih (okJ_put h (hb p (by simp))) fun x hx => hb x (by simp [hx])
end Go.Proofs.Ytffapinabidkiaa.Lp
