/-
  In whatever order packets are put, the same waits; in plain words.
-/
import Derived.Test.YtffapinabidkiaaV2
set_option linter.unusedSimpArgs false
set_option linter.unusedVariables false
/- V6 -/
namespace Go.Proofs.Ytffapinabidkiaa.Lp
open Go.RowKit Go.Proofs.Ytffapinabidkiaa.Fq
/-- rising lists are told by their members -/
theorem rise_ext : ∀ {a b : List Pq}, a.Pairwise (fun x y => x.1 < y.1) → b.Pairwise (fun x y => x.1 < y.1) → (∀ x, x ∈ a ↔ x ∈ b) → a = b
  | [], [], _, _, _ => rfl
  | [], y :: b, _, _, h => absurd ((h y).2 (.head _)) (by simp)
  | x :: a, [], _, _, h => absurd ((h x).1 (.head _)) (by simp)
  | x :: a, y :: b, ha, hb, h => by
    have ha' := List.pairwise_cons.1 ha
    have hb' := List.pairwise_cons.1 hb
    have hxy : x = y := by
      rcases List.mem_cons.1 ((h x).1 (.head _)) with e | h1
      · exact e
      · rcases List.mem_cons.1 ((h y).2 (.head _)) with e | h2
        · exact e.symm
        · have := hb'.1 x h1
          have := ha'.1 y h2
          omega
    subst hxy
    congr 1
    refine rise_ext ha'.2 hb'.2 fun z => ⟨fun hz => ?_, fun hz => ?_⟩
    · rcases List.mem_cons.1 ((h z).1 (.tail _ hz)) with e | h1
      · have := ha'.1 z hz; rw [e] at this; omega
      · exact h1
    · rcases List.mem_cons.1 ((h z).2 (.tail _ hz)) with e | h1
      · have := hb'.1 z hz; rw [e] at this; omega
      · exact h1
theorem thereQ_iff {seq : Int} {q : List Pq} (h : q.Pairwise (fun a b => a.1 < b.1)) : thereQ seq q = true ↔ ∃ x ∈ q, x.1 = seq := by
  constructor
  · intro ht
    unfold thereQ at ht
    cases hx : q[atQ seq q]? with
    | none => rw [hx] at ht; cases ht
    | some x =>
      rw [hx] at ht
      exact ⟨x, List.mem_of_getElem? hx, by simpa using ht⟩
  · rintro ⟨x, hx, he⟩
    cases ht : thereQ seq q with
    | true => rfl
    | false => exact absurd he (not_there h (by rw [ht]; simp) hx)
theorem mem_put {q : List Pq} {k : Nat} {p x : Pq} : x ∈ q.take k ++ p :: q.drop k ↔ x = p ∨ x ∈ q := by
  rw [List.mem_append, List.mem_cons]
  constructor
  · rintro (h | h | h)
    · exact .inr (List.mem_of_mem_take h)
    · exact .inl h
    · exact .inr (List.mem_of_mem_drop h)
  · rintro (h | h)
    · exact .inr (.inl h)
    · rw [← List.take_append_drop k q] at h
      rcases List.mem_append.1 h with h | h
      · exact .inl h
      · exact .inr (.inr h)
/-- one packet put, where it is not far: what waits then -/
theorem put_mem {j : Jp} {p : Pq} (hr : j.q.Pairwise (fun a b => a.1 < b.1)) (hf : (putR j p).1 ≠ 3) (x : Pq) :
    x ∈ (putS j p).q ↔ x ∈ j.q ∨ (x = p ∧ lateJ j p = false ∧ ∀ y ∈ j.q, y.1 ≠ p.1) := by
  unfold putS
  show x ∈ (putR j p).2 ↔ _
  unfold putR at hf ⊢
  by_cases h1 : lateJ j p = true
  · rw [if_pos h1]
    exact ⟨.inl, fun h => h.elim id fun h => absurd h.2.1 (by rw [h1]; simp)⟩
  rw [if_neg h1] at hf ⊢
  by_cases h2 : thereQ p.1 j.q = true
  · rw [if_pos h2]
    obtain ⟨y, hy, he⟩ := (thereQ_iff hr).1 h2
    exact ⟨.inl, fun h => h.elim id fun h => absurd he (h.2.2 y hy)⟩
  rw [if_neg h2] at hf ⊢
  by_cases h3 : farP j.on j.nx p.1 j.q = true
  · rw [if_pos h3] at hf; exact absurd rfl hf
  rw [if_neg h3]
  show x ∈ _ ++ _ ↔ _
  rw [mem_put]
  constructor
  · rintro (h | h)
    · exact .inr ⟨h, by simpa using h1, fun y hy => not_there hr h2 hy⟩
    · exact .inl h
  · rintro (h | h)
    · exact .inr h
    · exact .inl h.1
theorem late_put {j : Jp} {p x : Pq} : lateJ (putS j p) x = lateJ j x := rfl
theorem puts_mem : ∀ {l : List Pq} {j : Jp}, OkJ j → (∀ p ∈ l, badP p = false) → l.Pairwise (fun a b => a.1 ≠ b.1) → 3 ∉ outsJ j l → ∀ x, x ∈ (putsJ j l).q ↔ x ∈ j.q ∨ (x ∈ l ∧ lateJ j x = false ∧ ∀ y ∈ j.q, y.1 ≠ x.1)
  | [], j, _, _, _, _, x => by simp [putsJ]
  | p :: l, j, hok, hb, hd, hf, x => by
    have hd' := List.pairwise_cons.1 hd
    have hf1 : (putR j p).1 ≠ 3 := fun h => hf (by show (3 : Int) ∈ (putR j p).1 :: _; rw [h]; exact .head _)
    have hf2 : 3 ∉ outsJ (putS j p) l := fun h => hf (.tail _ h)
    have hok' := okJ_put hok (hb p (.head _))
    show x ∈ (putsJ (putS j p) l).q ↔ _
    rw [puts_mem hok' (fun y hy => hb y (.tail _ hy)) hd'.2 hf2 x, put_mem hok.2.2.1 hf1 x, late_put]
    constructor
    · rintro ((h | ⟨rfl, h1, h2⟩) | ⟨h1, h2, h3⟩)
      · exact .inl h
      · exact .inr ⟨.head _, h1, h2⟩
      · exact .inr ⟨.tail _ h1, h2, fun y hy => h3 y ((put_mem hok.2.2.1 hf1 y).2 (.inl hy))⟩
    · rintro (h | ⟨h1, h2, h3⟩)
      · exact .inl (.inl h)
      · rcases List.mem_cons.1 h1 with rfl | h4
        · exact .inl (.inr ⟨rfl, h2, h3⟩)
        · refine .inr ⟨h4, h2, fun y hy => ?_⟩
          rcases (put_mem hok.2.2.1 hf1 y).1 hy with hy | ⟨rfl, -, -⟩
          · exact h3 y hy
          · exact hd'.1 x h4
theorem good_perm {l l' : List Pq} (h : l.Perm l') : goodL l = goodL l' := by
  unfold goodL
  congr 1
  refine Bool.eq_iff_iff.2 ?_
  simp only [List.any_eq_true]
  exact ⟨fun ⟨x, hx, hp⟩ => ⟨x, h.mem_iff.1 hx, hp⟩, fun ⟨x, hx, hp⟩ => ⟨x, h.mem_iff.2 hx, hp⟩⟩
/-- in whatever order they are put -/
theorem puts_perm {j : Jp} {l l' : List Pq} (h : l.Perm l') (hok : OkJ j) (hg : goodL l = true) (hd : l.Pairwise (fun a b => a.1 ≠ b.1)) (hf : 3 ∉ outsJ j l) (hf' : 3 ∉ outsJ j l') : (putsJ j l).q = (putsJ j l').q := by
  have hd' : l'.Pairwise (fun a b => a.1 ≠ b.1) := h.pairwise hd fun hxy => hxy.symm
  have hg' : goodL l' = true := by rw [← good_perm h]; exact hg
  refine rise_ext (okJ_puts hok (good_all hg)).2.2.1 (okJ_puts hok (good_all hg')).2.2.1 fun x => ?_
  rw [puts_mem hok (good_all hg) hd hf, puts_mem hok (good_all hg') hd' hf', h.mem_iff]
end Go.Proofs.Ytffapinabidkiaa.Lp
