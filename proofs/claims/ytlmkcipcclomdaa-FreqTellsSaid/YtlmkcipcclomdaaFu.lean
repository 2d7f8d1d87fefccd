/-
  Plain facts on shares of a rest, and on what is left of it, given round and round.
-/
import Derived.Test.YtlmkcipcclomdaaFs
namespace Go.Proofs.Ytlmkcipcclomdaa.Fq

theorem mem_le_tot {l : List Int} (h : ∀ x ∈ l, 0 ≤ x) : ∀ x ∈ l, x ≤ tot l := by
  induction l with
  | nil => intro x hx; cases hx
  | cons y l ih =>
    intro x hx
    have hl := ih fun z hz => h z (by simp [hz])
    have h0 : 0 ≤ tot l := (tot_bd l (tot l) fun z hz => ⟨h z (by simp [hz]), hl z hz⟩).1
    have hy := h y (by simp)
    rw [tot_cons]
    rcases List.mem_cons.1 hx with e | e
    · subst e; omega
    · have := hl x e; omega
theorem part_bd {rest all x : Int} (hr : 0 ≤ rest) (ha : 0 < all) (h0 : 0 ≤ x) (h1 : x ≤ all) : 0 ≤ x * rest / all ∧ x * rest / all ≤ rest := by
  refine ⟨Int.ediv_nonneg (Int.mul_nonneg h0 hr) (by omega), ?_⟩
  refine Int.ediv_le_of_le_mul ha ?_
  rw [Int.mul_comm rest all]
  exact Int.mul_le_mul_of_nonneg_right h1 hr
theorem share_tot {rest all : Int} (ha : 0 < all) (l : List Int) :
    all * (tot (l.map (partF rest all)) - (l.length : Int)) ≤ tot l * rest ∧ tot l * rest - (l.length : Int) * (all - 1) ≤ all * (tot (l.map (partF rest all)) - (l.length : Int)) := by
  induction l with
  | nil => simp [tot_nil]
  | cons x l ih =>
    rw [List.map_cons, tot_cons, tot_cons, List.length_cons]
    obtain ⟨h1, h2⟩ := ih
    have e : partF rest all x + tot (List.map (partF rest all) l) - ((l.length + 1 : Nat) : Int) = x * rest / all + (tot (List.map (partF rest all) l) - (l.length : Int)) := by
      unfold partF; omega
    have hd := Int.mul_ediv_add_emod (x * rest) all
    have hm0 := Int.emod_nonneg (x * rest) (show all ≠ 0 by omega)
    have hm1 := Int.emod_lt_of_pos (x * rest) ha
    rw [e, Int.mul_add, Int.add_mul]
    have e2 : ((l.length + 1 : Nat) : Int) * (all - 1) = (l.length : Int) * (all - 1) + (all - 1) := by
      rw [show ((l.length + 1 : Nat) : Int) = (l.length : Int) + 1 by omega, Int.add_mul]; omega
    rw [e2]
    constructor <;> omega
/-- what share gives: how much of the rest is left -/
theorem sharC_facts {rest : Int} {zs : List Int} {n : Nat} (hl : zs.length = n) (h1 : 1 ≤ n) (hr : 0 ≤ rest) (hz : ∀ x ∈ zs, 0 ≤ x) :
    (sharC rest zs).length = n ∧ (∀ x ∈ sharC rest zs, 1 ≤ x ∧ x ≤ rest + 1) ∧ tot (sharC rest zs) ≤ rest + (n : Int) ∧ (¬ tot zs = 0 → rest < tot (sharC rest zs)) := by
  by_cases h0 : tot zs = 0
  · have e : sharC rest zs = List.replicate n 1 := by unfold sharC; rw [if_pos h0, hl]
    rw [e, tot_rep]
    refine ⟨by simp, fun x hx => ?_, by omega, fun h => absurd h0 h⟩
    rw [(List.mem_replicate.1 hx).2]; omega
  · have ha : 0 < tot zs := by
      have := mem_le_tot hz
      have h2 : 0 ≤ tot zs := (tot_bd zs (tot zs) fun z h => ⟨hz z h, this z h⟩).1
      omega
    have e : sharC rest zs = zs.map (partF rest (tot zs)) := by unfold sharC; rw [if_neg h0]
    rw [e]
    obtain ⟨s1, s2⟩ := share_tot (rest := rest) ha zs
    rw [hl] at s1 s2
    refine ⟨by simp [hl], fun x hx => ?_, ?_, fun _ => ?_⟩
    · obtain ⟨y, hy, rfl⟩ := List.mem_map.1 hx
      have := part_bd hr ha (hz y hy) (mem_le_tot hz y hy)
      unfold partF
      omega
    · have := Int.le_of_mul_le_mul_left s1 ha
      omega
    · have key : tot zs * (rest - (n : Int)) < tot zs * (tot (List.map (partF rest (tot zs)) zs) - (n : Int)) := by
        refine Int.lt_of_lt_of_le ?_ s2
        have e3 : (n : Int) * (tot zs - 1) = tot zs * (n : Int) - (n : Int) := by rw [Int.mul_sub, Int.mul_comm]; omega
        rw [e3, Int.mul_sub]
        omega
      have := Int.lt_of_mul_lt_mul_left key (by omega)
      omega
/-- one more for the place ys[k % n], k rounds of it -/
def bumps (ys : List Nat) (n : Nat) : Nat → List Int → List Int
  | 0, cs => cs
  | k + 1, cs => (bumps ys n k cs).set (ys.getD (k % n) 0) ((bumps ys n k cs).getD (ys.getD (k % n) 0) 0 + 1)
theorem bumps_length (ys : List Nat) (n k : Nat) (cs : List Int) : (bumps ys n k cs).length = cs.length := by
  induction k with
  | zero => rfl
  | succ k ih => simp [bumps, ih]
theorem tot_set (l : List Int) (i : Nat) (x : Int) (h : i < l.length) : tot (l.set i x) = tot l - l.getD i 0 + x := by
  induction l generalizing i with
  | nil => simp at h
  | cons y l ih =>
    cases i with
    | zero => simp [tot_cons]; omega
    | succ i =>
      rw [List.set_cons_succ, tot_cons, tot_cons, ih i (by simpa using h)]
      simp [List.getD_eq_getElem?_getD]
      omega
theorem perm_at {ys : List Nat} {n : Nat} (hp : ys.Perm (List.range n)) : ys.length = n ∧ (∀ p, p < n → ys.getD p 0 < n) ∧ (∀ p q, p < n → q < n → ys.getD p 0 = ys.getD q 0 → p = q) ∧ ∀ s, s < n → ∃ p, p < n ∧ ys.getD p 0 = s := by
  have hl : ys.length = n := by rw [hp.length_eq, List.length_range]
  have hnd : ys.Nodup := hp.nodup_iff.2 List.nodup_range
  have hg : ∀ p (h : p < ys.length), ys.getD p 0 = ys[p] := fun p h => by simp [List.getD_eq_getElem?_getD, h]
  refine ⟨hl, fun p h => ?_, fun p q h1 h2 e => ?_, fun s hs => ?_⟩
  · rw [hg p (by omega)]
    exact List.mem_range.1 (hp.mem_iff.1 (List.getElem_mem _))
  · rw [hg p (by omega), hg q (by omega)] at e
    have hpw := List.pairwise_iff_getElem.1 hnd
    rcases Nat.lt_trichotomy p q with h | h | h
    · exact absurd e (hpw p q (by omega) (by omega) h)
    · exact h
    · exact absurd e.symm (hpw q p (by omega) (by omega) h)
  · have : s ∈ ys := hp.mem_iff.2 (List.mem_range.2 hs)
    obtain ⟨p, h1, h2⟩ := List.mem_iff_getElem.1 this
    exact ⟨p, by omega, by rw [hg p h1]; exact h2⟩
theorem bumps_tot {ys : List Nat} {n : Nat} (hp : ys.Perm (List.range n)) (hn : 0 < n) (k : Nat) (cs : List Int) (hc : cs.length = n) : tot (bumps ys n k cs) = tot cs + (k : Int) := by
  obtain ⟨_, h1, _, _⟩ := perm_at hp
  induction k with
  | zero => simp [bumps]
  | succ k ih =>
    unfold bumps
    rw [tot_set _ _ _ (by rw [bumps_length, hc]; exact h1 _ (Nat.mod_lt _ hn)), ih]
    omega
theorem succ_div_mod (k n : Nat) (hn : 0 < n) : k % n + 1 < n ∧ (k + 1) / n = k / n ∧ (k + 1) % n = k % n + 1 ∨ k % n + 1 = n ∧ (k + 1) / n = k / n + 1 ∧ (k + 1) % n = 0 := by
  have e := Nat.div_add_mod k n
  have hm := Nat.mod_lt k hn
  by_cases h : k % n + 1 < n
  · refine .inl ⟨h, ?_⟩
    have hk : k + 1 = (k % n + 1) + n * (k / n) := by omega
    constructor
    · rw [hk, Nat.add_mul_div_left _ _ hn, Nat.div_eq_of_lt h]; omega
    · rw [hk, Nat.add_mul_mod_self_left, Nat.mod_eq_of_lt h]
  · refine .inr ⟨by omega, ?_⟩
    have hk : k + 1 = n * (k / n + 1) := by rw [Nat.mul_add]; omega
    constructor
    · rw [hk, Nat.mul_div_cancel_left _ hn]
    · rw [hk, Nat.mul_mod_right]
theorem bumps_at {ys : List Nat} {n : Nat} (hp : ys.Perm (List.range n)) (hn : 0 < n) (k : Nat) (cs : List Int) (hc : cs.length = n) (p : Nat) (h : p < n) :
    (bumps ys n k cs).getD (ys.getD p 0) 0 = cs.getD (ys.getD p 0) 0 + ((k / n : Nat) : Int) + (if p < k % n then 1 else 0) := by
  obtain ⟨_, h1, h2, _⟩ := perm_at hp
  induction k with
  | zero => simp [bumps]
  | succ k ih =>
    have hm := Nat.mod_lt k hn
    have hlen : (bumps ys n k cs).length = n := by rw [bumps_length, hc]
    have hset : (bumps ys n (k + 1) cs).getD (ys.getD p 0) 0 = if k % n = p then (bumps ys n k cs).getD (ys.getD (k % n) 0) 0 + 1 else (bumps ys n k cs).getD (ys.getD p 0) 0 := by
      show ((bumps ys n k cs).set (ys.getD (k % n) 0) ((bumps ys n k cs).getD (ys.getD (k % n) 0) 0 + 1)).getD (ys.getD p 0) 0 = _
      by_cases e : k % n = p
      · rw [if_pos e, ← e]
        have hb := h1 (k % n) hm
        generalize (bumps ys n k cs).getD (ys.getD (k % n) 0) 0 + 1 = y
        generalize ys.getD (k % n) 0 = i at hb
        rw [List.getD_eq_getElem?_getD, List.getElem?_set_self (by omega)]
        rfl
      · rw [if_neg e]
        have hne : ¬ ys.getD (k % n) 0 = ys.getD p 0 := fun e' => e (h2 _ _ hm h e')
        rw [List.getD_eq_getElem?_getD, List.getElem?_set, if_neg hne, ← List.getD_eq_getElem?_getD]
    rw [hset]
    rcases succ_div_mod k n hn with ⟨a1, a2, a3⟩ | ⟨a1, a2, a3⟩
    · rw [a2, a3]
      by_cases e : k % n = p
      · rw [if_pos e, e, ih, if_neg (by omega), if_pos (by omega)]; omega
      · rw [if_neg e, ih]
        by_cases e2 : p < k % n
        · rw [if_pos e2, if_pos (by omega)]
        · rw [if_neg e2, if_neg (by omega)]
    · rw [a2, a3]
      by_cases e : k % n = p
      · rw [if_pos e, e, ih, if_neg (by omega), if_neg (by omega)]; omega
      · rw [if_neg e, ih, if_pos (by omega), if_neg (by omega)]; omega
/-- what each one has behind it: no less, and no two part by more than one -/
theorem bumps_near {ys : List Nat} {n : Nat} (hp : ys.Perm (List.range n)) (hn : 0 < n) (k : Nat) (cs : List Int) (hc : cs.length = n) (s : Nat) (hs : s < n) :
    cs.getD s 0 + ((k / n : Nat) : Int) ≤ (bumps ys n k cs).getD s 0 ∧ (bumps ys n k cs).getD s 0 ≤ cs.getD s 0 + ((k / n : Nat) : Int) + 1 := by
  obtain ⟨_, _, _, h3⟩ := perm_at hp
  obtain ⟨p, hpn, rfl⟩ := h3 s hs
  rw [bumps_at hp hn k cs hc p hpn]
  split <;> omega
end Go.Proofs.Ytlmkcipcclomdaa.Fq
