/-
  A row of packets put from behind, and pulled: in plain words.
-/
import Derived.Test.YtffapinabidkiaaUM
set_option linter.unusedSimpArgs false
set_option linter.unusedVariables false
/- UN -/
namespace Go.Proofs.Ytffapinabidkiaa.Lp
open Go.RowKit Go.Proofs.Ytffapinabidkiaa.Fq
theorem rem_is (x m : Int) (h1 : 1 ≤ m) (h2 : m ≤ 1099511627776) : ∃ (R : Int) (K : Nat), x.tmod m = R ∧ -m < R ∧ R < m ∧ (R + m).tmod m = (K : Int) ∧ (R + m) % m = (K : Int) ∧ (K : Int) < m := by
  have a1 := Int.tmod_lt_of_pos x (show (0 : Int) < m by omega)
  have a2 : -m < x.tmod m := by
    have := Int.tmod_lt_of_pos (-x) (show (0 : Int) < m by omega)
    rw [Int.neg_tmod] at this
    omega
  generalize x.tmod m = R at a1 a2
  have h0 : 0 ≤ R + m := by omega
  have e : (R + m).tmod m = (R + m) % m := Int.tmod_eq_emod_of_nonneg h0
  have b1 := Int.emod_nonneg (R + m) (show m ≠ 0 by omega)
  have b2 := Int.emod_lt_of_pos (R + m) (show (0 : Int) < m by omega)
  exact ⟨R, ((R + m) % m).toNat, rfl, a2, a1, by omega, by omega, by omega⟩
/-- numbers one behind the other; each one's byte says how many follow -/
def rowQ : Nat → Int → List Pq
  | 0, _ => []
  | n + 1, s => (s, [n]) :: rowQ n (s + 1)
theorem rowQ_length (n : Nat) (s : Int) : (rowQ n s).length = n := by
  induction n generalizing s with
  | zero => rfl
  | succ n ih => show (rowQ n (s + 1)).length + 1 = _; rw [ih]
theorem rowQ_mem {n : Nat} {s : Int} {p : Pq} (h : p ∈ rowQ n s) : s ≤ p.1 ∧ p.1 < s + (n : Int) ∧ p.2.length = 1 := by
  induction n generalizing s with
  | zero => cases h
  | succ n ih =>
    rcases List.mem_cons.1 h with rfl | h
    · exact ⟨Int.le_refl _, by show s < _; omega, rfl⟩
    · obtain ⟨h1, h2, h3⟩ := ih h
      exact ⟨by omega, by omega, h3⟩
theorem rowQ_rise (n : Nat) (s : Int) : (rowQ n s).Pairwise (fun a b => a.1 < b.1) := by
  induction n generalizing s with
  | zero => exact .nil
  | succ n ih => exact .cons (fun p hp => by have := (rowQ_mem hp).1; show s < _; omega) (ih _)
theorem rowQ_bad {n : Nat} {s : Int} (h0 : 0 ≤ s) (h1 : s + (n : Int) ≤ 1099511627777) : ∀ p ∈ rowQ n s, badP p = false := fun p hp => by
  obtain ⟨a, b, c⟩ := rowQ_mem hp
  exact bad_no (by omega) (by omega) (by omega) (by omega)
theorem rowQ_ok {n : Nat} {s d : Int} {on : Bool} {nx : Int} (hd : 1 ≤ d) (hd2 : d ≤ 16) (h0 : 0 ≤ s) (h1 : s + (n : Int) ≤ 1099511627777) (hn : n ≤ 64) (hs : (on = false ∧ nx = 0) ∨ (on = true ∧ nx = s)) : OkJ ⟨on, nx, d, 0, rowQ n s⟩ := by
  refine ⟨?_, rowQ_bad h0 h1, rowQ_rise n s, fun p hp => ?_⟩
  · rcases hs with ⟨rfl, rfl⟩ | ⟨rfl, rfl⟩
    · exact ⟨hd, hd2, Int.le_refl _, by simp [mostX], Int.le_refl _, by simp [mostD]⟩
    · exact ⟨hd, hd2, h0, by simp [mostX]; omega, Int.le_refl _, by simp [mostD]⟩
  · obtain ⟨a, b, c⟩ := rowQ_mem hp
    rcases hs with ⟨rfl, rfl⟩ | ⟨rfl, rfl⟩
    · have hh := head_le (rowQ_rise n s) hp
      cases n with
      | zero => cases hp
      | succ n =>
        simp only [Bool.false_eq_true, if_false]
        show p.1 < s + 64
        omega
    · simp only [if_true]
      omega
theorem rowQ_put {n : Nat} {s d : Int} (hn : n < 64) : putR ⟨false, 0, d, 0, rowQ n (s + 1)⟩ (s, [n]) = (0, rowQ (n + 1) s) := by
  have hk : atQ s (rowQ n (s + 1)) = 0 := by
    cases n with
    | zero => rfl
    | succ n =>
      unfold atQ rowQ
      rw [List.findIdx_cons, show decide (s ≤ ((s + 1 : Int), [n]).1) = true from decide_eq_true (by show s ≤ s + 1; omega)]
      rfl
  have ht : thereQ s (rowQ n (s + 1)) = false := by
    unfold thereQ
    rw [hk]
    cases n with
    | zero => rfl
    | succ n =>
      show ((s + 1 : Int) == s) = false
      simp
      omega
  have hl : lateJ ⟨false, 0, d, 0, rowQ n (s + 1)⟩ (s, [n]) = false := rfl
  have hf : farP false 0 s (rowQ n (s + 1)) = false := by
    unfold farP
    by_cases he : rowQ n (s + 1) = []
    · rw [if_pos he]
      unfold fitsB
      simp
      omega
    · rw [if_neg he]
      have hm : (rowQ n (s + 1)).getLastD (0, []) ∈ rowQ n (s + 1) := by
        rw [List.getLastD_eq_getLast?, List.getLast?_eq_some_getLast he]
        exact List.getLast_mem he
      have h1 := rowQ_mem hm
      have h2 : ((rowQ n (s + 1)).headD (0, [])).1 = s + 1 := by
        cases n with
        | zero => exact absurd rfl he
        | succ n => rfl
      rw [h2, show min s (s + 1) = s by omega]
      have h3 : max s ((rowQ n (s + 1)).getLastD (0, [])).1 < s + 64 := by omega
      unfold fitsB
      rw [if_neg (by simp), decide_eq_true h3]
      rfl
  unfold putR
  simp only [hl, ht, hf, hk, Bool.false_eq_true, if_false, List.take_zero, List.drop_zero, List.nil_append]
  rfl
theorem rowQ_turn {n : Nat} {s d : Int} : turnR ⟨true, s, d, 0, rowQ (n + 1) s⟩ = (1, [n], ⟨true, s + 1, d, 0, rowQ n (s + 1)⟩) := by
  have hk : atQ s (rowQ (n + 1) s) = 0 := by
    unfold atQ rowQ
    rw [List.findIdx_cons]
    simp
  have ht : thereQ s (rowQ (n + 1) s) = true := by
    unfold thereQ
    rw [hk]
    show ((s : Int) == s) = true
    simp
  unfold turnR
  simp only [ht, hk, if_true, List.take_zero, List.nil_append]
  rfl
theorem rowQ_pull {n : Nat} {s d : Int} {on : Bool} {nx : Int} (hs : (on = false ∧ nx = 0 ∧ d ≤ (n : Int) + 1) ∨ (on = true ∧ nx = s)) : pullR ⟨on, nx, d, 0, rowQ (n + 1) s⟩ = (1, [n], ⟨true, s + 1, d, 0, rowQ n (s + 1)⟩) := by
  rcases hs with ⟨rfl, rfl, h⟩ | ⟨rfl, rfl⟩
  · unfold pullR
    rw [if_neg (by rintro ⟨-, h9⟩; rw [rowQ_length] at h9; simp only at h9; omega)]
    exact rowQ_turn
  · unfold pullR
    rw [if_neg (by simp)]
    exact rowQ_turn
theorem rowQ_end {s d : Int} : pullR ⟨true, s, d, 0, []⟩ = (2, [], ⟨true, s + 1, d, 1, []⟩) := rfl
theorem rowQ_gst (n : Nat) (s : Int) : gst s (rowQ n s) = (s + (n : Int), []) := by
  unfold gst
  induction n generalizing s with
  | zero => simp [rowQ]
  | succ n ih =>
    show (rowQ n (s + 1)).foldl gstep (gstep (s, []) (s, [n])) = _
    have : gstep (s, []) (s, [n]) = (s + 1, []) := by unfold gstep; simp [irange]
    rw [this, ih]
    congr 1
    omega
theorem rowQ_gaps (n : Nat) (s d : Int) : gapsJ ⟨false, 0, d, 0, rowQ n s⟩ = [] := by
  unfold gapsJ
  split
  · have : firstJ ⟨false, 0, d, 0, rowQ n s⟩ = s := by
      rename_i h
      unfold firstJ
      cases n with
      | zero => exact absurd rfl h.2
      | succ n => rfl
    rw [this, rowQ_gst]
  · rfl
theorem good_one {s : Int} {n : Nat} (h0 : 0 ≤ s) (h1 : s ≤ 1099511627776) : goodL [(s, [n])] = true := by
  unfold goodL
  rw [List.any_cons, List.any_nil, bad_no h0 h1 (by simp) (by simp)]
  rfl
end Go.Proofs.Ytffapinabidkiaa.Lp
