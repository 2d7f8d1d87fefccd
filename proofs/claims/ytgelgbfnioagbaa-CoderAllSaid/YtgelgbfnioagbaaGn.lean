/-
  Own texts, laid together: Gn.
-/
import Derived.Test.YtgelgbfnioagbaaGm
/- Gn -/
namespace Go.Proofs.Ytgelgbfnioagbaa.Cd
open Go.RowKit
/-- the symbol that has the number X -/
def symK (xs : List Int) (X : Nat) : Nat := (xs.drop 1).findIdx (fun y => decide ((X : Int) < y))
theorem symK_is {xs : List Int} (h : Fq.okF xs = true) {X k : Nat} (hk : Fq.IsSym xs (X : Int) k) : symK xs X = k := by
  obtain ⟨h1, h2, h3⟩ := hk
  unfold symK
  have hl : k < (xs.drop 1).length := by rw [List.length_drop]; omega
  have gd : ∀ j, (hj : j < (xs.drop 1).length) → (xs.drop 1)[j] = xs.getD (j + 1) 0 := by
    intro j hj
    rw [List.length_drop] at hj
    rw [List.getElem_drop]
    have : xs.getD (j + 1) 0 = xs[j + 1] := by simp [List.getD_eq_getElem?_getD, show j + 1 < xs.length by omega]
    rw [this]
    congr 1
    omega
  rw [List.findIdx_eq hl]
  refine ⟨by rw [gd k hl]; simpa using h3, fun j hj => ?_⟩
  rw [gd j (by omega)]
  have := Fq.mono_le h (i := j + 1) (j := k) (by omega) (by omega)
  exact decide_eq_false (by omega)
/-- a decoder's state that is fine -/
def FineD (d : De) : Prop := Ok d.low d.high ∧ kind d.low d.high = 3 ∧ d.low ≤ d.code ∧ d.code ≤ d.high
/-- the state behind a symbol with the numbers from a on up to b -/
def narD (d : De) (a b T : Nat) : De := ⟨d.low + (d.high - d.low + 1) * a / T, d.low + (d.high - d.low + 1) * b / T - 1, d.code, d.at_⟩
def nxD (l : List Bool) (d : De) (a b T : Nat) : De := widD 40 l (narD d a b T)
theorem fineD_wid {d : De} (h : FineD d) : 1073741824 ≤ d.high - d.low + 1 ∧ d.high - d.low + 1 ≤ 4294967296 := wide_wid (e := ⟨d.low, d.high, 0, []⟩) h.1 h.2.1
theorem symX_lt {d : De} {T : Nat} (h : FineD d) (hT : 0 < T) : symX d T < T := by
  obtain ⟨w1, w2⟩ := fineD_wid h
  unfold symX
  rw [Nat.div_lt_iff_lt_mul (by omega)]
  have k1 : d.code - d.low + 1 ≤ d.high - d.low + 1 := by have := h.2.2.2; omega
  have k2 := Nat.mul_le_mul_right T k1
  have k3 : 0 < (d.code - d.low + 1) * T := Nat.mul_pos (by omega) hT
  rw [Nat.mul_comm T]
  omega
/-- narrowed to the symbol, the interval has the code in it -/
theorem narD_in {d : De} {a b T : Nat} (h : FineD d) (hS : Sp a b T) (h1 : a ≤ symX d T) (h2 : symX d T < b) :
    (narD d a b T).low ≤ d.code ∧ d.code ≤ (narD d a b T).high ∧ Ok (narD d a b T).low (narD d a b T).high ∧ 1 ≤ (d.high - d.low + 1) * b / T := by
  obtain ⟨w1, w2⟩ := fineD_wid h
  have hT : 0 < T := by have := hS.1; have := hS.2.1; omega
  obtain ⟨_, _, c1, c2⟩ := h
  have hn := nar_ok (e := ⟨d.low, d.high, 0, []⟩) (by assumption) (by assumption) hS
  have hb1 := (nar_parts hS (W := d.high - d.low + 1) (by omega)).1
  unfold symX at h1 h2
  rw [Nat.le_div_iff_mul_le (by omega)] at h1
  rw [Nat.div_lt_iff_lt_mul (by omega)] at h2
  have k3 : 0 < (d.code - d.low + 1) * T := Nat.mul_pos (by omega) hT
  have k1 : (d.high - d.low + 1) * a / T < d.code - d.low + 1 := by
    rw [Nat.div_lt_iff_lt_mul hT, Nat.mul_comm (d.high - d.low + 1) a]
    omega
  have k2 : d.code - d.low + 1 ≤ (d.high - d.low + 1) * b / T := by
    rw [Nat.le_div_iff_mul_le hT, Nat.mul_comm (d.high - d.low + 1) b]
    omega
  refine ⟨?_, ?_, hn.1, by omega⟩
  · show d.low + (d.high - d.low + 1) * a / T ≤ d.code; omega
  · show d.code ≤ d.low + (d.high - d.low + 1) * b / T - 1; omega
/-- widening leaves a state that is fine -/
theorem widD_fine (m : Nat) {l : List Bool} : ∀ {d : De}, Ok d.low d.high → d.low ≤ d.code → d.code ≤ d.high → 4294967296 < (d.high - d.low + 1) * 2 ^ (m + 1) → FineD (widD m l d) ∧ (widD m l d).at_ ≤ d.at_ + m := by
  induction m with
  | zero =>
    intro d hok h1 h2 hw
    exact ⟨⟨hok, widS_zero hok hw, h1, h2⟩, by simp [widD]⟩
  | succ m ih =>
    intro d hok h1 h2 hw
    unfold widD
    by_cases hk : kind d.low d.high = 3
    · rw [if_pos hk]; exact ⟨⟨hok, hk, h1, h2⟩, by omega⟩
    · rw [if_neg hk]
      obtain ⟨_, b1, b2, b3, b4, b5⟩ := stepD_facts (l := l) hok hk h1 h2
      have := ih (d := stepD l d) ⟨b5, b3⟩ b1 b2 (by
        rw [b4]
        rw [Nat.pow_succ 2 (m + 1)] at hw
        rw [Nat.mul_comm 2 (d.high - d.low + 1), Nat.mul_assoc, Nat.mul_comm 2]
        exact hw)
      refine ⟨this.1, ?_⟩
      have e : (stepD l d).at_ = d.at_ + 1 := rfl
      have h3 := this.2
      omega
theorem nxD_fine {l : List Bool} {d : De} {a b T : Nat} (h : FineD d) (hS : Sp a b T) (h1 : a ≤ symX d T) (h2 : symX d T < b) : FineD (nxD l d a b T) ∧ (nxD l d a b T).at_ ≤ d.at_ + 40 := by
  obtain ⟨n1, n2, n3, _⟩ := narD_in h hS h1 h2
  refine widD_fine 40 n3 n1 n2 ?_
  rw [pow41]
  omega
theorem fineD0 (l : List Bool) : FineD (d0 l) := ⟨⟨by show (0 : Nat) ≤ 4294967295; omega, by show (4294967295 : Nat) < 4294967296; omega⟩, by show kind 0 4294967295 = 3; decide, Nat.zero_le _, by have := val_lt l 32; rw [pow32] at this; show val l 32 ≤ 4294967295; omega⟩
/-- a table's total, its symbols' numbers -/
theorem okF_tot {xs : List Int} (h : Fq.okF xs = true) : 1 ≤ spT xs ∧ spT xs ≤ 16384 ∧ Fq.totF true xs = (spT xs : Int) := by
  have hp := Fq.okF_parts h
  have b3 := Fq.okF_bd h (i := xs.length - 1) (by omega)
  have m2 := Fq.okF_mono h (i := 0) (j := xs.length - 1) (by omega) (by omega)
  unfold spT Fq.totF
  simp only [if_true]
  omega
/-- the next symbol, and what has its numbers -/
def nxK (d : De) (xs : List Int) : Nat := symK xs (symX d (spT xs))
def nxQ (d : De) (xs : List Int) : Pr := ((nxK d xs : Int), xs)
def nxE (l : List Bool) (d : De) (xs : List Int) : De := nxD l d (spA (nxQ d xs)) (spB (nxQ d xs)) (spT xs)
theorem next_sym {d : De} {xs : List Int} (h : FineD d) (ho : Fq.okF xs = true) : Fq.IsSym xs (symX d (spT xs) : Int) (nxK d xs) ∧ okP (nxQ d xs) = true ∧ spA (nxQ d xs) ≤ symX d (spT xs) ∧ symX d (spT xs) < spB (nxQ d xs) ∧ nxK d xs + 1 < xs.length := by
  obtain ⟨t1, t2, t3⟩ := okF_tot ho
  have hx := symX_lt h (T := spT xs) (by omega)
  have ht : xs.getD (xs.length - 1) 0 = (spT xs : Int) := t3
  obtain ⟨k, hk⟩ := Fq.isSym_some (x := (symX d (spT xs) : Int)) ho (by omega) (by rw [ht]; omega)
  have e : nxK d xs = k := symK_is ho hk
  rw [← e] at hk
  obtain ⟨h1, h2, h3⟩ := hk
  have e1 : (nxQ d xs).1 = (nxK d xs : Int) := rfl
  have e2 : (nxQ d xs).2 = xs := rfl
  have b1 := Fq.okF_bd ho (i := nxK d xs) (by omega)
  have b2 := Fq.okF_bd ho (i := nxK d xs + 1) h1
  refine ⟨⟨h1, h2, h3⟩, ?_, ?_, ?_, h1⟩
  · unfold okP Fq.symB
    rw [e1, e2, ho]
    simp only [Bool.true_and, decide_eq_true_eq]
    omega
  · unfold spA
    rw [e1, e2, Int.toNat_natCast]
    omega
  · unfold spB
    rw [e1, e2, Int.toNat_natCast]
    omega
theorem nxE_fine {l : List Bool} {d : De} {xs : List Int} (h : FineD d) (ho : Fq.okF xs = true) : FineD (nxE l d xs) ∧ (nxE l d xs).at_ ≤ d.at_ + 40 := by
  obtain ⟨_, h1, h2, h3, _⟩ := next_sym h ho
  exact nxD_fine h (symP_of h1).2.2.2 h2 h3
end Go.Proofs.Ytgelgbfnioagbaa.Cd
