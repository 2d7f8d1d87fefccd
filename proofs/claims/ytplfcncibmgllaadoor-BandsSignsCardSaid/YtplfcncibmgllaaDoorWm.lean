/-
  Own texts, laid together: Wm.
-/
import Derived.Test.YtplfcncibmgllaaDoorWa
/- Wm -/
namespace Go.Proofs.YtplfcncibmgllaaDoor.Lp
open Go.RowKit Go.Proofs.YtplfcncibmgllaaDoor.Fx Go.Proofs.YtplfcncibmgllaaDoor.Fq Go.Proofs.YtplfcncibmgllaaDoor.Tb
def chkL (l : List Int) : Bool := inR 0 255 l
def heldL (l : List Int) : List Int := tab 6 (fun b => max 0 (min (l.getD b 0) 255))
theorem held_iff {l : List Int} (hl : l.length = 6) : heldL l = l ↔ chkL l = true := by
  unfold chkL
  rw [inR_iff hl]
  constructor
  · intro h k hk
    have e : (heldL l).getD k 0 = l.getD k 0 := by rw [h]
    rw [heldL, tab_getD _ hk] at e
    omega
  · intro h
    refine getD_ext (by rw [heldL, tab_length, hl]) fun k hk => ?_
    rw [heldL, tab_length] at hk
    rw [heldL, tab_getD _ hk]
    have := h k hk
    omega
/-- up to which level band b is not heard beside the first k bands -/
def mkN (l : List Int) (b : Nat) : Nat → Int
  | 0 => 0
  | k + 1 => if k = b then mkN l b k else max (mkN l b k) (l.getD k 0 - 12 * max ((k : Int) - (b : Int)) ((b : Int) - (k : Int)) - 8)
theorem mkN_self (l : List Int) (k : Nat) : mkN l k (k + 1) = mkN l k k := by rw [mkN, if_pos rfl]
theorem mkN_other (l : List Int) {b k : Nat} (h : ¬ k = b) : mkN l b (k + 1) = max (mkN l b k) (l.getD k 0 - 12 * max ((k : Int) - (b : Int)) ((b : Int) - (k : Int)) - 8) := by rw [mkN, if_neg h]
def maskL (l : List Int) : List Int := tab 6 (fun b => mkN l b 6)
theorem maskL_length (l : List Int) : (maskL l).length = 6 := tab_length _ _
theorem mkN_bd {l : List Int} (h : chkL l = true) (b : Nat) : ∀ k, 0 ≤ mkN l b k ∧ mkN l b k ≤ 255
  | 0 => ⟨Int.le_refl _, by show (0 : Int) ≤ 255; omega⟩
  | k + 1 => by
    have ih := mkN_bd h b k
    have hv := inR_bd h (by omega) (by omega) k
    unfold mkN
    split <;> omega
theorem mask_bd {l : List Int} (h : chkL l = true) {b : Nat} (hb : b < 6) : 0 ≤ (maskL l).getD b 0 ∧ (maskL l).getD b 0 ≤ 255 := by
  rw [maskL, tab_getD _ hb]; exact mkN_bd h b 6
def wishI (v m : Int) : Int := if v ≤ m then 0 else min ((v - m + 7) / 8) 7
def wishL (l m : List Int) : List Int := tab 6 (fun b => wishI (l.getD b 0) (m.getD b 0))
theorem wishI_bd (v m : Int) : 0 ≤ wishI v m ∧ wishI v m ≤ 7 := by
  unfold wishI; split <;> omega
theorem wishI_zero (v m : Int) : wishI v m = 0 ↔ v ≤ m := by
  unfold wishI; split <;> omega
def costN (a : List Int) (k : Nat) : Int := sumN (fun b => a.getD b 0 * ((edg (b + 1) : Int) - (edg b : Int))) k
def costL (a : List Int) : Int := costN a 6
theorem costL_eq (a : List Int) : costL a = a.getD 0 0 + a.getD 1 0 + 2 * a.getD 2 0 + 2 * a.getD 3 0 + 4 * a.getD 4 0 + 6 * a.getD 5 0 := by
  have e : ∀ b, b < 7 → (edg b : Int) = [0, 1, 2, 4, 6, 10, 16].getD b 0 := by decide
  unfold costL costN
  simp only [sumN]
  rw [e 0 (by omega), e (0 + 1) (by omega), e (1 + 1) (by omega), e (2 + 1) (by omega), e (3 + 1) (by omega), e (4 + 1) (by omega), e (5 + 1) (by omega)]
  simp only [Nat.reduceAdd, List.getD_cons_zero, List.getD_cons_succ]
  omega
/-- the last of the first k bands that has the most bits -/
def lastM (a : List Int) : Nat → Nat
  | 0 => 0
  | k + 1 => if a.getD (lastM a k) 0 ≤ a.getD k 0 then k else lastM a k
theorem lastM_lt (a : List Int) : ∀ k, lastM a (k + 1) < k + 1
  | 0 => by unfold lastM; split <;> simp [lastM]
  | k + 1 => by
    have ih := lastM_lt a k
    rw [lastM]; split <;> omega
theorem lastM_lt6 (a : List Int) : lastM a 6 < 6 := lastM_lt a 5
theorem lastM_max (a : List Int) : ∀ k j, j < k → a.getD j 0 ≤ a.getD (lastM a k) 0
  | k + 1, j, hj => by
    have ih := lastM_max a k
    rw [lastM]
    split
    · rename_i h
      by_cases e : j = k
      · subst e; exact Int.le_refl _
      · exact Int.le_trans (ih j (by omega)) h
    · rename_i h
      by_cases e : j = k
      · subst e; omega
      · exact ih j (by omega)
theorem lastM_last (a : List Int) : ∀ k j, j < k → lastM a k < j → a.getD j 0 < a.getD (lastM a k) 0
  | k + 1, j, hj, hl => by
    have ih := lastM_last a k
    rw [lastM] at hl ⊢
    split
    · rename_i h
      rw [if_pos h] at hl; omega
    · rename_i h
      rw [if_neg h] at hl
      by_cases e : j = k
      · subst e; omega
      · exact ih j (by omega) hl
theorem lastM_is {a : List Int} {b : Nat} (hb : b < 6) (h1 : ∀ j, j < 6 → a.getD j 0 ≤ a.getD b 0) (h2 : ∀ j, j < 6 → b < j → a.getD j 0 < a.getD b 0) : lastM a 6 = b := by
  have k1 := lastM_lt6 a
  have k2 := lastM_max a 6 b hb
  have k3 := h1 _ k1
  rcases Nat.lt_trichotomy (lastM a 6) b with h | h | h
  · have := lastM_last a 6 b hb h; omega
  · exact h
  · have := h2 _ k1 h; omega
def stpL (a : List Int) : List Int := a.set (lastM a 6) (a.getD (lastM a 6) 0 - 1)
def OkA (a : List Int) : Prop := a.length = 6 ∧ ∀ b, b < 6 → 0 ≤ a.getD b 0 ∧ a.getD b 0 ≤ 7
def sumA (a : List Int) : Nat := (sumN (fun b => a.getD b 0) 6).toNat
theorem getD_set' (a : List Int) (i : Nat) (v : Int) (j : Nat) (hi : i < a.length) : (a.set i v).getD j 0 = if i = j then v else a.getD j 0 := by
  simp only [List.getD_eq_getElem?_getD, List.getElem?_set]
  by_cases h : i = j
  · subst h; simp [hi]
  · simp [h]
theorem costL_pos {a : List Int} {B : Int} (hB : 0 ≤ B) (hc : B < costL a) : 0 < a.getD (lastM a 6) 0 := by
  rw [costL_eq] at hc
  have m := lastM_max a 6
  have m0 := m 0 (by omega)
  have m1 := m 1 (by omega)
  have m2 := m 2 (by omega)
  have m3 := m 3 (by omega)
  have m4 := m 4 (by omega)
  have m5 := m 5 (by omega)
  omega
theorem stp_ok {a : List Int} (h : OkA a) (hp : 0 < a.getD (lastM a 6) 0) : OkA (stpL a) := by
  have hl := lastM_lt6 a
  refine ⟨by rw [stpL, List.length_set, h.1], fun b hb => ?_⟩
  rw [stpL, getD_set' _ _ _ _ (by rw [h.1]; exact hl)]
  have := h.2 b hb
  have := h.2 _ hl
  split <;> omega
theorem sum_set (a : List Int) (i : Nat) (v : Int) (hi : i < a.length) : ∀ k, sumN (fun b => (a.set i v).getD b 0) k = sumN (fun b => a.getD b 0) k + if i < k then v - a.getD i 0 else 0
  | 0 => by simp [sumN]
  | k + 1 => by
    rw [sumN_succ, sumN_succ, sum_set a i v hi k, getD_set' _ _ _ _ hi]
    by_cases h : i = k
    · subst h
      rw [if_pos rfl, if_neg (by omega), if_pos (by omega)]
      omega
    · rw [if_neg h]
      by_cases h2 : i < k
      · rw [if_pos h2, if_pos (by omega)]; omega
      · rw [if_neg h2, if_neg (by omega)]; omega
theorem sumA_le {a : List Int} (h : OkA a) : sumA a ≤ 42 := by
  have := sumN_bd (fun b => if b < 6 then a.getD b 0 else 0) 7 6 fun i hi => by
    have := h.2 i hi
    show -7 ≤ (if i < 6 then a.getD i 0 else 0) ∧ (if i < 6 then a.getD i 0 else 0) ≤ 7
    rw [if_pos hi]; omega
  have e : sumN (fun b => a.getD b 0) 6 = sumN (fun b => if b < 6 then a.getD b 0 else 0) 6 := sumN_congr _ _ _ fun i hi => (if_pos hi).symm
  unfold sumA; rw [e]; omega
theorem sum_nonneg {a : List Int} (h : OkA a) : 0 ≤ sumN (fun b => a.getD b 0) 6 := sumN_nonneg _ fun i hi => (h.2 i hi).1
theorem stp_sum {a : List Int} (h : OkA a) (hp : 0 < a.getD (lastM a 6) 0) : sumA (stpL a) + 1 = sumA a := by
  have hl := lastM_lt6 a
  have h1 := sum_set a (lastM a 6) (a.getD (lastM a 6) 0 - 1) (by rw [h.1]; exact hl) 6
  rw [if_pos hl] at h1
  have h2 := sum_nonneg (stp_ok h hp)
  unfold stpL at h2
  unfold sumA stpL
  omega
/-- a bit less, n times at the most, as long as it costs more -/
def narL : Nat → List Int → Int → List Int
  | 0, a, _ => a
  | n + 1, a, B => if costL a ≤ B then a else narL n (stpL a) B
theorem nar_done {n : Nat} {a : List Int} {B : Int} (h : costL a ≤ B) : narL n a B = a := by
  cases n with
  | zero => rfl
  | succ n => rw [narL, if_pos h]
theorem nar_fuel {B : Int} (hB : 0 ≤ B) : ∀ (n m : Nat) (a : List Int), OkA a → sumA a ≤ n → sumA a ≤ m → narL n a B = narL m a B
  | n, m, a, h, hn, hm => by
    by_cases hc : costL a ≤ B
    · rw [nar_done hc, nar_done hc]
    · have hp := costL_pos (a := a) hB (by omega)
      have hs := stp_sum h hp
      match n, m with
      | n + 1, m + 1 =>
        rw [narL, narL, if_neg hc, if_neg hc]
        exact nar_fuel hB n m _ (stp_ok h hp) (by omega) (by omega)
      | 0, _ => omega
      | _ + 1, 0 => omega
theorem nar_step {B : Int} (hB : 0 ≤ B) {a : List Int} (h : OkA a) (hc : ¬ costL a ≤ B) : narL 42 a B = narL 42 (stpL a) B ∧ OkA (stpL a) := by
  have hp := costL_pos (a := a) hB (by omega)
  have hs := stp_sum h hp
  have h42 := sumA_le h
  refine ⟨?_, stp_ok h hp⟩
  rw [show (42 : Nat) = 41 + 1 from rfl, narL, if_neg hc]
  exact nar_fuel hB 41 (41 + 1) _ (stp_ok h hp) (by omega) (by omega)
theorem nar_ok {B : Int} (hB : 0 ≤ B) : ∀ (n : Nat) (a : List Int), OkA a → sumA a ≤ n → OkA (narL n a B) ∧ costL (narL n a B) ≤ B ∧ ∀ b, b < 6 → (narL n a B).getD b 0 ≤ a.getD b 0
  | n, a, h, hn => by
    by_cases hc : costL a ≤ B
    · rw [nar_done hc]; exact ⟨h, hc, fun b _ => Int.le_refl _⟩
    · have hp := costL_pos (a := a) hB (by omega)
      have hs := stp_sum h hp
      match n with
      | 0 => omega
      | n + 1 =>
        rw [narL, if_neg hc]
        obtain ⟨h1, h2, h3⟩ := nar_ok hB n _ (stp_ok h hp) (by omega)
        refine ⟨h1, h2, fun b hb => Int.le_trans (h3 b hb) ?_⟩
        have hl := lastM_lt6 a
        rw [stpL, getD_set' _ _ _ _ (by rw [h.1]; exact hl)]
        split
        · rename_i e; rw [e]; omega
        · exact Int.le_refl _
/-- narrowing to less goes by way of narrowing to more -/
theorem nar_via {B C : Int} (hB : 0 ≤ B) (hBC : B ≤ C) : ∀ (n : Nat) (a : List Int), OkA a → sumA a ≤ n → narL 42 a B = narL 42 (narL n a C) B
  | n, a, h, hn => by
    by_cases hc : costL a ≤ C
    · rw [nar_done hc]
    · have hp := costL_pos (a := a) (by omega : 0 ≤ C) (by omega)
      have hs := stp_sum h hp
      match n with
      | 0 => omega
      | n + 1 =>
        rw [show narL (n + 1) a C = narL n (stpL a) C by rw [narL, if_neg hc], (nar_step hB h (by omega)).1]
        exact nar_via hB hBC n _ (stp_ok h hp) (by omega)
def shareL (l : List Int) (B : Int) : List Int := narL 42 (wishL l (maskL l)) B
theorem wish_ok (l m : List Int) : OkA (wishL l m) := ⟨tab_length _ _, fun b hb => by rw [wishL, tab_getD _ hb]; exact wishI_bd _ _⟩
theorem share_ok (l : List Int) {B : Int} (hB : 0 ≤ B) : OkA (shareL l B) ∧ costL (shareL l B) ≤ B := by
  have h := nar_ok hB 42 _ (wish_ok l (maskL l)) (sumA_le (wish_ok _ _))
  exact ⟨h.1, h.2.1⟩
theorem share_mono (l : List Int) {B C : Int} (hB : 0 ≤ B) (hBC : B ≤ C) {b : Nat} (hb : b < 6) : (shareL l B).getD b 0 ≤ (shareL l C).getD b 0 := by
  have w := wish_ok l (maskL l)
  have h := nar_ok (show 0 ≤ C by omega) 42 _ w (sumA_le w)
  unfold shareL
  rw [nar_via hB hBC 42 _ w (sumA_le w)]
  exact (nar_ok hB 42 _ h.1 (sumA_le h.1)).2.2 b hb
theorem cost_le {a : List Int} (h : OkA a) : 0 ≤ costL a ∧ costL a ≤ 112 := by
  rw [costL_eq]
  have h0 := h.2 0 (by omega)
  have h1 := h.2 1 (by omega)
  have h2 := h.2 2 (by omega)
  have h3 := h.2 3 (by omega)
  have h4 := h.2 4 (by omega)
  have h5 := h.2 5 (by omega)
  omega
theorem share_all (l : List Int) : shareL l 112 = wishL l (maskL l) := nar_done (cost_le (wish_ok _ _)).2
theorem share_enough (l : List Int) {B : Int} (h : costL (wishL l (maskL l)) ≤ B) : shareL l B = wishL l (maskL l) := nar_done h
end Go.Proofs.YtplfcncibmgllaaDoor.Lp
