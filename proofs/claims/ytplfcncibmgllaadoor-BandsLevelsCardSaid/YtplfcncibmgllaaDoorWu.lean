/-
  Own texts, laid together: Wu.
-/
import Derived.Test.YtplfcncibmgllaaDoorWi
/- Wu -/
namespace Go.Proofs.YtplfcncibmgllaaDoor.Lp
open Go.RowKit Go.Proofs.YtplfcncibmgllaaDoor.Fx Go.Proofs.YtplfcncibmgllaaDoor.Fq Go.Proofs.YtplfcncibmgllaaDoor.Tb
theorem tmod_bds (b : Int) (n : Int) (hn : 0 < n) : -n < b.tmod n ∧ b.tmod n < n := by
  have h1 := Int.tmod_lt_of_pos b hn
  have h2 := Int.tmod_lt_of_pos (-b) hn
  rw [Int.neg_tmod] at h2
  omega
theorem logN_four {E : Nat} (h : 0 < E) : logN (4 * E) = logN E + 16 := by
  unfold logN
  have hp : 0 < E ^ 8 := Nat.pow_pos h
  have := log2_shift (x := E ^ 8) (s := 16) (r := 0) hp (by decide)
  rw [Nat.mul_pow, show (4 : Nat) ^ 8 = 2 ^ 16 by decide]
  rw [Nat.zero_add] at this
  omega
theorem logN_mono {E F : Nat} (h : E ≤ F) : logN E ≤ logN F := by
  unfold logN
  by_cases h0 : E = 0
  · subst h0
    rw [show (0 ^ 8 : Nat).log2 = 0 by decide]; omega
  · have hE : E ^ 8 ≠ 0 := by have := Nat.pow_pos (n := 8) (show 0 < E by omega); omega
    have hF : F ^ 8 ≠ 0 := by have := Nat.pow_pos (n := 8) (show 0 < F by omega); omega
    exact (Nat.le_log2 hF).2 (Nat.le_trans ((Nat.le_log2 hE).1 (Nat.le_refl _)) (Nat.pow_le_pow_left h 8))
theorem log2_lt_pow {x k m : Nat} (hx : x ≠ 0) (h : x < (2 ^ k) ^ m) : x.log2 < k * m := (Nat.log2_lt hx).2 (by rw [Nat.pow_mul]; exact h)
theorem logN_small {E : Nat} (h : E < 72057594037927936) : logN E < 448 := by
  by_cases h0 : E = 0
  · subst h0; decide
  · have hE : E ^ 8 ≠ 0 := by have := Nat.pow_pos (n := 8) (show 0 < E by omega); omega
    have e : (72057594037927936 : Nat) = 2 ^ 56 := by decide
    rw [e] at h
    have := log2_lt_pow hE (Nat.pow_lt_pow_left h (n := 8) (by omega))
    unfold logN; omega
theorem lvl_four {E : Nat} (h0 : 0 < E) (h : E < 72057594037927936) : lvl (4 * E) = lvl E + 8 := by
  have h1 := logN_four h0
  have h2 := logN_small h
  unfold lvl
  rw [if_neg (by omega), if_neg (by omega), h1]
  omega
theorem lvl_mono {E F : Nat} (h : E ≤ F) : lvl E ≤ lvl F := by
  have h1 := logN_mono h
  unfold lvl
  by_cases hE : E = 0
  · rw [if_pos hE]; split <;> omega
  · rw [if_neg hE, if_neg (by omega)]; omega
theorem lvl_zero_iff (E : Nat) : lvl E = 0 ↔ E = 0 := by
  unfold lvl
  constructor
  · intro h
    by_cases hE : E = 0
    · exact hE
    · rw [if_neg hE] at h; omega
  · intro h; rw [if_pos h]
theorem sumN_mul (c : Int) (f : Nat → Int) : ∀ n, sumN (fun i => c * f i) n = c * sumN f n
  | 0 => by simp [sumN]
  | n + 1 => by rw [sumN_succ, sumN_succ, sumN_mul c f n, Int.mul_add]
theorem sumN_le {f g : Nat → Int} : ∀ n : Nat, (∀ i, i < n → f i ≤ g i) → sumN f n ≤ sumN g n
  | 0, _ => Int.le_refl _
  | n + 1, h => by
    have h1 := sumN_le n fun i hi => h i (by omega)
    have h2 := h n (by omega)
    rw [sumN_succ, sumN_succ]; omega
def twiceL (x : List Int) : List Int := tab 16 (fun i => x.getD i 0 * 2)
theorem own_twice (x : List Int) (b : Nat) {n : Nat} (hn : n < 16) : ownF (twiceL x) b n = ownF x b n * 2 := by
  unfold ownF
  split
  · rw [twiceL, tab_getD _ hn]
  · rfl
theorem dbl_sq (o : Int) : o * 2 * (o * 2) = 4 * (o * o) := by
  rw [Int.mul_assoc, Int.mul_left_comm 2 o 2, ← Int.mul_assoc]; omega
theorem en_twice (x : List Int) (b : Nat) : enB (twiceL x) b = 4 * enB x b := by
  have h : enN (twiceL x) b 16 = 4 * enN x b 16 := by
    unfold enN
    rw [← sumN_mul]
    refine sumN_congr _ _ _ fun i hi => ?_
    rw [own_twice x b hi]
    exact dbl_sq _
  have := enN_nonneg x b 16
  unfold enB
  rw [h]; omega
theorem own_small {x : List Int} (h : inR (-16777216) 16777216 x = true) (b n : Nat) : -16777216 ≤ ownF x b n ∧ ownF x b n ≤ 16777216 := by
  unfold ownF
  split
  · exact inR_bd h (by omega) (by omega) n
  · omega
theorem en_small {x : List Int} (h : inR (-16777216) 16777216 x = true) (b : Nat) : enB x b < 72057594037927936 := by
  have := sumN_bd (fun n => ownF x b n * ownF x b n) 281474976710656 16 fun i _ => by
    have h1 := own_small h b i
    have := mul_bd h1.1 h1.2 h1.1 h1.2
    constructor <;> omega
  unfold enB enN; omega
theorem okX_twice {x : List Int} (h : inR (-16777216) 16777216 x = true) : okX (twiceL x) = true := by
  refine (inR_iff (tab_length 16 _)).2 fun k hk => ?_
  rw [tab_getD _ hk]
  have := inR_bd h (by omega) (by omega) k
  omega
theorem okX_small {x : List Int} (lx : x.length = 16) (h : inR (-16777216) 16777216 x = true) : okX x = true := by
  refine (inR_iff lx).2 fun k _ => ?_
  have := inR_bd h (by omega) (by omega) k
  omega
theorem okX_greater {x : List Int} (lx : x.length = 16) (h : inR (-16777216) 16777216 x = true) {n : Nat} (hn : n < 16) {v : Int} (h1 : 0 ≤ v) (h2 : v ≤ 16778216) : okX (x.set n v) = true := by
  refine (inR_iff (by rw [List.length_set, lx])).2 fun k _ => ?_
  rw [getD_set' _ _ _ _ (by rw [lx]; exact hn)]
  have := inR_bd h (by omega) (by omega) k
  split <;> omega
theorem sq_le {a c : Int} (h1 : -c ≤ a) (h2 : a ≤ c) : a * a ≤ c * c := by
  have := mul_bd h1 h2 h1 h2
  omega
theorem own_set_other {x : List Int} (lx : x.length = 16) {n : Nat} (hn : n < 16) (v : Int) {b : Nat} (hb : b < 6) (h : ¬ b = bnd n) (i : Nat) : ownF (x.set n v) b i = ownF x b i := by
  unfold ownF
  split
  · rename_i hi
    rw [getD_set' _ _ _ _ (by rw [lx]; exact hn)]
    by_cases e : n = i
    · subst e
      exact absurd ((bnd_iff n hn b hb).2 hi).symm h
    · rw [if_neg e]
  · rfl
theorem en_set_other {x : List Int} (lx : x.length = 16) {n : Nat} (hn : n < 16) (v : Int) {b : Nat} (hb : b < 6) (h : ¬ b = bnd n) : enB (x.set n v) b = enB x b := by
  unfold enB enN
  rw [sumN_congr _ _ _ fun i _ => by rw [own_set_other lx hn v hb h i]]
theorem en_set_greater {x : List Int} (lx : x.length = 16) {n : Nat} (hn : n < 16) {v : Int} (h1 : -v ≤ x.getD n 0) (h2 : x.getD n 0 ≤ v) (b : Nat) : enB x b ≤ enB (x.set n v) b := by
  have h : enN x b 16 ≤ enN (x.set n v) b 16 := sumN_le 16 fun i hi => by
    unfold ownF
    split
    · rw [getD_set' _ _ _ _ (by rw [lx]; exact hn)]
      by_cases e : n = i
      · subst e; rw [if_pos rfl]; exact sq_le h1 h2
      · rw [if_neg e]; exact Int.le_refl _
    · exact Int.le_refl _
  unfold enB
  omega
end Go.Proofs.YtplfcncibmgllaaDoor.Lp
