/-
  Own texts, laid together: Lb.
-/
import Derived.Test.YtplfcncibmgllaaDoorLa
/- Lb -/
namespace Go.Proofs.YtplfcncibmgllaaDoor.Lp
open Go.RowKit Go.Proofs.YtplfcncibmgllaaDoor.Fx Go.Proofs.YtplfcncibmgllaaDoor.Fq Go.Proofs.YtplfcncibmgllaaDoor.Tb
/-- the circle on the way: a cosines, b sines -/
def cR (a b : Nat) : List Int := (List.range 256).map fun n => if n < 128 then (if n < a then cosP n else 0) else if n - 128 < b then sinP (n - 128) else 0
def cAll : List Int := cR 128 128
theorem cR_length (a b : Nat) : (cR a b).length = 256 := by rw [cR, List.length_map, List.length_range]
theorem cAll_length : cAll.length = 256 := cR_length _ _
theorem cR_get (a b n : Nat) (h : n < 256) : (cR a b)[n]? = some (if n < 128 then (if n < a then cosP n else 0) else if n - 128 < b then sinP (n - 128) else 0) := by
  unfold cR; rw [List.getElem?_map, List.getElem?_range h]; rfl
theorem cR_none : cR 0 0 = zr 256 := by
  unfold zr
  refine List.ext_getElem? fun i => ?_
  by_cases h : i < 256
  · rw [cR_get _ _ _ h, List.getElem?_replicate, if_pos h]
    simp
  · rw [List.getElem?_eq_none (by rw [cR_length]; omega), List.getElem?_eq_none (by rw [List.length_replicate]; omega)]
theorem cR_cos (a b : Nat) (h : a < 128) : (cR a b).set a (cosP a) = cR (a + 1) b := by
  refine List.ext_getElem? fun i => ?_
  rw [List.getElem?_set, cR_length]
  by_cases hi : i < 256
  · rw [cR_get _ _ _ hi, cR_get _ _ _ hi]
    by_cases k : a = i
    · subst k
      rw [if_pos rfl, if_pos hi, if_pos h, if_pos (by omega)]
    · rw [if_neg k]
      by_cases k1 : i < 128
      · rw [if_pos k1, if_pos k1]
        by_cases k2 : i < a
        · rw [if_pos k2, if_pos (by omega)]
        · rw [if_neg k2, if_neg (by omega)]
      · rw [if_neg k1, if_neg k1]
  · rw [List.getElem?_eq_none (by rw [cR_length]; omega), List.getElem?_eq_none (by rw [cR_length]; omega), if_neg (by omega)]
theorem cR_sin (a b : Nat) (h : b < 128) : (cR a b).set (128 + b) (sinP b) = cR a (b + 1) := by
  refine List.ext_getElem? fun i => ?_
  rw [List.getElem?_set, cR_length]
  by_cases hi : i < 256
  · rw [cR_get _ _ _ hi, cR_get _ _ _ hi]
    by_cases k : 128 + b = i
    · subst k
      rw [if_pos rfl, if_pos hi, if_neg (by omega), if_pos (by omega), show 128 + b - 128 = b by omega]
    · rw [if_neg k]
      by_cases k1 : i < 128
      · rw [if_pos k1, if_pos k1]
      · rw [if_neg k1, if_neg k1]
        by_cases k2 : i - 128 < b
        · rw [if_pos k2, if_pos (by omega)]
        · rw [if_neg k2, if_neg (by omega)]
  · rw [List.getElem?_eq_none (by rw [cR_length]; omega), List.getElem?_eq_none (by rw [cR_length]; omega), if_neg (by omega)]
theorem cAll_cos (n : Nat) (h : n < 128) : cAll.getD n 0 = cosP n := by
  unfold cAll
  rw [List.getD_eq_getElem?_getD, cR_get _ _ _ (by omega), if_pos h, if_pos h]; rfl
theorem cAll_sin (n : Nat) (h : n < 128) : cAll.getD (128 + n) 0 = sinP n := by
  unfold cAll
  rw [List.getD_eq_getElem?_getD, cR_get _ _ _ (by omega), if_neg (by omega), show 128 + n - 128 = n by omega, if_pos h]; rfl
/-- the window's n-th, the kernel's (n, k) -/
def winP (n : Nat) : Int := sinP (2 * n + 1)
def kerP (n k : Nat) : Int := cosP ((2 * n + 17) * (2 * k + 1) % 128)
theorem kerP_is (n k : Nat) : kerI (n : Int) (k : Int) = kerP n k := by
  have e : (2 * (n : Int) + 17) * (2 * (k : Int) + 1) = (((2 * n + 17) * (2 * k + 1) : Nat) : Int) := by simp
  have e2 : pl (phI (n : Int) (k : Int)) = (2 * n + 17) * (2 * k + 1) % 128 := by
    unfold pl phI
    rw [e]
    generalize (2 * n + 17) * (2 * k + 1) = z
    omega
  unfold kerI kerP
  rw [e2]
def RoundQ (w : World) (e : Ending) (w' : World) : Prop := e = .returned (.agg (icells cAll)) ∧ Below w.heap.size w w'
end Go.Proofs.YtplfcncibmgllaaDoor.Lp
