/-
  Own texts, laid together: Lu.
-/
import Derived.Test.YtclcahaflngjhaaLt
import Derived.Test.YtclcahaflngjhaaLq
/- Lu -/
namespace Go.Proofs.Ytclcahaflngjhaa.Lp
open Go.RowKit Go.Proofs.Ytclcahaflngjhaa.Fx Go.Proofs.Ytclcahaflngjhaa.Fq Go.Proofs.Ytclcahaflngjhaa.Tb
theorem inv_zero : invL (zr 16) = zr 32 := by
  refine Eq.trans (tab_congr fun n _ => ?_) (tab_zero 32)
  unfold inv
  rw [show mixN (zr 16) n = 0 from sumN_zero _ 16 fun k _ => by rw [zr_getD, Int.zero_mul], round20]
  rw [show (0 : Int) / 1048576 + 0 / 524288 % 2 = 0 by decide, Int.zero_mul, round27]
  rfl
theorem left_zero : leftL (zr 32) = zr 16 := Eq.trans (tab_congr fun _ _ => zr_getD _ _) (tab_zero 16)
theorem sat_small {v : Int} (h1 : -32768 ≤ v) (h2 : v ≤ 32767) : satI v 16 = v := by
  unfold satI
  rw [show bwN 16 = 15 by decide]
  unfold holdI
  simp only [show ((2 ^ 15 : Nat) : Int) = 32768 by decide]
  omega
theorem lap_zero : lapL (zr 16) (zr 32) = zr 16 := by
  refine Eq.trans (tab_congr fun i _ => ?_) (tab_zero 16)
  unfold lapN
  rw [zr_getD, zr_getD, round8]
  exact sat_small (by decide) (by decide)
theorem okX_zero : okX (zr 16) = true := (inR_iff (zr_length 16)).2 fun k _ => by rw [zr_getD]; omega
theorem okW_zero : okW (zr 16) = true := (inR_iff (zr_length 16)).2 fun k _ => by rw [zr_getD]; omega
theorem back_zeros : ∀ m : Nat, backR (zr 16) (List.replicate m (zr 16)) = some (List.replicate m (zr 16), zr 16)
  | 0 => rfl
  | m + 1 => by
    rw [List.replicate_succ, backR_cons okX_zero okW_zero, inv_zero, left_zero, lap_zero, back_zeros m]
    rfl
theorem back_silence (t : List Int) (ht : okW t = true) (m : Nat) : backR t (List.replicate (m + 1) (zr 16)) = some (lapL t (zr 32) :: List.replicate m (zr 16), zr 16) := by
  rw [List.replicate_succ, backR_cons okX_zero ht, inv_zero, left_zero, back_zeros m]
  rfl
theorem zeros_flat : ∀ m : Nat, flatF (List.replicate m (zr 16)) 0 = zr (16 * m)
  | 0 => rfl
  | m + 1 => by
    have ih := zeros_flat m
    unfold flatF at ih ⊢
    rw [List.replicate_succ, List.flatten_cons, List.append_assoc, ih]
    unfold zr
    rw [List.replicate_append_replicate]
    congr 1; omega
theorem all16_zeros (m : Nat) : All16 (List.replicate m (zr 16)) := fun f hf => by rw [List.eq_of_mem_replicate hf]; exact zr_length 16
theorem lap_near {t : List Int} {k : Nat} (hk : k < 16) (h1 : -4194304 < t.getD k 0) (h2 : t.getD k 0 < 4194304) :
    256 * (lapL t (zr 32)).getD k 0 - t.getD k 0 ≤ 128 ∧ t.getD k 0 - 256 * (lapL t (zr 32)).getD k 0 ≤ 128 := by
  rw [show (lapL t (zr 32)).getD k 0 = lapN t (zr 32) k from tab_getD _ hk]
  unfold lapN
  rw [zr_getD, Int.add_zero, round8]
  rw [sat_small (by omega) (by omega)]
  omega
theorem lapN_bd (t v : List Int) (k : Nat) : -32768 ≤ lapN t v k ∧ lapN t v k ≤ 32767 := by
  unfold lapN satI
  rw [show bwN 16 = 15 by decide]
  unfold holdI
  simp only [show ((2 ^ 15 : Nat) : Int) = 32768 by decide]
  omega
end Go.Proofs.Ytclcahaflngjhaa.Lp
