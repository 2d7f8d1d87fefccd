/-
  Own texts, laid together: Se.
-/
import Derived.Test.YtcddfmeehehjgaaSd
/- Se -/
namespace Go.Proofs.Ytcddfmeehehjgaa.Fx
open Go.RowKit
theorem below_of_drewN (w : World) (q : Nat) : Below w.heap.size w (w.drewN q) := below_drewN (Below.refl _ _) q
set_option maxRecDepth 100000 in
set_option maxHeartbeats 1000000 in
theorem live_any (w : World) : Calls Try.prog 10 #[] w fun e w' => e = .returned (.bool true) ∧ Below w.heap.size w w' := by
  go_enter Try.func10, Try.ntmps10
  go_wp2_with fail
  refine (div_any (-5) 2 _ (by omega) (by omega)).mono ?_
  rintro e w1 ⟨rfl, q, hw⟩
  rw [show divV (-5) 2 = .tuple #[.int .i64 (-3), .int .i64 0] by unfold divV; rw [if_neg (by omega), show divI (-5) 2 = -3 by decide +kernel]]
  have H1 := Lib.hid (show Below w.heap.size w w1 by rw [hw]; exact below_of_drewN w q)
  clear hw
  go_wp2_with fail
  refine (sat_any 40000 16 _).mono ?_
  rintro e w' ⟨rfl, rfl⟩
  rw [show satI 40000 16 = 32767 by decide +kernel]
  go_wp2_with fail
  refine (round_any 3 1 _ (by omega)).mono ?_
  rintro e w' ⟨rfl, rfl⟩
  rw [show roundI 3 1 = 2 by decide +kernel]
  go_wp2_with fail
  refine (round_any (-3) 1 _ (by omega)).mono ?_
  rintro e w' ⟨rfl, rfl⟩
  rw [show roundI (-3) 1 = -1 by decide +kernel]
  go_wp2_with fail
  refine (log_any 3 _ (by omega)).mono ?_
  rintro e w2 ⟨rfl, hb⟩
  rw [show logN 3 = 12 by decide +kernel]
  have H2 := Lib.hid (H1.out.trans (hb.mono H1.out.size))
  clear hb
  go_wp2
  go_ret
  exact ⟨rfl, H2.out⟩
end Go.Proofs.Ytcddfmeehehjgaa.Fx
