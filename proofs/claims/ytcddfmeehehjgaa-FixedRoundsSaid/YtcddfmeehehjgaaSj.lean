/-
  Own texts, laid together: Sj.
-/
import Derived.Test.YtcddfmeehehjgaaSi
/- Sj -/
namespace Go.Proofs.Ytcddfmeehehjgaa.Fx
open Go.RowKit
/-- an answer of Div: a number and an error -/
theorem divV_some (a b : Int) : ∃ x e : Int, divV a b = .tuple #[.int .i64 x, .int .i64 e] := by
  unfold divV
  split
  · exact ⟨_, _, rfl⟩
  · exact ⟨_, _, rfl⟩
set_option maxRecDepth 100000 in
set_option maxHeartbeats 4000000 in
theorem rounds_law (v s a b : Int) (w : World) (hv : -9223372036854775808 ≤ v ∧ v ≤ 9223372036854775807) (ha : -9223372036854775808 ≤ a ∧ a ≤ 9223372036854775807) (hb : b ≤ 9223372036854775807) :
    Calls Try.prog 4 #[.int .i64 v, .int .i64 s, .int .i64 a, .int .i64 b] w fun e w' => e = .returned (.bool true) ∧ Below w.heap.size w w' := by
  obtain ⟨x, er, hxe⟩ := divV_some a b
  have HD := Lib.hid hxe
  obtain ⟨R, hR⟩ : ∃ R, roundI v s = R := ⟨_, rfl⟩
  obtain ⟨M, hM⟩ : ∃ M, mulI a b s = M := ⟨_, rfl⟩
  have HR := Lib.hid hR
  have HM := Lib.hid hM
  have HV := Lib.hid hv
  have HA := Lib.hid ha
  have HB := Lib.hid hb
  clear hxe hR hM hv ha hb
  go_enter Try.func4, Try.ntmps4
  go_wp2_with fail
  refine (live_any _).mono ?_
  rintro e w1 ⟨rfl, hb1⟩
  have H1 := Lib.hid hb1
  clear hb1
  go_wp2_with fail
  refine (div_any a b _ HA.out HB.out).mono ?_
  rintro e w2 ⟨rfl, q, hw⟩
  rw [HD.out]
  have H2 := Lib.hid (show Below w.heap.size w w2 by rw [hw]; exact below_drewN H1.out q)
  clear hw
  go_wp2_with fail
  refine (rdiv_any a b _ HA.out HB.out).mono ?_
  rintro e w' ⟨rfl, rfl⟩
  rw [HD.out]
  go_wp2_with fail
  refine (round_any v s _ HV.out).mono ?_
  rintro e w' ⟨rfl, rfl⟩
  rw [HR.out]
  go_wp2_with fail
  refine (rround_any v s _ HV.out).mono ?_
  rintro e w' ⟨rfl, rfl⟩
  rw [HR.out]
  go_wp2_with fail
  refine (mul_any a b s _).mono ?_
  rintro e w' ⟨rfl, rfl⟩
  rw [HM.out]
  go_wp2_with fail
  refine (rmul_any a b s _).mono ?_
  rintro e w' ⟨rfl, rfl⟩
  rw [HM.out]
  go_wp2
  go_ret
  exact ⟨rfl, H2.out⟩
end Go.Proofs.Ytcddfmeehehjgaa.Fx
