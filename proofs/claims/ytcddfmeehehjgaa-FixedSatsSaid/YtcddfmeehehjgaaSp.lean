/-
  Own texts, laid together: Sp.
-/
import Derived.Test.YtcddfmeehehjgaaSo
/- Sp -/
namespace Go.Proofs.Ytcddfmeehehjgaa.Fx
open Go.RowKit
set_option maxRecDepth 100000 in
set_option maxHeartbeats 4000000 in
theorem pclip_not (A : Option Addr) (n c : Nat) (zs : List Int) (w : World) (h16 : ¬ n = 16) (hr : Hid (Fq.RdI w A n zs)) :
    Calls Try.prog 11 #[.slice A n c] w (ClP w zs) := by
  have HV := Lib.hid (show clipV zs = .tuple #[.agg (Fq.icells (List.replicate 16 0)), .int .i64 1] by unfold clipV; rw [if_neg (by rw [hr.out.1]; exact h16)])
  have h16' : ((n : Int) != 16) = true := by simp; omega
  go_enter Try.func11, Try.ntmps11
  go_wp2_with fail
  refine bodyPost_ret (v := .tuple #[.agg (Fq.icells (List.replicate 16 0)), .int .i64 1]) (by simp [results, Try.results11, go_sem, Fq.icells]) rfl ?_
  refine ⟨by rw [HV.out], ?_⟩
  first
    | exact (Below.refl _ _).alloc (Nat.le_refl _) _
    | exact ((Below.refl _ _).alloc (Nat.le_refl _) _).alloc (by simp) _
set_option maxRecDepth 100000 in
set_option maxHeartbeats 4000000 in
theorem rclip_not (A : Option Addr) (n c : Nat) (zs : List Int) (w : World) (h16 : ¬ n = 16) (hr : Hid (Fq.RdI w A n zs)) :
    Calls Try.prog 12 #[.slice A n c] w (ClP w zs) := by
  have HV := Lib.hid (show clipV zs = .tuple #[.agg (Fq.icells (List.replicate 16 0)), .int .i64 1] by unfold clipV; rw [if_neg (by rw [hr.out.1]; exact h16)])
  have h16' : ((n : Int) != 16) = true := by simp; omega
  go_enter Try.func12, Try.ntmps12
  go_wp2_with fail
  refine bodyPost_ret (v := .tuple #[.agg (Fq.icells (List.replicate 16 0)), .int .i64 1]) (by simp [results, Try.results12, go_sem, Fq.icells]) rfl ?_
  refine ⟨by rw [HV.out], ?_⟩
  first
    | exact (Below.refl _ _).alloc (Nat.le_refl _) _
    | exact ((Below.refl _ _).alloc (Nat.le_refl _) _).alloc (by simp) _
end Go.Proofs.Ytcddfmeehehjgaa.Fx
