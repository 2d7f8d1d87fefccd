/-
  Own texts, laid together: Le.
-/
import Derived.Test.YtclcahaflngjhaaLd
/- Le -/
namespace Go.Proofs.Ytclcahaflngjhaa.Lp
open Go.RowKit Go.Proofs.Ytclcahaflngjhaa.Fx Go.Proofs.Ytclcahaflngjhaa.Fq Go.Proofs.Ytclcahaflngjhaa.Tb
/-- each sample's sum, behind k numbers -/
def mxN (x : List Int) (k n : Nat) : Int := sumN (fun k => x.getD k 0 * kerP n k) k
set_option maxRecDepth 100000 in
set_option maxHeartbeats 4000000 in
theorem mix_any (x : List Int) (w : World) (hx : okX x = true) (lx : x.length = 16) :
    Calls Try.prog 33 #[.agg (icells x)] w (AggQ w (tab 32 (mixN x))) := by
  have HX := Lib.hid hx
  have LX := Lib.hid lx
  have HM := Lib.hid (Mem.start w)
  clear hx lx
  go_enter Try.func33, Try.ntmps33
  go_wp2_with (first | (first | (have hq : Hid (Mem _ [] _) := HM; clear hq; (first | refine wl_box rfl _ _ rfl rfl HM ?_ | refine wl_alloc rfl _ rfl (by first | exact arrPcm | exact arrSpec | exact arrTail | exact arrWave | exact arrPair | exact arrRound) HM ?_); clear HM; intro g1 u1 HM) | (have hq : Hid (Mem _ [_] _) := HM; clear hq; (first | refine wl_box rfl _ _ rfl rfl HM ?_ | refine wl_alloc rfl _ rfl (by first | exact arrPcm | exact arrSpec | exact arrTail | exact arrWave | exact arrPair | exact arrRound) HM ?_); clear HM; intro g2 u2 HM) | (have hq : Hid (Mem _ [_, _] _) := HM; clear hq; (first | refine wl_box rfl _ _ rfl rfl HM ?_ | refine wl_alloc rfl _ rfl (by first | exact arrPcm | exact arrSpec | exact arrTail | exact arrWave | exact arrPair | exact arrRound) HM ?_); clear HM; intro g3 u3 HM) | (have hq : Hid (Mem _ [_, _, _] _) := HM; clear hq; (first | refine wl_box rfl _ _ rfl rfl HM ?_ | refine wl_alloc rfl _ rfl (by first | exact arrPcm | exact arrSpec | exact arrTail | exact arrWave | exact arrPair | exact arrRound) HM ?_); clear HM; intro g4 u4 HM) | (have hq : Hid (Mem _ [_, _, _, _] _) := HM; clear hq; (first | refine wl_box rfl _ _ rfl rfl HM ?_ | refine wl_alloc rfl _ rfl (by first | exact arrPcm | exact arrSpec | exact arrTail | exact arrWave | exact arrPair | exact arrRound) HM ?_); clear HM; intro g5 u5 HM) | (have hq : Hid (Mem _ [_, _, _, _, _] _) := HM; clear hq; (first | refine wl_box rfl _ _ rfl rfl HM ?_ | refine wl_alloc rfl _ rfl (by first | exact arrPcm | exact arrSpec | exact arrTail | exact arrWave | exact arrPair | exact arrRound) HM ?_); clear HM; intro g6 u6 HM) | (have hq : Hid (Mem _ [_, _, _, _, _, _] _) := HM; clear hq; (first | refine wl_box rfl _ _ rfl rfl HM ?_ | refine wl_alloc rfl _ rfl (by first | exact arrPcm | exact arrSpec | exact arrTail | exact arrWave | exact arrPair | exact arrRound) HM ?_); clear HM; intro g7 u7 HM) | (have hq : Hid (Mem _ [_, _, _, _, _, _, _] _) := HM; clear hq; (first | refine wl_box rfl _ _ rfl rfl HM ?_ | refine wl_alloc rfl _ rfl (by first | exact arrPcm | exact arrSpec | exact arrTail | exact arrWave | exact arrPair | exact arrRound) HM ?_); clear HM; intro g8 u8 HM) | (have hq : Hid (Mem _ [_, _, _, _, _, _, _, _] _) := HM; clear hq; (first | refine wl_box rfl _ _ rfl rfl HM ?_ | refine wl_alloc rfl _ rfl (by first | exact arrPcm | exact arrSpec | exact arrTail | exact arrWave | exact arrPair | exact arrRound) HM ?_); clear HM; intro g9 u9 HM)) | (refine wl_load rfl _ _ rfl rfl (by first | exact arrPcm | exact arrSpec | exact arrTail | exact arrWave | exact arrPair | exact arrRound) HM (by first | exact .head _ | exact .tail _ (.head _) | exact .tail _ (.tail _ (.head _)) | exact .tail _ (.tail _ (.tail _ (.head _))) | exact .tail _ (.tail _ (.tail _ (.tail _ (.head _)))) | exact .tail _ (.tail _ (.tail _ (.tail _ (.tail _ (.head _))))) | exact .tail _ (.tail _ (.tail _ (.tail _ (.tail _ (.tail _ (.head _)))))) | exact .tail _ (.tail _ (.tail _ (.tail _ (.tail _ (.tail _ (.tail _ (.head _)))))))) (by first | assumption | exact Lib.hid (zr_length _) | exact Lib.hid (tab_length _ _)) ?_) | (first | (refine wl_store rfl _ _ _ rfl rfl rfl (by first | exact arrPcm | exact arrSpec | exact arrTail | exact arrWave | exact arrPair | exact arrRound) HM 0 rfl (by first | assumption | exact Lib.hid (zr_length _) | exact Lib.hid (tab_length _ _)) (by first | assumption | exact Lib.hid (zr_length _) | exact Lib.hid (tab_length _ _)) ?_; clear HM; intro us HM; simp only [List.set_cons_zero] at HM) | (refine wl_store rfl _ _ _ rfl rfl rfl (by first | exact arrPcm | exact arrSpec | exact arrTail | exact arrWave | exact arrPair | exact arrRound) HM 1 rfl (by first | assumption | exact Lib.hid (zr_length _) | exact Lib.hid (tab_length _ _)) (by first | assumption | exact Lib.hid (zr_length _) | exact Lib.hid (tab_length _ _)) ?_; clear HM; intro us HM; simp only [List.set_cons_zero, List.set_cons_succ] at HM) | (refine wl_store rfl _ _ _ rfl rfl rfl (by first | exact arrPcm | exact arrSpec | exact arrTail | exact arrWave | exact arrPair | exact arrRound) HM 2 rfl (by first | assumption | exact Lib.hid (zr_length _) | exact Lib.hid (tab_length _ _)) (by first | assumption | exact Lib.hid (zr_length _) | exact Lib.hid (tab_length _ _)) ?_; clear HM; intro us HM; simp only [List.set_cons_zero, List.set_cons_succ] at HM) | (refine wl_store rfl _ _ _ rfl rfl rfl (by first | exact arrPcm | exact arrSpec | exact arrTail | exact arrWave | exact arrPair | exact arrRound) HM 3 rfl (by first | assumption | exact Lib.hid (zr_length _) | exact Lib.hid (tab_length _ _)) (by first | assumption | exact Lib.hid (zr_length _) | exact Lib.hid (tab_length _ _)) ?_; clear HM; intro us HM; simp only [List.set_cons_zero, List.set_cons_succ] at HM) | (refine wl_store rfl _ _ _ rfl rfl rfl (by first | exact arrPcm | exact arrSpec | exact arrTail | exact arrWave | exact arrPair | exact arrRound) HM 4 rfl (by first | assumption | exact Lib.hid (zr_length _) | exact Lib.hid (tab_length _ _)) (by first | assumption | exact Lib.hid (zr_length _) | exact Lib.hid (tab_length _ _)) ?_; clear HM; intro us HM; simp only [List.set_cons_zero, List.set_cons_succ] at HM) | (refine wl_store rfl _ _ _ rfl rfl rfl (by first | exact arrPcm | exact arrSpec | exact arrTail | exact arrWave | exact arrPair | exact arrRound) HM 5 rfl (by first | assumption | exact Lib.hid (zr_length _) | exact Lib.hid (tab_length _ _)) (by first | assumption | exact Lib.hid (zr_length _) | exact Lib.hid (tab_length _ _)) ?_; clear HM; intro us HM; simp only [List.set_cons_zero, List.set_cons_succ] at HM) | (refine wl_store rfl _ _ _ rfl rfl rfl (by first | exact arrPcm | exact arrSpec | exact arrTail | exact arrWave | exact arrPair | exact arrRound) HM 6 rfl (by first | assumption | exact Lib.hid (zr_length _) | exact Lib.hid (tab_length _ _)) (by first | assumption | exact Lib.hid (zr_length _) | exact Lib.hid (tab_length _ _)) ?_; clear HM; intro us HM; simp only [List.set_cons_zero, List.set_cons_succ] at HM) | (refine wl_store rfl _ _ _ rfl rfl rfl (by first | exact arrPcm | exact arrSpec | exact arrTail | exact arrWave | exact arrPair | exact arrRound) HM 7 rfl (by first | assumption | exact Lib.hid (zr_length _) | exact Lib.hid (tab_length _ _)) (by first | assumption | exact Lib.hid (zr_length _) | exact Lib.hid (tab_length _ _)) ?_; clear HM; intro us HM; simp only [List.set_cons_zero, List.set_cons_succ] at HM)) | (refine wl_zero rfl _ rfl (by first | exact arrPcm | exact arrSpec | exact arrTail | exact arrWave | exact arrPair | exact arrRound) (by kernel_rfl) ?_))
  go_loopw [9] (fun vi wr => ∃ k : Nat, k ≤ 16 ∧ vi = .int .i64 (k : Int) ∧ Hid (Mem w [(g3, 34, tab 32 (mxN x k)), (g2, 34, zr 32), (g1, 25, x)] wr)) (fun vi _ => 16 - (intOf vi).toNat)
  case atStart => exact ⟨0, by omega, rfl, Lib.hid (by rw [show tab 32 (mxN x 0) = zr 32 from tab_zero 32]; exact HM.out)⟩
  case round =>
    clear HM
    obtain ⟨k, hk, rfl, HM⟩ := hrel
    by_cases hlt : k < 16
    · have hix := run_index 25 (n := 16) (by kernel_rfl) x LX.out k hlt
      obtain ⟨z, hz⟩ : ∃ z, x.getD k 0 = z := ⟨_, rfl⟩
      rw [hz] at hix
      have HZ := Lib.hid hz
      clear hz
      have HK := Lib.hid (fun u => kernels_any k (k : Int) u hlt rfl)
      have k16 : (k : Int) < 16 := by omega
      go_wp2_with fail
      refine (HK.out _).mono ?_
      rintro e w2 ⟨r, rfl, hr, hB, h1⟩
      have HM2 := Lib.hid (HM.out.add h1 hr hB)
      rw [← part2_none 32 (mxN x (k + 1)) (mxN x k)] at HM2
      clear hr hB h1 HM HK hix
      have HK16 := Lib.hid k16
      clear k16
      go_wp2_with fail
      go_loopw [16] (fun vi wr => ∃ j : Nat, j ≤ 32 ∧ vi = .int .i64 (j : Int) ∧ Hid (Mem w [(r, 3, rowP k), (g3, 34, tab 32 (part2 j (mxN x (k + 1)) (mxN x k))), (g2, 34, zr 32), (g1, 25, x)] wr)) (fun vi _ => 32 - (intOf vi).toNat)
      case atStart => exact ⟨0, by omega, rfl, HM2⟩
      case round =>
        clear HM2
        obtain ⟨j, hj, rfl, HM⟩ := hrel
        by_cases hlj : j < 32
        · have c1 := HM.out.cell (.head _) (k := j) (by rw [rowP, tab_length]; omega)
          have c2 := HM.out.cell (.tail _ (.head _)) (k := j) (by rw [tab_length]; omega)
          have f2 := HM.out.free (.tail _ (.head _)) j
          rw [rowP, tab_getD _ hlj] at c1
          rw [tab_getD _ hlj] at c2
          have t1 := mix_term HX.out j k
          have t2 := mix_sum HX.out j k (by omega)
          have t3 := mix_sum HX.out j (k + 1) (by omega)
          rw [sumN_succ] at t3
          have HS := Lib.hid (part2_set (n := 32) (k := j) (mxN x (k + 1)) (mxN x k))
          have HT := Lib.hid (show mxN x (k + 1) j = mxN x k j + x.getD k 0 * kerP j k from sumN_succ _ _)
          rw [show part2 j (mxN x (k + 1)) (mxN x k) j = mxN x k j by unfold part2; rw [if_neg (by omega)]] at c2
          change -18014488704000000 ≤ mxN x k j ∧ mxN x k j ≤ 18014488704000000 at t2
          change -18014488704000000 ≤ mxN x k j + x.getD k 0 * kerP j k ∧ mxN x k j + x.getD k 0 * kerP j k ≤ 18014488704000000 at t3
          rw [HT.out] at HS
          rw [HZ.out] at HS t1 t3
          clear HT
          generalize mxN x k j = S at t2 t3 HS c2
          generalize kerP j k = y at c1 t1 t3 HS
          have e1 : IntKind.i64.wrap (z * y) = z * y := i64_w (by omega) (by omega)
          have e2 : IntKind.i64.wrap (S + z * y) = S + z * y := i64_w (by omega) (by omega)
          have j32 : (j : Int) < 32 := by omega
          clear t1 t2 t3
          go_wp2
          have HM3 := Lib.hid (HM.out.put 1 rfl j (S + z * y))
          simp only [List.set_cons_succ, List.set_cons_zero] at HM3
          rw [HS.out] at HM3
          clear HM c1 c2 f2 e1 e2
          go_roundw
          case rel => exact ⟨j + 1, by omega, by go_num, HM3⟩
          case measure => simp [intOf]; omega
        · obtain rfl : j = 32 := by omega
          rw [part2_all] at HM
          have HM3 := Lib.hid HM.out.tail
          clear HM
          go_wp2
          go_roundw
          case rel => exact ⟨k + 1, by omega, by go_num, HM3⟩
          case measure => simp [intOf]; omega
    · obtain rfl : k = 16 := by omega
      have HL2 := Lib.hid (tab_length 32 (mxN x 16))
      go_wp2_with (first | (first | (have hq : Hid (Mem _ [] _) := HM; clear hq; (first | refine wl_box rfl _ _ rfl rfl HM ?_ | refine wl_alloc rfl _ rfl (by first | exact arrPcm | exact arrSpec | exact arrTail | exact arrWave | exact arrPair | exact arrRound) HM ?_); clear HM; intro g1 u1 HM) | (have hq : Hid (Mem _ [_] _) := HM; clear hq; (first | refine wl_box rfl _ _ rfl rfl HM ?_ | refine wl_alloc rfl _ rfl (by first | exact arrPcm | exact arrSpec | exact arrTail | exact arrWave | exact arrPair | exact arrRound) HM ?_); clear HM; intro g2 u2 HM) | (have hq : Hid (Mem _ [_, _] _) := HM; clear hq; (first | refine wl_box rfl _ _ rfl rfl HM ?_ | refine wl_alloc rfl _ rfl (by first | exact arrPcm | exact arrSpec | exact arrTail | exact arrWave | exact arrPair | exact arrRound) HM ?_); clear HM; intro g3 u3 HM) | (have hq : Hid (Mem _ [_, _, _] _) := HM; clear hq; (first | refine wl_box rfl _ _ rfl rfl HM ?_ | refine wl_alloc rfl _ rfl (by first | exact arrPcm | exact arrSpec | exact arrTail | exact arrWave | exact arrPair | exact arrRound) HM ?_); clear HM; intro g4 u4 HM) | (have hq : Hid (Mem _ [_, _, _, _] _) := HM; clear hq; (first | refine wl_box rfl _ _ rfl rfl HM ?_ | refine wl_alloc rfl _ rfl (by first | exact arrPcm | exact arrSpec | exact arrTail | exact arrWave | exact arrPair | exact arrRound) HM ?_); clear HM; intro g5 u5 HM) | (have hq : Hid (Mem _ [_, _, _, _, _] _) := HM; clear hq; (first | refine wl_box rfl _ _ rfl rfl HM ?_ | refine wl_alloc rfl _ rfl (by first | exact arrPcm | exact arrSpec | exact arrTail | exact arrWave | exact arrPair | exact arrRound) HM ?_); clear HM; intro g6 u6 HM) | (have hq : Hid (Mem _ [_, _, _, _, _, _] _) := HM; clear hq; (first | refine wl_box rfl _ _ rfl rfl HM ?_ | refine wl_alloc rfl _ rfl (by first | exact arrPcm | exact arrSpec | exact arrTail | exact arrWave | exact arrPair | exact arrRound) HM ?_); clear HM; intro g7 u7 HM) | (have hq : Hid (Mem _ [_, _, _, _, _, _, _] _) := HM; clear hq; (first | refine wl_box rfl _ _ rfl rfl HM ?_ | refine wl_alloc rfl _ rfl (by first | exact arrPcm | exact arrSpec | exact arrTail | exact arrWave | exact arrPair | exact arrRound) HM ?_); clear HM; intro g8 u8 HM) | (have hq : Hid (Mem _ [_, _, _, _, _, _, _, _] _) := HM; clear hq; (first | refine wl_box rfl _ _ rfl rfl HM ?_ | refine wl_alloc rfl _ rfl (by first | exact arrPcm | exact arrSpec | exact arrTail | exact arrWave | exact arrPair | exact arrRound) HM ?_); clear HM; intro g9 u9 HM)) | (refine wl_load rfl _ _ rfl rfl (by first | exact arrPcm | exact arrSpec | exact arrTail | exact arrWave | exact arrPair | exact arrRound) HM (by first | exact .head _ | exact .tail _ (.head _) | exact .tail _ (.tail _ (.head _)) | exact .tail _ (.tail _ (.tail _ (.head _))) | exact .tail _ (.tail _ (.tail _ (.tail _ (.head _)))) | exact .tail _ (.tail _ (.tail _ (.tail _ (.tail _ (.head _))))) | exact .tail _ (.tail _ (.tail _ (.tail _ (.tail _ (.tail _ (.head _)))))) | exact .tail _ (.tail _ (.tail _ (.tail _ (.tail _ (.tail _ (.tail _ (.head _)))))))) (by first | assumption | exact Lib.hid (zr_length _) | exact Lib.hid (tab_length _ _)) ?_) | (first | (refine wl_store rfl _ _ _ rfl rfl rfl (by first | exact arrPcm | exact arrSpec | exact arrTail | exact arrWave | exact arrPair | exact arrRound) HM 0 rfl (by first | assumption | exact Lib.hid (zr_length _) | exact Lib.hid (tab_length _ _)) (by first | assumption | exact Lib.hid (zr_length _) | exact Lib.hid (tab_length _ _)) ?_; clear HM; intro us HM; simp only [List.set_cons_zero] at HM) | (refine wl_store rfl _ _ _ rfl rfl rfl (by first | exact arrPcm | exact arrSpec | exact arrTail | exact arrWave | exact arrPair | exact arrRound) HM 1 rfl (by first | assumption | exact Lib.hid (zr_length _) | exact Lib.hid (tab_length _ _)) (by first | assumption | exact Lib.hid (zr_length _) | exact Lib.hid (tab_length _ _)) ?_; clear HM; intro us HM; simp only [List.set_cons_zero, List.set_cons_succ] at HM) | (refine wl_store rfl _ _ _ rfl rfl rfl (by first | exact arrPcm | exact arrSpec | exact arrTail | exact arrWave | exact arrPair | exact arrRound) HM 2 rfl (by first | assumption | exact Lib.hid (zr_length _) | exact Lib.hid (tab_length _ _)) (by first | assumption | exact Lib.hid (zr_length _) | exact Lib.hid (tab_length _ _)) ?_; clear HM; intro us HM; simp only [List.set_cons_zero, List.set_cons_succ] at HM) | (refine wl_store rfl _ _ _ rfl rfl rfl (by first | exact arrPcm | exact arrSpec | exact arrTail | exact arrWave | exact arrPair | exact arrRound) HM 3 rfl (by first | assumption | exact Lib.hid (zr_length _) | exact Lib.hid (tab_length _ _)) (by first | assumption | exact Lib.hid (zr_length _) | exact Lib.hid (tab_length _ _)) ?_; clear HM; intro us HM; simp only [List.set_cons_zero, List.set_cons_succ] at HM) | (refine wl_store rfl _ _ _ rfl rfl rfl (by first | exact arrPcm | exact arrSpec | exact arrTail | exact arrWave | exact arrPair | exact arrRound) HM 4 rfl (by first | assumption | exact Lib.hid (zr_length _) | exact Lib.hid (tab_length _ _)) (by first | assumption | exact Lib.hid (zr_length _) | exact Lib.hid (tab_length _ _)) ?_; clear HM; intro us HM; simp only [List.set_cons_zero, List.set_cons_succ] at HM) | (refine wl_store rfl _ _ _ rfl rfl rfl (by first | exact arrPcm | exact arrSpec | exact arrTail | exact arrWave | exact arrPair | exact arrRound) HM 5 rfl (by first | assumption | exact Lib.hid (zr_length _) | exact Lib.hid (tab_length _ _)) (by first | assumption | exact Lib.hid (zr_length _) | exact Lib.hid (tab_length _ _)) ?_; clear HM; intro us HM; simp only [List.set_cons_zero, List.set_cons_succ] at HM) | (refine wl_store rfl _ _ _ rfl rfl rfl (by first | exact arrPcm | exact arrSpec | exact arrTail | exact arrWave | exact arrPair | exact arrRound) HM 6 rfl (by first | assumption | exact Lib.hid (zr_length _) | exact Lib.hid (tab_length _ _)) (by first | assumption | exact Lib.hid (zr_length _) | exact Lib.hid (tab_length _ _)) ?_; clear HM; intro us HM; simp only [List.set_cons_zero, List.set_cons_succ] at HM) | (refine wl_store rfl _ _ _ rfl rfl rfl (by first | exact arrPcm | exact arrSpec | exact arrTail | exact arrWave | exact arrPair | exact arrRound) HM 7 rfl (by first | assumption | exact Lib.hid (zr_length _) | exact Lib.hid (tab_length _ _)) (by first | assumption | exact Lib.hid (zr_length _) | exact Lib.hid (tab_length _ _)) ?_; clear HM; intro us HM; simp only [List.set_cons_zero, List.set_cons_succ] at HM)) | (refine wl_zero rfl _ rfl (by first | exact arrPcm | exact arrSpec | exact arrTail | exact arrWave | exact arrPair | exact arrRound) (by kernel_rfl) ?_))
      refine bodyPost_ret (v := .agg (icells (tab 32 (mixN x)))) (res_one rfl _ rfl arrWave HM (.tail _ (.head _)) HL2) rfl ⟨rfl, HM.out.1⟩
end Go.Proofs.Ytclcahaflngjhaa.Lp
