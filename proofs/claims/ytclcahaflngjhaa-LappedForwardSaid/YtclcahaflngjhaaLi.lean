/-
  Own texts, laid together: Li.
-/
import Derived.Test.YtclcahaflngjhaaLh
/- Li -/
namespace Go.Proofs.Ytclcahaflngjhaa.Lp
open Go.RowKit Go.Proofs.Ytclcahaflngjhaa.Fx Go.Proofs.Ytclcahaflngjhaa.Fq Go.Proofs.Ytclcahaflngjhaa.Tb
theorem rwithin_any (v B : Int) (b : Bool) (w : World) (hb : decide (-B ≤ v ∧ v ≤ B) = b) (h1 : 0 ≤ B := by omega) (h2 : B ≤ 1099511627776 := by omega) :
    Calls Try.prog 38 #[.int .i64 v, .int .i64 B] w fun e w' => e = .returned (.bool b) ∧ w = w' := by
  by_cases k1 : -B ≤ v
  · by_cases k2 : v ≤ B
    · obtain rfl : b = true := by rw [← hb]; exact decide_eq_true ⟨k1, k2⟩
      clear hb
      go_enter Try.func38, Try.ntmps38
      go_wp2
      go_ret
      exact ⟨rfl, rfl⟩
    · obtain rfl : b = false := by rw [← hb]; exact decide_eq_false (fun h => k2 h.2)
      clear hb
      have k3 : B < v := by omega
      go_enter Try.func38, Try.ntmps38
      go_wp2
      go_ret
      exact ⟨rfl, rfl⟩
  · obtain rfl : b = false := by rw [← hb]; exact decide_eq_false (fun h => k1 h.1)
    clear hb
    have k3 : v < -B := by omega
    go_enter Try.func38, Try.ntmps38
    go_wp2
    go_ret
    exact ⟨rfl, rfl⟩
set_option maxRecDepth 100000 in
set_option maxHeartbeats 4000000 in
theorem mayX_any (x : List Int) (b : Bool) (w : World) (lx : x.length = 16) (hb : okX x = b) :
    Calls Try.prog 23 #[.agg (icells x)] w fun e w' => e = .returned (.bool b) ∧ Below w.heap.size w w' := by
  have LX := Lib.hid lx
  have HI := Lib.hid (inR_iff (lo := -67108864) (hi := 67108864) lx)
  rw [show inR (-67108864) 67108864 x = b from hb] at HI
  have HM := Lib.hid (Mem.start w)
  clear lx hb
  go_enter Try.func23, Try.ntmps23
  go_wp2_with (first | (first | (have hq : Hid (Mem _ [] _) := HM; clear hq; (first | refine wl_box rfl _ _ rfl rfl HM ?_ | refine wl_alloc rfl _ rfl (by first | exact arrPcm | exact arrSpec | exact arrTail | exact arrWave | exact arrPair | exact arrRound) HM ?_); clear HM; intro g1 u1 HM) | (have hq : Hid (Mem _ [_] _) := HM; clear hq; (first | refine wl_box rfl _ _ rfl rfl HM ?_ | refine wl_alloc rfl _ rfl (by first | exact arrPcm | exact arrSpec | exact arrTail | exact arrWave | exact arrPair | exact arrRound) HM ?_); clear HM; intro g2 u2 HM) | (have hq : Hid (Mem _ [_, _] _) := HM; clear hq; (first | refine wl_box rfl _ _ rfl rfl HM ?_ | refine wl_alloc rfl _ rfl (by first | exact arrPcm | exact arrSpec | exact arrTail | exact arrWave | exact arrPair | exact arrRound) HM ?_); clear HM; intro g3 u3 HM) | (have hq : Hid (Mem _ [_, _, _] _) := HM; clear hq; (first | refine wl_box rfl _ _ rfl rfl HM ?_ | refine wl_alloc rfl _ rfl (by first | exact arrPcm | exact arrSpec | exact arrTail | exact arrWave | exact arrPair | exact arrRound) HM ?_); clear HM; intro g4 u4 HM) | (have hq : Hid (Mem _ [_, _, _, _] _) := HM; clear hq; (first | refine wl_box rfl _ _ rfl rfl HM ?_ | refine wl_alloc rfl _ rfl (by first | exact arrPcm | exact arrSpec | exact arrTail | exact arrWave | exact arrPair | exact arrRound) HM ?_); clear HM; intro g5 u5 HM) | (have hq : Hid (Mem _ [_, _, _, _, _] _) := HM; clear hq; (first | refine wl_box rfl _ _ rfl rfl HM ?_ | refine wl_alloc rfl _ rfl (by first | exact arrPcm | exact arrSpec | exact arrTail | exact arrWave | exact arrPair | exact arrRound) HM ?_); clear HM; intro g6 u6 HM) | (have hq : Hid (Mem _ [_, _, _, _, _, _] _) := HM; clear hq; (first | refine wl_box rfl _ _ rfl rfl HM ?_ | refine wl_alloc rfl _ rfl (by first | exact arrPcm | exact arrSpec | exact arrTail | exact arrWave | exact arrPair | exact arrRound) HM ?_); clear HM; intro g7 u7 HM) | (have hq : Hid (Mem _ [_, _, _, _, _, _, _] _) := HM; clear hq; (first | refine wl_box rfl _ _ rfl rfl HM ?_ | refine wl_alloc rfl _ rfl (by first | exact arrPcm | exact arrSpec | exact arrTail | exact arrWave | exact arrPair | exact arrRound) HM ?_); clear HM; intro g8 u8 HM) | (have hq : Hid (Mem _ [_, _, _, _, _, _, _, _] _) := HM; clear hq; (first | refine wl_box rfl _ _ rfl rfl HM ?_ | refine wl_alloc rfl _ rfl (by first | exact arrPcm | exact arrSpec | exact arrTail | exact arrWave | exact arrPair | exact arrRound) HM ?_); clear HM; intro g9 u9 HM)) | (refine wl_load rfl _ _ rfl rfl (by first | exact arrPcm | exact arrSpec | exact arrTail | exact arrWave | exact arrPair | exact arrRound) HM (by first | exact .head _ | exact .tail _ (.head _) | exact .tail _ (.tail _ (.head _)) | exact .tail _ (.tail _ (.tail _ (.head _))) | exact .tail _ (.tail _ (.tail _ (.tail _ (.head _)))) | exact .tail _ (.tail _ (.tail _ (.tail _ (.tail _ (.head _))))) | exact .tail _ (.tail _ (.tail _ (.tail _ (.tail _ (.tail _ (.head _)))))) | exact .tail _ (.tail _ (.tail _ (.tail _ (.tail _ (.tail _ (.tail _ (.head _)))))))) (by first | assumption | exact Lib.hid (zr_length _) | exact Lib.hid (tab_length _ _)) ?_) | (first | (refine wl_store rfl _ _ _ rfl rfl rfl (by first | exact arrPcm | exact arrSpec | exact arrTail | exact arrWave | exact arrPair | exact arrRound) HM 0 rfl (by first | assumption | exact Lib.hid (zr_length _) | exact Lib.hid (tab_length _ _)) (by first | assumption | exact Lib.hid (zr_length _) | exact Lib.hid (tab_length _ _)) ?_; clear HM; intro us HM; simp only [List.set_cons_zero] at HM) | (refine wl_store rfl _ _ _ rfl rfl rfl (by first | exact arrPcm | exact arrSpec | exact arrTail | exact arrWave | exact arrPair | exact arrRound) HM 1 rfl (by first | assumption | exact Lib.hid (zr_length _) | exact Lib.hid (tab_length _ _)) (by first | assumption | exact Lib.hid (zr_length _) | exact Lib.hid (tab_length _ _)) ?_; clear HM; intro us HM; simp only [List.set_cons_zero, List.set_cons_succ] at HM) | (refine wl_store rfl _ _ _ rfl rfl rfl (by first | exact arrPcm | exact arrSpec | exact arrTail | exact arrWave | exact arrPair | exact arrRound) HM 2 rfl (by first | assumption | exact Lib.hid (zr_length _) | exact Lib.hid (tab_length _ _)) (by first | assumption | exact Lib.hid (zr_length _) | exact Lib.hid (tab_length _ _)) ?_; clear HM; intro us HM; simp only [List.set_cons_zero, List.set_cons_succ] at HM) | (refine wl_store rfl _ _ _ rfl rfl rfl (by first | exact arrPcm | exact arrSpec | exact arrTail | exact arrWave | exact arrPair | exact arrRound) HM 3 rfl (by first | assumption | exact Lib.hid (zr_length _) | exact Lib.hid (tab_length _ _)) (by first | assumption | exact Lib.hid (zr_length _) | exact Lib.hid (tab_length _ _)) ?_; clear HM; intro us HM; simp only [List.set_cons_zero, List.set_cons_succ] at HM) | (refine wl_store rfl _ _ _ rfl rfl rfl (by first | exact arrPcm | exact arrSpec | exact arrTail | exact arrWave | exact arrPair | exact arrRound) HM 4 rfl (by first | assumption | exact Lib.hid (zr_length _) | exact Lib.hid (tab_length _ _)) (by first | assumption | exact Lib.hid (zr_length _) | exact Lib.hid (tab_length _ _)) ?_; clear HM; intro us HM; simp only [List.set_cons_zero, List.set_cons_succ] at HM) | (refine wl_store rfl _ _ _ rfl rfl rfl (by first | exact arrPcm | exact arrSpec | exact arrTail | exact arrWave | exact arrPair | exact arrRound) HM 5 rfl (by first | assumption | exact Lib.hid (zr_length _) | exact Lib.hid (tab_length _ _)) (by first | assumption | exact Lib.hid (zr_length _) | exact Lib.hid (tab_length _ _)) ?_; clear HM; intro us HM; simp only [List.set_cons_zero, List.set_cons_succ] at HM) | (refine wl_store rfl _ _ _ rfl rfl rfl (by first | exact arrPcm | exact arrSpec | exact arrTail | exact arrWave | exact arrPair | exact arrRound) HM 6 rfl (by first | assumption | exact Lib.hid (zr_length _) | exact Lib.hid (tab_length _ _)) (by first | assumption | exact Lib.hid (zr_length _) | exact Lib.hid (tab_length _ _)) ?_; clear HM; intro us HM; simp only [List.set_cons_zero, List.set_cons_succ] at HM) | (refine wl_store rfl _ _ _ rfl rfl rfl (by first | exact arrPcm | exact arrSpec | exact arrTail | exact arrWave | exact arrPair | exact arrRound) HM 7 rfl (by first | assumption | exact Lib.hid (zr_length _) | exact Lib.hid (tab_length _ _)) (by first | assumption | exact Lib.hid (zr_length _) | exact Lib.hid (tab_length _ _)) ?_; clear HM; intro us HM; simp only [List.set_cons_zero, List.set_cons_succ] at HM)) | (refine wl_zero rfl _ rfl (by first | exact arrPcm | exact arrSpec | exact arrTail | exact arrWave | exact arrPair | exact arrRound) (by kernel_rfl) ?_))
  go_loop [6] (fun vi => ∃ k : Nat, vi = .int .i64 (k : Int) ∧ k ≤ 16 ∧ Hid (∀ j, j < k → -67108864 ≤ x.getD j 0 ∧ x.getD j 0 ≤ 67108864)) (fun vi => 16 - (intOf vi).toNat)
  case atStart => exact ⟨0, rfl, by omega, Lib.hid (fun j hj => by omega)⟩
  case round =>
    obtain ⟨k, rfl, hk, HK⟩ := hrel
    by_cases hlt : k < 16
    · have hix := run_index 25 (n := 16) (by kernel_rfl) x LX.out k hlt
      obtain ⟨v, hv⟩ : ∃ v, x.getD k 0 = v := ⟨_, rfl⟩
      rw [hv] at hix
      have HX := Lib.hid hv
      have kn : (k : Int) < 16 := by omega
      clear hv
      by_cases h : -67108864 ≤ v ∧ v ≤ 67108864
      · have HW := Lib.hid (fun u => rwithin_any v 67108864 true u (decide_eq_true h))
        go_wp2_with fail
        refine (HW.out _).mono ?_
        rintro e w2 ⟨rfl, rfl⟩
        go_wp2
        go_round
        case rel =>
          refine ⟨k + 1, by go_num, by omega, Lib.hid fun j hj => ?_⟩
          by_cases hjk : j < k
          · exact HK.out j hjk
          · obtain rfl : j = k := by omega
            rw [HX.out]; exact h
        case measure => simp [intOf]; omega
      · have HW := Lib.hid (fun u => rwithin_any v 67108864 false u (decide_eq_false h))
        obtain rfl : b = false := by
          cases b with
          | false => rfl
          | true => have := HI.out.1 rfl k hlt; rw [HX.out] at this; exact absurd this h
        go_wp2_with fail
        refine (HW.out _).mono ?_
        rintro e w2 ⟨rfl, rfl⟩
        go_wp2
        go_ret
        exact ⟨rfl, HM.out.1⟩
    · obtain rfl : k = 16 := by omega
      obtain rfl : b = true := HI.out.2 HK.out
      go_wp2
      go_ret
      exact ⟨rfl, HM.out.1⟩
set_option maxRecDepth 100000 in
set_option maxHeartbeats 4000000 in
theorem mayT_any (x : List Int) (b : Bool) (w : World) (lx : x.length = 16) (hb : okW x = b) :
    Calls Try.prog 22 #[.agg (icells x)] w fun e w' => e = .returned (.bool b) ∧ Below w.heap.size w w' := by
  have LX := Lib.hid lx
  have HI := Lib.hid (inR_iff (lo := -1099511627776) (hi := 1099511627776) lx)
  rw [show inR (-1099511627776) 1099511627776 x = b from hb] at HI
  have HM := Lib.hid (Mem.start w)
  clear lx hb
  go_enter Try.func22, Try.ntmps22
  go_wp2_with (first | (first | (have hq : Hid (Mem _ [] _) := HM; clear hq; (first | refine wl_box rfl _ _ rfl rfl HM ?_ | refine wl_alloc rfl _ rfl (by first | exact arrPcm | exact arrSpec | exact arrTail | exact arrWave | exact arrPair | exact arrRound) HM ?_); clear HM; intro g1 u1 HM) | (have hq : Hid (Mem _ [_] _) := HM; clear hq; (first | refine wl_box rfl _ _ rfl rfl HM ?_ | refine wl_alloc rfl _ rfl (by first | exact arrPcm | exact arrSpec | exact arrTail | exact arrWave | exact arrPair | exact arrRound) HM ?_); clear HM; intro g2 u2 HM) | (have hq : Hid (Mem _ [_, _] _) := HM; clear hq; (first | refine wl_box rfl _ _ rfl rfl HM ?_ | refine wl_alloc rfl _ rfl (by first | exact arrPcm | exact arrSpec | exact arrTail | exact arrWave | exact arrPair | exact arrRound) HM ?_); clear HM; intro g3 u3 HM) | (have hq : Hid (Mem _ [_, _, _] _) := HM; clear hq; (first | refine wl_box rfl _ _ rfl rfl HM ?_ | refine wl_alloc rfl _ rfl (by first | exact arrPcm | exact arrSpec | exact arrTail | exact arrWave | exact arrPair | exact arrRound) HM ?_); clear HM; intro g4 u4 HM) | (have hq : Hid (Mem _ [_, _, _, _] _) := HM; clear hq; (first | refine wl_box rfl _ _ rfl rfl HM ?_ | refine wl_alloc rfl _ rfl (by first | exact arrPcm | exact arrSpec | exact arrTail | exact arrWave | exact arrPair | exact arrRound) HM ?_); clear HM; intro g5 u5 HM) | (have hq : Hid (Mem _ [_, _, _, _, _] _) := HM; clear hq; (first | refine wl_box rfl _ _ rfl rfl HM ?_ | refine wl_alloc rfl _ rfl (by first | exact arrPcm | exact arrSpec | exact arrTail | exact arrWave | exact arrPair | exact arrRound) HM ?_); clear HM; intro g6 u6 HM) | (have hq : Hid (Mem _ [_, _, _, _, _, _] _) := HM; clear hq; (first | refine wl_box rfl _ _ rfl rfl HM ?_ | refine wl_alloc rfl _ rfl (by first | exact arrPcm | exact arrSpec | exact arrTail | exact arrWave | exact arrPair | exact arrRound) HM ?_); clear HM; intro g7 u7 HM) | (have hq : Hid (Mem _ [_, _, _, _, _, _, _] _) := HM; clear hq; (first | refine wl_box rfl _ _ rfl rfl HM ?_ | refine wl_alloc rfl _ rfl (by first | exact arrPcm | exact arrSpec | exact arrTail | exact arrWave | exact arrPair | exact arrRound) HM ?_); clear HM; intro g8 u8 HM) | (have hq : Hid (Mem _ [_, _, _, _, _, _, _, _] _) := HM; clear hq; (first | refine wl_box rfl _ _ rfl rfl HM ?_ | refine wl_alloc rfl _ rfl (by first | exact arrPcm | exact arrSpec | exact arrTail | exact arrWave | exact arrPair | exact arrRound) HM ?_); clear HM; intro g9 u9 HM)) | (refine wl_load rfl _ _ rfl rfl (by first | exact arrPcm | exact arrSpec | exact arrTail | exact arrWave | exact arrPair | exact arrRound) HM (by first | exact .head _ | exact .tail _ (.head _) | exact .tail _ (.tail _ (.head _)) | exact .tail _ (.tail _ (.tail _ (.head _))) | exact .tail _ (.tail _ (.tail _ (.tail _ (.head _)))) | exact .tail _ (.tail _ (.tail _ (.tail _ (.tail _ (.head _))))) | exact .tail _ (.tail _ (.tail _ (.tail _ (.tail _ (.tail _ (.head _)))))) | exact .tail _ (.tail _ (.tail _ (.tail _ (.tail _ (.tail _ (.tail _ (.head _)))))))) (by first | assumption | exact Lib.hid (zr_length _) | exact Lib.hid (tab_length _ _)) ?_) | (first | (refine wl_store rfl _ _ _ rfl rfl rfl (by first | exact arrPcm | exact arrSpec | exact arrTail | exact arrWave | exact arrPair | exact arrRound) HM 0 rfl (by first | assumption | exact Lib.hid (zr_length _) | exact Lib.hid (tab_length _ _)) (by first | assumption | exact Lib.hid (zr_length _) | exact Lib.hid (tab_length _ _)) ?_; clear HM; intro us HM; simp only [List.set_cons_zero] at HM) | (refine wl_store rfl _ _ _ rfl rfl rfl (by first | exact arrPcm | exact arrSpec | exact arrTail | exact arrWave | exact arrPair | exact arrRound) HM 1 rfl (by first | assumption | exact Lib.hid (zr_length _) | exact Lib.hid (tab_length _ _)) (by first | assumption | exact Lib.hid (zr_length _) | exact Lib.hid (tab_length _ _)) ?_; clear HM; intro us HM; simp only [List.set_cons_zero, List.set_cons_succ] at HM) | (refine wl_store rfl _ _ _ rfl rfl rfl (by first | exact arrPcm | exact arrSpec | exact arrTail | exact arrWave | exact arrPair | exact arrRound) HM 2 rfl (by first | assumption | exact Lib.hid (zr_length _) | exact Lib.hid (tab_length _ _)) (by first | assumption | exact Lib.hid (zr_length _) | exact Lib.hid (tab_length _ _)) ?_; clear HM; intro us HM; simp only [List.set_cons_zero, List.set_cons_succ] at HM) | (refine wl_store rfl _ _ _ rfl rfl rfl (by first | exact arrPcm | exact arrSpec | exact arrTail | exact arrWave | exact arrPair | exact arrRound) HM 3 rfl (by first | assumption | exact Lib.hid (zr_length _) | exact Lib.hid (tab_length _ _)) (by first | assumption | exact Lib.hid (zr_length _) | exact Lib.hid (tab_length _ _)) ?_; clear HM; intro us HM; simp only [List.set_cons_zero, List.set_cons_succ] at HM) | (refine wl_store rfl _ _ _ rfl rfl rfl (by first | exact arrPcm | exact arrSpec | exact arrTail | exact arrWave | exact arrPair | exact arrRound) HM 4 rfl (by first | assumption | exact Lib.hid (zr_length _) | exact Lib.hid (tab_length _ _)) (by first | assumption | exact Lib.hid (zr_length _) | exact Lib.hid (tab_length _ _)) ?_; clear HM; intro us HM; simp only [List.set_cons_zero, List.set_cons_succ] at HM) | (refine wl_store rfl _ _ _ rfl rfl rfl (by first | exact arrPcm | exact arrSpec | exact arrTail | exact arrWave | exact arrPair | exact arrRound) HM 5 rfl (by first | assumption | exact Lib.hid (zr_length _) | exact Lib.hid (tab_length _ _)) (by first | assumption | exact Lib.hid (zr_length _) | exact Lib.hid (tab_length _ _)) ?_; clear HM; intro us HM; simp only [List.set_cons_zero, List.set_cons_succ] at HM) | (refine wl_store rfl _ _ _ rfl rfl rfl (by first | exact arrPcm | exact arrSpec | exact arrTail | exact arrWave | exact arrPair | exact arrRound) HM 6 rfl (by first | assumption | exact Lib.hid (zr_length _) | exact Lib.hid (tab_length _ _)) (by first | assumption | exact Lib.hid (zr_length _) | exact Lib.hid (tab_length _ _)) ?_; clear HM; intro us HM; simp only [List.set_cons_zero, List.set_cons_succ] at HM) | (refine wl_store rfl _ _ _ rfl rfl rfl (by first | exact arrPcm | exact arrSpec | exact arrTail | exact arrWave | exact arrPair | exact arrRound) HM 7 rfl (by first | assumption | exact Lib.hid (zr_length _) | exact Lib.hid (tab_length _ _)) (by first | assumption | exact Lib.hid (zr_length _) | exact Lib.hid (tab_length _ _)) ?_; clear HM; intro us HM; simp only [List.set_cons_zero, List.set_cons_succ] at HM)) | (refine wl_zero rfl _ rfl (by first | exact arrPcm | exact arrSpec | exact arrTail | exact arrWave | exact arrPair | exact arrRound) (by kernel_rfl) ?_))
  go_loop [6] (fun vi => ∃ k : Nat, vi = .int .i64 (k : Int) ∧ k ≤ 16 ∧ Hid (∀ j, j < k → -1099511627776 ≤ x.getD j 0 ∧ x.getD j 0 ≤ 1099511627776)) (fun vi => 16 - (intOf vi).toNat)
  case atStart => exact ⟨0, rfl, by omega, Lib.hid (fun j hj => by omega)⟩
  case round =>
    obtain ⟨k, rfl, hk, HK⟩ := hrel
    by_cases hlt : k < 16
    · have hix := run_index 38 (n := 16) (by kernel_rfl) x LX.out k hlt
      obtain ⟨v, hv⟩ : ∃ v, x.getD k 0 = v := ⟨_, rfl⟩
      rw [hv] at hix
      have HX := Lib.hid hv
      have kn : (k : Int) < 16 := by omega
      clear hv
      by_cases h : -1099511627776 ≤ v ∧ v ≤ 1099511627776
      · have HW := Lib.hid (fun u => rwithin_any v 1099511627776 true u (decide_eq_true h))
        go_wp2_with fail
        refine (HW.out _).mono ?_
        rintro e w2 ⟨rfl, rfl⟩
        go_wp2
        go_round
        case rel =>
          refine ⟨k + 1, by go_num, by omega, Lib.hid fun j hj => ?_⟩
          by_cases hjk : j < k
          · exact HK.out j hjk
          · obtain rfl : j = k := by omega
            rw [HX.out]; exact h
        case measure => simp [intOf]; omega
      · have HW := Lib.hid (fun u => rwithin_any v 1099511627776 false u (decide_eq_false h))
        obtain rfl : b = false := by
          cases b with
          | false => rfl
          | true => have := HI.out.1 rfl k hlt; rw [HX.out] at this; exact absurd this h
        go_wp2_with fail
        refine (HW.out _).mono ?_
        rintro e w2 ⟨rfl, rfl⟩
        go_wp2
        go_ret
        exact ⟨rfl, HM.out.1⟩
    · obtain rfl : k = 16 := by omega
      obtain rfl : b = true := HI.out.2 HK.out
      go_wp2
      go_ret
      exact ⟨rfl, HM.out.1⟩
set_option maxRecDepth 100000 in
set_option maxHeartbeats 4000000 in
theorem mayW_any (x : List Int) (b : Bool) (w : World) (lx : x.length = 32) (hb : okW x = b) :
    Calls Try.prog 36 #[.agg (icells x)] w fun e w' => e = .returned (.bool b) ∧ Below w.heap.size w w' := by
  have LX := Lib.hid lx
  have HI := Lib.hid (inR_iff (lo := -1099511627776) (hi := 1099511627776) lx)
  rw [show inR (-1099511627776) 1099511627776 x = b from hb] at HI
  have HM := Lib.hid (Mem.start w)
  clear lx hb
  go_enter Try.func36, Try.ntmps36
  go_wp2_with (first | (first | (have hq : Hid (Mem _ [] _) := HM; clear hq; (first | refine wl_box rfl _ _ rfl rfl HM ?_ | refine wl_alloc rfl _ rfl (by first | exact arrPcm | exact arrSpec | exact arrTail | exact arrWave | exact arrPair | exact arrRound) HM ?_); clear HM; intro g1 u1 HM) | (have hq : Hid (Mem _ [_] _) := HM; clear hq; (first | refine wl_box rfl _ _ rfl rfl HM ?_ | refine wl_alloc rfl _ rfl (by first | exact arrPcm | exact arrSpec | exact arrTail | exact arrWave | exact arrPair | exact arrRound) HM ?_); clear HM; intro g2 u2 HM) | (have hq : Hid (Mem _ [_, _] _) := HM; clear hq; (first | refine wl_box rfl _ _ rfl rfl HM ?_ | refine wl_alloc rfl _ rfl (by first | exact arrPcm | exact arrSpec | exact arrTail | exact arrWave | exact arrPair | exact arrRound) HM ?_); clear HM; intro g3 u3 HM) | (have hq : Hid (Mem _ [_, _, _] _) := HM; clear hq; (first | refine wl_box rfl _ _ rfl rfl HM ?_ | refine wl_alloc rfl _ rfl (by first | exact arrPcm | exact arrSpec | exact arrTail | exact arrWave | exact arrPair | exact arrRound) HM ?_); clear HM; intro g4 u4 HM) | (have hq : Hid (Mem _ [_, _, _, _] _) := HM; clear hq; (first | refine wl_box rfl _ _ rfl rfl HM ?_ | refine wl_alloc rfl _ rfl (by first | exact arrPcm | exact arrSpec | exact arrTail | exact arrWave | exact arrPair | exact arrRound) HM ?_); clear HM; intro g5 u5 HM) | (have hq : Hid (Mem _ [_, _, _, _, _] _) := HM; clear hq; (first | refine wl_box rfl _ _ rfl rfl HM ?_ | refine wl_alloc rfl _ rfl (by first | exact arrPcm | exact arrSpec | exact arrTail | exact arrWave | exact arrPair | exact arrRound) HM ?_); clear HM; intro g6 u6 HM) | (have hq : Hid (Mem _ [_, _, _, _, _, _] _) := HM; clear hq; (first | refine wl_box rfl _ _ rfl rfl HM ?_ | refine wl_alloc rfl _ rfl (by first | exact arrPcm | exact arrSpec | exact arrTail | exact arrWave | exact arrPair | exact arrRound) HM ?_); clear HM; intro g7 u7 HM) | (have hq : Hid (Mem _ [_, _, _, _, _, _, _] _) := HM; clear hq; (first | refine wl_box rfl _ _ rfl rfl HM ?_ | refine wl_alloc rfl _ rfl (by first | exact arrPcm | exact arrSpec | exact arrTail | exact arrWave | exact arrPair | exact arrRound) HM ?_); clear HM; intro g8 u8 HM) | (have hq : Hid (Mem _ [_, _, _, _, _, _, _, _] _) := HM; clear hq; (first | refine wl_box rfl _ _ rfl rfl HM ?_ | refine wl_alloc rfl _ rfl (by first | exact arrPcm | exact arrSpec | exact arrTail | exact arrWave | exact arrPair | exact arrRound) HM ?_); clear HM; intro g9 u9 HM)) | (refine wl_load rfl _ _ rfl rfl (by first | exact arrPcm | exact arrSpec | exact arrTail | exact arrWave | exact arrPair | exact arrRound) HM (by first | exact .head _ | exact .tail _ (.head _) | exact .tail _ (.tail _ (.head _)) | exact .tail _ (.tail _ (.tail _ (.head _))) | exact .tail _ (.tail _ (.tail _ (.tail _ (.head _)))) | exact .tail _ (.tail _ (.tail _ (.tail _ (.tail _ (.head _))))) | exact .tail _ (.tail _ (.tail _ (.tail _ (.tail _ (.tail _ (.head _)))))) | exact .tail _ (.tail _ (.tail _ (.tail _ (.tail _ (.tail _ (.tail _ (.head _)))))))) (by first | assumption | exact Lib.hid (zr_length _) | exact Lib.hid (tab_length _ _)) ?_) | (first | (refine wl_store rfl _ _ _ rfl rfl rfl (by first | exact arrPcm | exact arrSpec | exact arrTail | exact arrWave | exact arrPair | exact arrRound) HM 0 rfl (by first | assumption | exact Lib.hid (zr_length _) | exact Lib.hid (tab_length _ _)) (by first | assumption | exact Lib.hid (zr_length _) | exact Lib.hid (tab_length _ _)) ?_; clear HM; intro us HM; simp only [List.set_cons_zero] at HM) | (refine wl_store rfl _ _ _ rfl rfl rfl (by first | exact arrPcm | exact arrSpec | exact arrTail | exact arrWave | exact arrPair | exact arrRound) HM 1 rfl (by first | assumption | exact Lib.hid (zr_length _) | exact Lib.hid (tab_length _ _)) (by first | assumption | exact Lib.hid (zr_length _) | exact Lib.hid (tab_length _ _)) ?_; clear HM; intro us HM; simp only [List.set_cons_zero, List.set_cons_succ] at HM) | (refine wl_store rfl _ _ _ rfl rfl rfl (by first | exact arrPcm | exact arrSpec | exact arrTail | exact arrWave | exact arrPair | exact arrRound) HM 2 rfl (by first | assumption | exact Lib.hid (zr_length _) | exact Lib.hid (tab_length _ _)) (by first | assumption | exact Lib.hid (zr_length _) | exact Lib.hid (tab_length _ _)) ?_; clear HM; intro us HM; simp only [List.set_cons_zero, List.set_cons_succ] at HM) | (refine wl_store rfl _ _ _ rfl rfl rfl (by first | exact arrPcm | exact arrSpec | exact arrTail | exact arrWave | exact arrPair | exact arrRound) HM 3 rfl (by first | assumption | exact Lib.hid (zr_length _) | exact Lib.hid (tab_length _ _)) (by first | assumption | exact Lib.hid (zr_length _) | exact Lib.hid (tab_length _ _)) ?_; clear HM; intro us HM; simp only [List.set_cons_zero, List.set_cons_succ] at HM) | (refine wl_store rfl _ _ _ rfl rfl rfl (by first | exact arrPcm | exact arrSpec | exact arrTail | exact arrWave | exact arrPair | exact arrRound) HM 4 rfl (by first | assumption | exact Lib.hid (zr_length _) | exact Lib.hid (tab_length _ _)) (by first | assumption | exact Lib.hid (zr_length _) | exact Lib.hid (tab_length _ _)) ?_; clear HM; intro us HM; simp only [List.set_cons_zero, List.set_cons_succ] at HM) | (refine wl_store rfl _ _ _ rfl rfl rfl (by first | exact arrPcm | exact arrSpec | exact arrTail | exact arrWave | exact arrPair | exact arrRound) HM 5 rfl (by first | assumption | exact Lib.hid (zr_length _) | exact Lib.hid (tab_length _ _)) (by first | assumption | exact Lib.hid (zr_length _) | exact Lib.hid (tab_length _ _)) ?_; clear HM; intro us HM; simp only [List.set_cons_zero, List.set_cons_succ] at HM) | (refine wl_store rfl _ _ _ rfl rfl rfl (by first | exact arrPcm | exact arrSpec | exact arrTail | exact arrWave | exact arrPair | exact arrRound) HM 6 rfl (by first | assumption | exact Lib.hid (zr_length _) | exact Lib.hid (tab_length _ _)) (by first | assumption | exact Lib.hid (zr_length _) | exact Lib.hid (tab_length _ _)) ?_; clear HM; intro us HM; simp only [List.set_cons_zero, List.set_cons_succ] at HM) | (refine wl_store rfl _ _ _ rfl rfl rfl (by first | exact arrPcm | exact arrSpec | exact arrTail | exact arrWave | exact arrPair | exact arrRound) HM 7 rfl (by first | assumption | exact Lib.hid (zr_length _) | exact Lib.hid (tab_length _ _)) (by first | assumption | exact Lib.hid (zr_length _) | exact Lib.hid (tab_length _ _)) ?_; clear HM; intro us HM; simp only [List.set_cons_zero, List.set_cons_succ] at HM)) | (refine wl_zero rfl _ rfl (by first | exact arrPcm | exact arrSpec | exact arrTail | exact arrWave | exact arrPair | exact arrRound) (by kernel_rfl) ?_))
  go_loop [6] (fun vi => ∃ k : Nat, vi = .int .i64 (k : Int) ∧ k ≤ 32 ∧ Hid (∀ j, j < k → -1099511627776 ≤ x.getD j 0 ∧ x.getD j 0 ≤ 1099511627776)) (fun vi => 32 - (intOf vi).toNat)
  case atStart => exact ⟨0, rfl, by omega, Lib.hid (fun j hj => by omega)⟩
  case round =>
    obtain ⟨k, rfl, hk, HK⟩ := hrel
    by_cases hlt : k < 32
    · have hix := run_index 34 (n := 32) (by kernel_rfl) x LX.out k hlt
      obtain ⟨v, hv⟩ : ∃ v, x.getD k 0 = v := ⟨_, rfl⟩
      rw [hv] at hix
      have HX := Lib.hid hv
      have kn : (k : Int) < 32 := by omega
      clear hv
      by_cases h : -1099511627776 ≤ v ∧ v ≤ 1099511627776
      · have HW := Lib.hid (fun u => rwithin_any v 1099511627776 true u (decide_eq_true h))
        go_wp2_with fail
        refine (HW.out _).mono ?_
        rintro e w2 ⟨rfl, rfl⟩
        go_wp2
        go_round
        case rel =>
          refine ⟨k + 1, by go_num, by omega, Lib.hid fun j hj => ?_⟩
          by_cases hjk : j < k
          · exact HK.out j hjk
          · obtain rfl : j = k := by omega
            rw [HX.out]; exact h
        case measure => simp [intOf]; omega
      · have HW := Lib.hid (fun u => rwithin_any v 1099511627776 false u (decide_eq_false h))
        obtain rfl : b = false := by
          cases b with
          | false => rfl
          | true => have := HI.out.1 rfl k hlt; rw [HX.out] at this; exact absurd this h
        go_wp2_with fail
        refine (HW.out _).mono ?_
        rintro e w2 ⟨rfl, rfl⟩
        go_wp2
        go_ret
        exact ⟨rfl, HM.out.1⟩
    · obtain rfl : k = 32 := by omega
      obtain rfl : b = true := HI.out.2 HK.out
      go_wp2
      go_ret
      exact ⟨rfl, HM.out.1⟩
set_option maxRecDepth 100000 in
set_option maxHeartbeats 4000000 in
theorem rcheck_any (x : List Int) (b : Bool) (z : Int) (w : World) (lx : x.length = 16) (hb : okP x = b) (hz : z = if b = true then 0 else 1) :
    Calls Try.prog 12 #[.agg (icells x)] w fun e w' => e = .returned (.int .i64 z) ∧ Below w.heap.size w w' := by
  have LX := Lib.hid lx
  have HI := Lib.hid (inR_iff (lo := -32768) (hi := 32767) lx)
  rw [show inR (-32768) 32767 x = b from hb] at HI
  have HM := Lib.hid (Mem.start w)
  have HZ := Lib.hid hz
  clear lx hb hz
  go_enter Try.func12, Try.ntmps12
  go_wp2_with (first | (first | (have hq : Hid (Mem _ [] _) := HM; clear hq; (first | refine wl_box rfl _ _ rfl rfl HM ?_ | refine wl_alloc rfl _ rfl (by first | exact arrPcm | exact arrSpec | exact arrTail | exact arrWave | exact arrPair | exact arrRound) HM ?_); clear HM; intro g1 u1 HM) | (have hq : Hid (Mem _ [_] _) := HM; clear hq; (first | refine wl_box rfl _ _ rfl rfl HM ?_ | refine wl_alloc rfl _ rfl (by first | exact arrPcm | exact arrSpec | exact arrTail | exact arrWave | exact arrPair | exact arrRound) HM ?_); clear HM; intro g2 u2 HM) | (have hq : Hid (Mem _ [_, _] _) := HM; clear hq; (first | refine wl_box rfl _ _ rfl rfl HM ?_ | refine wl_alloc rfl _ rfl (by first | exact arrPcm | exact arrSpec | exact arrTail | exact arrWave | exact arrPair | exact arrRound) HM ?_); clear HM; intro g3 u3 HM) | (have hq : Hid (Mem _ [_, _, _] _) := HM; clear hq; (first | refine wl_box rfl _ _ rfl rfl HM ?_ | refine wl_alloc rfl _ rfl (by first | exact arrPcm | exact arrSpec | exact arrTail | exact arrWave | exact arrPair | exact arrRound) HM ?_); clear HM; intro g4 u4 HM) | (have hq : Hid (Mem _ [_, _, _, _] _) := HM; clear hq; (first | refine wl_box rfl _ _ rfl rfl HM ?_ | refine wl_alloc rfl _ rfl (by first | exact arrPcm | exact arrSpec | exact arrTail | exact arrWave | exact arrPair | exact arrRound) HM ?_); clear HM; intro g5 u5 HM) | (have hq : Hid (Mem _ [_, _, _, _, _] _) := HM; clear hq; (first | refine wl_box rfl _ _ rfl rfl HM ?_ | refine wl_alloc rfl _ rfl (by first | exact arrPcm | exact arrSpec | exact arrTail | exact arrWave | exact arrPair | exact arrRound) HM ?_); clear HM; intro g6 u6 HM) | (have hq : Hid (Mem _ [_, _, _, _, _, _] _) := HM; clear hq; (first | refine wl_box rfl _ _ rfl rfl HM ?_ | refine wl_alloc rfl _ rfl (by first | exact arrPcm | exact arrSpec | exact arrTail | exact arrWave | exact arrPair | exact arrRound) HM ?_); clear HM; intro g7 u7 HM) | (have hq : Hid (Mem _ [_, _, _, _, _, _, _] _) := HM; clear hq; (first | refine wl_box rfl _ _ rfl rfl HM ?_ | refine wl_alloc rfl _ rfl (by first | exact arrPcm | exact arrSpec | exact arrTail | exact arrWave | exact arrPair | exact arrRound) HM ?_); clear HM; intro g8 u8 HM) | (have hq : Hid (Mem _ [_, _, _, _, _, _, _, _] _) := HM; clear hq; (first | refine wl_box rfl _ _ rfl rfl HM ?_ | refine wl_alloc rfl _ rfl (by first | exact arrPcm | exact arrSpec | exact arrTail | exact arrWave | exact arrPair | exact arrRound) HM ?_); clear HM; intro g9 u9 HM)) | (refine wl_load rfl _ _ rfl rfl (by first | exact arrPcm | exact arrSpec | exact arrTail | exact arrWave | exact arrPair | exact arrRound) HM (by first | exact .head _ | exact .tail _ (.head _) | exact .tail _ (.tail _ (.head _)) | exact .tail _ (.tail _ (.tail _ (.head _))) | exact .tail _ (.tail _ (.tail _ (.tail _ (.head _)))) | exact .tail _ (.tail _ (.tail _ (.tail _ (.tail _ (.head _))))) | exact .tail _ (.tail _ (.tail _ (.tail _ (.tail _ (.tail _ (.head _)))))) | exact .tail _ (.tail _ (.tail _ (.tail _ (.tail _ (.tail _ (.tail _ (.head _)))))))) (by first | assumption | exact Lib.hid (zr_length _) | exact Lib.hid (tab_length _ _)) ?_) | (first | (refine wl_store rfl _ _ _ rfl rfl rfl (by first | exact arrPcm | exact arrSpec | exact arrTail | exact arrWave | exact arrPair | exact arrRound) HM 0 rfl (by first | assumption | exact Lib.hid (zr_length _) | exact Lib.hid (tab_length _ _)) (by first | assumption | exact Lib.hid (zr_length _) | exact Lib.hid (tab_length _ _)) ?_; clear HM; intro us HM; simp only [List.set_cons_zero] at HM) | (refine wl_store rfl _ _ _ rfl rfl rfl (by first | exact arrPcm | exact arrSpec | exact arrTail | exact arrWave | exact arrPair | exact arrRound) HM 1 rfl (by first | assumption | exact Lib.hid (zr_length _) | exact Lib.hid (tab_length _ _)) (by first | assumption | exact Lib.hid (zr_length _) | exact Lib.hid (tab_length _ _)) ?_; clear HM; intro us HM; simp only [List.set_cons_zero, List.set_cons_succ] at HM) | (refine wl_store rfl _ _ _ rfl rfl rfl (by first | exact arrPcm | exact arrSpec | exact arrTail | exact arrWave | exact arrPair | exact arrRound) HM 2 rfl (by first | assumption | exact Lib.hid (zr_length _) | exact Lib.hid (tab_length _ _)) (by first | assumption | exact Lib.hid (zr_length _) | exact Lib.hid (tab_length _ _)) ?_; clear HM; intro us HM; simp only [List.set_cons_zero, List.set_cons_succ] at HM) | (refine wl_store rfl _ _ _ rfl rfl rfl (by first | exact arrPcm | exact arrSpec | exact arrTail | exact arrWave | exact arrPair | exact arrRound) HM 3 rfl (by first | assumption | exact Lib.hid (zr_length _) | exact Lib.hid (tab_length _ _)) (by first | assumption | exact Lib.hid (zr_length _) | exact Lib.hid (tab_length _ _)) ?_; clear HM; intro us HM; simp only [List.set_cons_zero, List.set_cons_succ] at HM) | (refine wl_store rfl _ _ _ rfl rfl rfl (by first | exact arrPcm | exact arrSpec | exact arrTail | exact arrWave | exact arrPair | exact arrRound) HM 4 rfl (by first | assumption | exact Lib.hid (zr_length _) | exact Lib.hid (tab_length _ _)) (by first | assumption | exact Lib.hid (zr_length _) | exact Lib.hid (tab_length _ _)) ?_; clear HM; intro us HM; simp only [List.set_cons_zero, List.set_cons_succ] at HM) | (refine wl_store rfl _ _ _ rfl rfl rfl (by first | exact arrPcm | exact arrSpec | exact arrTail | exact arrWave | exact arrPair | exact arrRound) HM 5 rfl (by first | assumption | exact Lib.hid (zr_length _) | exact Lib.hid (tab_length _ _)) (by first | assumption | exact Lib.hid (zr_length _) | exact Lib.hid (tab_length _ _)) ?_; clear HM; intro us HM; simp only [List.set_cons_zero, List.set_cons_succ] at HM) | (refine wl_store rfl _ _ _ rfl rfl rfl (by first | exact arrPcm | exact arrSpec | exact arrTail | exact arrWave | exact arrPair | exact arrRound) HM 6 rfl (by first | assumption | exact Lib.hid (zr_length _) | exact Lib.hid (tab_length _ _)) (by first | assumption | exact Lib.hid (zr_length _) | exact Lib.hid (tab_length _ _)) ?_; clear HM; intro us HM; simp only [List.set_cons_zero, List.set_cons_succ] at HM) | (refine wl_store rfl _ _ _ rfl rfl rfl (by first | exact arrPcm | exact arrSpec | exact arrTail | exact arrWave | exact arrPair | exact arrRound) HM 7 rfl (by first | assumption | exact Lib.hid (zr_length _) | exact Lib.hid (tab_length _ _)) (by first | assumption | exact Lib.hid (zr_length _) | exact Lib.hid (tab_length _ _)) ?_; clear HM; intro us HM; simp only [List.set_cons_zero, List.set_cons_succ] at HM)) | (refine wl_zero rfl _ rfl (by first | exact arrPcm | exact arrSpec | exact arrTail | exact arrWave | exact arrPair | exact arrRound) (by kernel_rfl) ?_))
  go_loop [6] (fun vi => ∃ k : Nat, vi = .int .i64 (k : Int) ∧ k ≤ 16 ∧ Hid (∀ j, j < k → -32768 ≤ x.getD j 0 ∧ x.getD j 0 ≤ 32767)) (fun vi => 16 - (intOf vi).toNat)
  case atStart => exact ⟨0, rfl, by omega, Lib.hid (fun j hj => by omega)⟩
  case round =>
    obtain ⟨k, rfl, hk, HK⟩ := hrel
    by_cases hlt : k < 16
    · have hix := run_index 23 (n := 16) (by kernel_rfl) x LX.out k hlt
      obtain ⟨v, hv⟩ : ∃ v, x.getD k 0 = v := ⟨_, rfl⟩
      rw [hv] at hix
      have HX := Lib.hid hv
      have kn : (k : Int) < 16 := by omega
      clear hv
      by_cases h1 : v < -32768
      · obtain rfl : b = false := by
          cases b with
          | false => rfl
          | true => have := HI.out.1 rfl k hlt; rw [HX.out] at this; omega
        obtain rfl : z = 1 := HZ.out
        go_wp2
        go_ret
        exact ⟨rfl, HM.out.1⟩
      · by_cases h2 : 32767 < v
        · obtain rfl : b = false := by
            cases b with
            | false => rfl
            | true => have := HI.out.1 rfl k hlt; rw [HX.out] at this; omega
          obtain rfl : z = 1 := HZ.out
          go_wp2
          go_ret
          exact ⟨rfl, HM.out.1⟩
        · go_wp2
          go_round
          case rel =>
            refine ⟨k + 1, by go_num, by omega, Lib.hid fun j hj => ?_⟩
            by_cases hjk : j < k
            · exact HK.out j hjk
            · obtain rfl : j = k := by omega
              rw [HX.out]; omega
          case measure => simp [intOf]; omega
    · obtain rfl : k = 16 := by omega
      obtain rfl : b = true := HI.out.2 HK.out
      obtain rfl : z = 0 := HZ.out
      go_wp2
      go_ret
      exact ⟨rfl, HM.out.1⟩
set_option maxRecDepth 100000 in
set_option maxHeartbeats 4000000 in
theorem renergy_any (x : List Int) (w : World) (lx : x.length = 16) :
    Calls Try.prog 14 #[.agg (icells x)] w (ValQ w (.int .u64 (eng x))) := by
  have LX := Lib.hid lx
  have HM := Lib.hid (Mem.start w)
  cases h : okX x with
  | false =>
    have HC := Lib.hid (fun u => mayX_any x false u lx h)
    have HV := Lib.hid (show eng x = 0 by unfold eng; rw [h]; rfl)
    clear lx h
    go_enter Try.func14, Try.ntmps14
    go_wp2_with (first | (first | (have hq : Hid (Mem _ [] _) := HM; clear hq; (first | refine wl_box rfl _ _ rfl rfl HM ?_ | refine wl_alloc rfl _ rfl (by first | exact arrPcm | exact arrSpec | exact arrTail | exact arrWave | exact arrPair | exact arrRound) HM ?_); clear HM; intro g1 u1 HM) | (have hq : Hid (Mem _ [_] _) := HM; clear hq; (first | refine wl_box rfl _ _ rfl rfl HM ?_ | refine wl_alloc rfl _ rfl (by first | exact arrPcm | exact arrSpec | exact arrTail | exact arrWave | exact arrPair | exact arrRound) HM ?_); clear HM; intro g2 u2 HM) | (have hq : Hid (Mem _ [_, _] _) := HM; clear hq; (first | refine wl_box rfl _ _ rfl rfl HM ?_ | refine wl_alloc rfl _ rfl (by first | exact arrPcm | exact arrSpec | exact arrTail | exact arrWave | exact arrPair | exact arrRound) HM ?_); clear HM; intro g3 u3 HM) | (have hq : Hid (Mem _ [_, _, _] _) := HM; clear hq; (first | refine wl_box rfl _ _ rfl rfl HM ?_ | refine wl_alloc rfl _ rfl (by first | exact arrPcm | exact arrSpec | exact arrTail | exact arrWave | exact arrPair | exact arrRound) HM ?_); clear HM; intro g4 u4 HM) | (have hq : Hid (Mem _ [_, _, _, _] _) := HM; clear hq; (first | refine wl_box rfl _ _ rfl rfl HM ?_ | refine wl_alloc rfl _ rfl (by first | exact arrPcm | exact arrSpec | exact arrTail | exact arrWave | exact arrPair | exact arrRound) HM ?_); clear HM; intro g5 u5 HM) | (have hq : Hid (Mem _ [_, _, _, _, _] _) := HM; clear hq; (first | refine wl_box rfl _ _ rfl rfl HM ?_ | refine wl_alloc rfl _ rfl (by first | exact arrPcm | exact arrSpec | exact arrTail | exact arrWave | exact arrPair | exact arrRound) HM ?_); clear HM; intro g6 u6 HM) | (have hq : Hid (Mem _ [_, _, _, _, _, _] _) := HM; clear hq; (first | refine wl_box rfl _ _ rfl rfl HM ?_ | refine wl_alloc rfl _ rfl (by first | exact arrPcm | exact arrSpec | exact arrTail | exact arrWave | exact arrPair | exact arrRound) HM ?_); clear HM; intro g7 u7 HM) | (have hq : Hid (Mem _ [_, _, _, _, _, _, _] _) := HM; clear hq; (first | refine wl_box rfl _ _ rfl rfl HM ?_ | refine wl_alloc rfl _ rfl (by first | exact arrPcm | exact arrSpec | exact arrTail | exact arrWave | exact arrPair | exact arrRound) HM ?_); clear HM; intro g8 u8 HM) | (have hq : Hid (Mem _ [_, _, _, _, _, _, _, _] _) := HM; clear hq; (first | refine wl_box rfl _ _ rfl rfl HM ?_ | refine wl_alloc rfl _ rfl (by first | exact arrPcm | exact arrSpec | exact arrTail | exact arrWave | exact arrPair | exact arrRound) HM ?_); clear HM; intro g9 u9 HM)) | (refine wl_load rfl _ _ rfl rfl (by first | exact arrPcm | exact arrSpec | exact arrTail | exact arrWave | exact arrPair | exact arrRound) HM (by first | exact .head _ | exact .tail _ (.head _) | exact .tail _ (.tail _ (.head _)) | exact .tail _ (.tail _ (.tail _ (.head _))) | exact .tail _ (.tail _ (.tail _ (.tail _ (.head _)))) | exact .tail _ (.tail _ (.tail _ (.tail _ (.tail _ (.head _))))) | exact .tail _ (.tail _ (.tail _ (.tail _ (.tail _ (.tail _ (.head _)))))) | exact .tail _ (.tail _ (.tail _ (.tail _ (.tail _ (.tail _ (.tail _ (.head _)))))))) (by first | assumption | exact Lib.hid (zr_length _) | exact Lib.hid (tab_length _ _)) ?_) | (first | (refine wl_store rfl _ _ _ rfl rfl rfl (by first | exact arrPcm | exact arrSpec | exact arrTail | exact arrWave | exact arrPair | exact arrRound) HM 0 rfl (by first | assumption | exact Lib.hid (zr_length _) | exact Lib.hid (tab_length _ _)) (by first | assumption | exact Lib.hid (zr_length _) | exact Lib.hid (tab_length _ _)) ?_; clear HM; intro us HM; simp only [List.set_cons_zero] at HM) | (refine wl_store rfl _ _ _ rfl rfl rfl (by first | exact arrPcm | exact arrSpec | exact arrTail | exact arrWave | exact arrPair | exact arrRound) HM 1 rfl (by first | assumption | exact Lib.hid (zr_length _) | exact Lib.hid (tab_length _ _)) (by first | assumption | exact Lib.hid (zr_length _) | exact Lib.hid (tab_length _ _)) ?_; clear HM; intro us HM; simp only [List.set_cons_zero, List.set_cons_succ] at HM) | (refine wl_store rfl _ _ _ rfl rfl rfl (by first | exact arrPcm | exact arrSpec | exact arrTail | exact arrWave | exact arrPair | exact arrRound) HM 2 rfl (by first | assumption | exact Lib.hid (zr_length _) | exact Lib.hid (tab_length _ _)) (by first | assumption | exact Lib.hid (zr_length _) | exact Lib.hid (tab_length _ _)) ?_; clear HM; intro us HM; simp only [List.set_cons_zero, List.set_cons_succ] at HM) | (refine wl_store rfl _ _ _ rfl rfl rfl (by first | exact arrPcm | exact arrSpec | exact arrTail | exact arrWave | exact arrPair | exact arrRound) HM 3 rfl (by first | assumption | exact Lib.hid (zr_length _) | exact Lib.hid (tab_length _ _)) (by first | assumption | exact Lib.hid (zr_length _) | exact Lib.hid (tab_length _ _)) ?_; clear HM; intro us HM; simp only [List.set_cons_zero, List.set_cons_succ] at HM) | (refine wl_store rfl _ _ _ rfl rfl rfl (by first | exact arrPcm | exact arrSpec | exact arrTail | exact arrWave | exact arrPair | exact arrRound) HM 4 rfl (by first | assumption | exact Lib.hid (zr_length _) | exact Lib.hid (tab_length _ _)) (by first | assumption | exact Lib.hid (zr_length _) | exact Lib.hid (tab_length _ _)) ?_; clear HM; intro us HM; simp only [List.set_cons_zero, List.set_cons_succ] at HM) | (refine wl_store rfl _ _ _ rfl rfl rfl (by first | exact arrPcm | exact arrSpec | exact arrTail | exact arrWave | exact arrPair | exact arrRound) HM 5 rfl (by first | assumption | exact Lib.hid (zr_length _) | exact Lib.hid (tab_length _ _)) (by first | assumption | exact Lib.hid (zr_length _) | exact Lib.hid (tab_length _ _)) ?_; clear HM; intro us HM; simp only [List.set_cons_zero, List.set_cons_succ] at HM) | (refine wl_store rfl _ _ _ rfl rfl rfl (by first | exact arrPcm | exact arrSpec | exact arrTail | exact arrWave | exact arrPair | exact arrRound) HM 6 rfl (by first | assumption | exact Lib.hid (zr_length _) | exact Lib.hid (tab_length _ _)) (by first | assumption | exact Lib.hid (zr_length _) | exact Lib.hid (tab_length _ _)) ?_; clear HM; intro us HM; simp only [List.set_cons_zero, List.set_cons_succ] at HM) | (refine wl_store rfl _ _ _ rfl rfl rfl (by first | exact arrPcm | exact arrSpec | exact arrTail | exact arrWave | exact arrPair | exact arrRound) HM 7 rfl (by first | assumption | exact Lib.hid (zr_length _) | exact Lib.hid (tab_length _ _)) (by first | assumption | exact Lib.hid (zr_length _) | exact Lib.hid (tab_length _ _)) ?_; clear HM; intro us HM; simp only [List.set_cons_zero, List.set_cons_succ] at HM)) | (refine wl_zero rfl _ rfl (by first | exact arrPcm | exact arrSpec | exact arrTail | exact arrWave | exact arrPair | exact arrRound) (by kernel_rfl) ?_))
    refine (HC.out _).mono ?_
    rintro e w2 ⟨rfl, h1⟩
    have HM2 := Lib.hid (HM.out.below h1)
    clear h1 HM HC
    go_wp2
    go_ret
    exact ⟨by rw [HV.out]; rfl, HM2.out.1⟩
  | true =>
    have HC := Lib.hid (fun u => mayX_any x true u lx h)
    have HX := Lib.hid h
    have HV := Lib.hid (show eng x = sumN (fun k => x.getD k 0 * x.getD k 0) 16 by unfold eng; rw [if_pos h])
    clear lx h
    go_enter Try.func14, Try.ntmps14
    go_wp2_with (first | (first | (have hq : Hid (Mem _ [] _) := HM; clear hq; (first | refine wl_box rfl _ _ rfl rfl HM ?_ | refine wl_alloc rfl _ rfl (by first | exact arrPcm | exact arrSpec | exact arrTail | exact arrWave | exact arrPair | exact arrRound) HM ?_); clear HM; intro g1 u1 HM) | (have hq : Hid (Mem _ [_] _) := HM; clear hq; (first | refine wl_box rfl _ _ rfl rfl HM ?_ | refine wl_alloc rfl _ rfl (by first | exact arrPcm | exact arrSpec | exact arrTail | exact arrWave | exact arrPair | exact arrRound) HM ?_); clear HM; intro g2 u2 HM) | (have hq : Hid (Mem _ [_, _] _) := HM; clear hq; (first | refine wl_box rfl _ _ rfl rfl HM ?_ | refine wl_alloc rfl _ rfl (by first | exact arrPcm | exact arrSpec | exact arrTail | exact arrWave | exact arrPair | exact arrRound) HM ?_); clear HM; intro g3 u3 HM) | (have hq : Hid (Mem _ [_, _, _] _) := HM; clear hq; (first | refine wl_box rfl _ _ rfl rfl HM ?_ | refine wl_alloc rfl _ rfl (by first | exact arrPcm | exact arrSpec | exact arrTail | exact arrWave | exact arrPair | exact arrRound) HM ?_); clear HM; intro g4 u4 HM) | (have hq : Hid (Mem _ [_, _, _, _] _) := HM; clear hq; (first | refine wl_box rfl _ _ rfl rfl HM ?_ | refine wl_alloc rfl _ rfl (by first | exact arrPcm | exact arrSpec | exact arrTail | exact arrWave | exact arrPair | exact arrRound) HM ?_); clear HM; intro g5 u5 HM) | (have hq : Hid (Mem _ [_, _, _, _, _] _) := HM; clear hq; (first | refine wl_box rfl _ _ rfl rfl HM ?_ | refine wl_alloc rfl _ rfl (by first | exact arrPcm | exact arrSpec | exact arrTail | exact arrWave | exact arrPair | exact arrRound) HM ?_); clear HM; intro g6 u6 HM) | (have hq : Hid (Mem _ [_, _, _, _, _, _] _) := HM; clear hq; (first | refine wl_box rfl _ _ rfl rfl HM ?_ | refine wl_alloc rfl _ rfl (by first | exact arrPcm | exact arrSpec | exact arrTail | exact arrWave | exact arrPair | exact arrRound) HM ?_); clear HM; intro g7 u7 HM) | (have hq : Hid (Mem _ [_, _, _, _, _, _, _] _) := HM; clear hq; (first | refine wl_box rfl _ _ rfl rfl HM ?_ | refine wl_alloc rfl _ rfl (by first | exact arrPcm | exact arrSpec | exact arrTail | exact arrWave | exact arrPair | exact arrRound) HM ?_); clear HM; intro g8 u8 HM) | (have hq : Hid (Mem _ [_, _, _, _, _, _, _, _] _) := HM; clear hq; (first | refine wl_box rfl _ _ rfl rfl HM ?_ | refine wl_alloc rfl _ rfl (by first | exact arrPcm | exact arrSpec | exact arrTail | exact arrWave | exact arrPair | exact arrRound) HM ?_); clear HM; intro g9 u9 HM)) | (refine wl_load rfl _ _ rfl rfl (by first | exact arrPcm | exact arrSpec | exact arrTail | exact arrWave | exact arrPair | exact arrRound) HM (by first | exact .head _ | exact .tail _ (.head _) | exact .tail _ (.tail _ (.head _)) | exact .tail _ (.tail _ (.tail _ (.head _))) | exact .tail _ (.tail _ (.tail _ (.tail _ (.head _)))) | exact .tail _ (.tail _ (.tail _ (.tail _ (.tail _ (.head _))))) | exact .tail _ (.tail _ (.tail _ (.tail _ (.tail _ (.tail _ (.head _)))))) | exact .tail _ (.tail _ (.tail _ (.tail _ (.tail _ (.tail _ (.tail _ (.head _)))))))) (by first | assumption | exact Lib.hid (zr_length _) | exact Lib.hid (tab_length _ _)) ?_) | (first | (refine wl_store rfl _ _ _ rfl rfl rfl (by first | exact arrPcm | exact arrSpec | exact arrTail | exact arrWave | exact arrPair | exact arrRound) HM 0 rfl (by first | assumption | exact Lib.hid (zr_length _) | exact Lib.hid (tab_length _ _)) (by first | assumption | exact Lib.hid (zr_length _) | exact Lib.hid (tab_length _ _)) ?_; clear HM; intro us HM; simp only [List.set_cons_zero] at HM) | (refine wl_store rfl _ _ _ rfl rfl rfl (by first | exact arrPcm | exact arrSpec | exact arrTail | exact arrWave | exact arrPair | exact arrRound) HM 1 rfl (by first | assumption | exact Lib.hid (zr_length _) | exact Lib.hid (tab_length _ _)) (by first | assumption | exact Lib.hid (zr_length _) | exact Lib.hid (tab_length _ _)) ?_; clear HM; intro us HM; simp only [List.set_cons_zero, List.set_cons_succ] at HM) | (refine wl_store rfl _ _ _ rfl rfl rfl (by first | exact arrPcm | exact arrSpec | exact arrTail | exact arrWave | exact arrPair | exact arrRound) HM 2 rfl (by first | assumption | exact Lib.hid (zr_length _) | exact Lib.hid (tab_length _ _)) (by first | assumption | exact Lib.hid (zr_length _) | exact Lib.hid (tab_length _ _)) ?_; clear HM; intro us HM; simp only [List.set_cons_zero, List.set_cons_succ] at HM) | (refine wl_store rfl _ _ _ rfl rfl rfl (by first | exact arrPcm | exact arrSpec | exact arrTail | exact arrWave | exact arrPair | exact arrRound) HM 3 rfl (by first | assumption | exact Lib.hid (zr_length _) | exact Lib.hid (tab_length _ _)) (by first | assumption | exact Lib.hid (zr_length _) | exact Lib.hid (tab_length _ _)) ?_; clear HM; intro us HM; simp only [List.set_cons_zero, List.set_cons_succ] at HM) | (refine wl_store rfl _ _ _ rfl rfl rfl (by first | exact arrPcm | exact arrSpec | exact arrTail | exact arrWave | exact arrPair | exact arrRound) HM 4 rfl (by first | assumption | exact Lib.hid (zr_length _) | exact Lib.hid (tab_length _ _)) (by first | assumption | exact Lib.hid (zr_length _) | exact Lib.hid (tab_length _ _)) ?_; clear HM; intro us HM; simp only [List.set_cons_zero, List.set_cons_succ] at HM) | (refine wl_store rfl _ _ _ rfl rfl rfl (by first | exact arrPcm | exact arrSpec | exact arrTail | exact arrWave | exact arrPair | exact arrRound) HM 5 rfl (by first | assumption | exact Lib.hid (zr_length _) | exact Lib.hid (tab_length _ _)) (by first | assumption | exact Lib.hid (zr_length _) | exact Lib.hid (tab_length _ _)) ?_; clear HM; intro us HM; simp only [List.set_cons_zero, List.set_cons_succ] at HM) | (refine wl_store rfl _ _ _ rfl rfl rfl (by first | exact arrPcm | exact arrSpec | exact arrTail | exact arrWave | exact arrPair | exact arrRound) HM 6 rfl (by first | assumption | exact Lib.hid (zr_length _) | exact Lib.hid (tab_length _ _)) (by first | assumption | exact Lib.hid (zr_length _) | exact Lib.hid (tab_length _ _)) ?_; clear HM; intro us HM; simp only [List.set_cons_zero, List.set_cons_succ] at HM) | (refine wl_store rfl _ _ _ rfl rfl rfl (by first | exact arrPcm | exact arrSpec | exact arrTail | exact arrWave | exact arrPair | exact arrRound) HM 7 rfl (by first | assumption | exact Lib.hid (zr_length _) | exact Lib.hid (tab_length _ _)) (by first | assumption | exact Lib.hid (zr_length _) | exact Lib.hid (tab_length _ _)) ?_; clear HM; intro us HM; simp only [List.set_cons_zero, List.set_cons_succ] at HM)) | (refine wl_zero rfl _ rfl (by first | exact arrPcm | exact arrSpec | exact arrTail | exact arrWave | exact arrPair | exact arrRound) (by kernel_rfl) ?_))
    refine (HC.out _).mono ?_
    rintro e w2 ⟨rfl, h1⟩
    have HM2 := Lib.hid (HM.out.below h1)
    clear h1 HM HC
    have HM := HM2
    clear HM2
    go_wp2_with (refine wl_load rfl _ _ rfl rfl (by first | exact arrPcm | exact arrSpec | exact arrTail | exact arrWave | exact arrPair | exact arrRound) HM (by first | exact .head _ | exact .tail _ (.head _) | exact .tail _ (.tail _ (.head _)) | exact .tail _ (.tail _ (.tail _ (.head _))) | exact .tail _ (.tail _ (.tail _ (.tail _ (.head _)))) | exact .tail _ (.tail _ (.tail _ (.tail _ (.tail _ (.head _))))) | exact .tail _ (.tail _ (.tail _ (.tail _ (.tail _ (.tail _ (.head _)))))) | exact .tail _ (.tail _ (.tail _ (.tail _ (.tail _ (.tail _ (.tail _ (.head _)))))))) (by first | assumption | exact Lib.hid (zr_length _) | exact Lib.hid (tab_length _ _)) ?_)
    go_loop [3, 10] (fun vs vi => ∃ k : Nat, k ≤ 16 ∧ vi = .int .i64 (k : Int) ∧ vs = .int .u64 (sumN (fun k => x.getD k 0 * x.getD k 0) k)) (fun _ vi => 16 - (intOf vi).toNat)
    case atStart => exact ⟨0, by omega, rfl, rfl⟩
    case round =>
      obtain ⟨k, hk, rfl, rfl⟩ := hrel
      by_cases hlt : k < 16
      · have hix := run_index 25 (n := 16) (by kernel_rfl) x LX.out k hlt
        have t1 := eng_term HX.out k
        have t2 := eng_sum HX.out k (by omega)
        have t3 := eng_sum HX.out (k + 1) (by omega)
        rw [sumN_succ] at t3
        have HT := Lib.hid (show sumN (fun k => x.getD k 0 * x.getD k 0) (k + 1) = _ from sumN_succ _ _)
        generalize sumN (fun k => x.getD k 0 * x.getD k 0) k = S at t2 t3 HT ⊢
        obtain ⟨z, hz⟩ : ∃ z, x.getD k 0 = z := ⟨_, rfl⟩
        rw [hz] at hix t1 t3 HT
        have e1 : IntKind.i64.wrap (z * z) = z * z := i64_w (by omega) (by omega)
        have e2 : IntKind.u64.wrap (z * z) = z * z := IntWalk.u64_in _ (by omega)
        have e3 : IntKind.u64.wrap (S + z * z) = S + z * z := IntWalk.u64_in _ (by omega)
        have k16 : (k : Int) < 16 := by omega
        clear t1 t2 t3 hz
        go_wp2
        go_round
        case rel => exact ⟨k + 1, by omega, by go_num, by rw [HT.out]⟩
        case measure => simp [intOf]; omega
      · obtain rfl : k = 16 := by omega
        go_wp2
        go_ret
        exact ⟨by rw [HV.out]; rfl, HM.out.1⟩
end Go.Proofs.Ytclcahaflngjhaa.Lp
