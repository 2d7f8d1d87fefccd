/-
  Own texts, laid together: Lc.
-/
import Derived.Test.YtplfcncibmgllaaLm
/- Lc -/
namespace Go.Proofs.Ytplfcncibmgllaa.Lp
open Go.RowKit Go.Proofs.Ytplfcncibmgllaa.Fx Go.Proofs.Ytplfcncibmgllaa.Fq Go.Proofs.Ytplfcncibmgllaa.Tb
set_option maxRecDepth 100000 in
set_option maxHeartbeats 2000000 in
theorem within_any (lo hi : Int) (A : Option Addr) (n c : Nat) (zs : List Int) (b : Bool) (w : World) (hr : Hid (RdI w A n zs)) (hn : n ≤ maxLen) (hb : inR lo hi zs = b) :
    Calls Try.prog 12 #[.int .i64 lo, .int .i64 hi, .slice A n c] w fun e w' => e = .returned (.bool b) ∧ w = w' := by
  have HI := Lib.hid (inR_iff (lo := lo) (hi := hi) hr.out.1)
  rw [hb] at HI
  clear hb
  unfold maxLen at hn
  go_enter Try.func12, Try.ntmps12
  go_wp2_with fail
  go_loop [11] (fun vi => ∃ k : Nat, vi = .int .i64 (k : Int) ∧ k ≤ n ∧ Hid (∀ j, j < k → lo ≤ zs.getD j 0 ∧ zs.getD j 0 ≤ hi)) (fun vi => n - (intOf vi).toNat)
  case atStart => exact ⟨0, rfl, by omega, Lib.hid (fun j hj => by omega)⟩
  case round =>
    obtain ⟨k, rfl, hk, HK⟩ := hrel
    by_cases hlt : k < n
    · obtain ⟨ad, rfl, hlt2, hcell⟩ := hr.out.at_ hlt
      obtain ⟨x, hx⟩ : ∃ x, zs.getD k 0 = x := ⟨_, rfl⟩
      rw [hx] at hcell
      have HX := Lib.hid hx
      clear hx hlt2
      by_cases h1 : x < lo
      · obtain rfl : b = false := by
          cases b with
          | false => rfl
          | true => have := HI.out.1 rfl k hlt; rw [HX.out] at this; omega
        go_wp2
        go_ret
        exact ⟨rfl, rfl⟩
      · by_cases h2 : hi < x
        · obtain rfl : b = false := by
            cases b with
            | false => rfl
            | true => have := HI.out.1 rfl k hlt; rw [HX.out] at this; omega
          go_wp2
          go_ret
          exact ⟨rfl, rfl⟩
        · go_wp2
          go_round
          case rel =>
            refine ⟨k + 1, by go_num, by omega, Lib.hid fun j hj => ?_⟩
            by_cases hjk : j < k
            · exact HK.out j hjk
            · obtain rfl : j = k := by omega
              rw [HX.out]; omega
          case measure => simp [intOf]; omega
    · obtain rfl : k = n := by omega
      obtain rfl : b = true := HI.out.2 HK.out
      go_wp2
      go_ret
      exact ⟨rfl, rfl⟩
set_option maxRecDepth 100000 in
set_option maxHeartbeats 2000000 in
theorem areNumbers_any (x : List Int) (b : Bool) (w : World) (hl : x.length = 16) (hb : okX x = b) :
    Calls Try.prog 24 #[.agg (icells x)] w fun e w' => e = .returned (.bool b) ∧ Below w.heap.size w w' := by
  have HL := Lib.hid hl
  have HB := Lib.hid hb
  have HM := Lib.hid (Mem.start w)
  clear hl hb
  go_enter Try.func24, Try.ntmps24
  go_wp2_with (first | (first | (have hq : Hid (Mem _ [] _) := HM; clear hq; (first | refine wl_box rfl _ _ rfl rfl HM ?_ | refine wl_alloc rfl _ rfl (by first | exact arrPcm | exact arrSpec | exact arrTail | exact arrWave | exact arrPair | exact arrRound) HM ?_); clear HM; intro g1 u1 HM) | (have hq : Hid (Mem _ [_] _) := HM; clear hq; (first | refine wl_box rfl _ _ rfl rfl HM ?_ | refine wl_alloc rfl _ rfl (by first | exact arrPcm | exact arrSpec | exact arrTail | exact arrWave | exact arrPair | exact arrRound) HM ?_); clear HM; intro g2 u2 HM) | (have hq : Hid (Mem _ [_, _] _) := HM; clear hq; (first | refine wl_box rfl _ _ rfl rfl HM ?_ | refine wl_alloc rfl _ rfl (by first | exact arrPcm | exact arrSpec | exact arrTail | exact arrWave | exact arrPair | exact arrRound) HM ?_); clear HM; intro g3 u3 HM) | (have hq : Hid (Mem _ [_, _, _] _) := HM; clear hq; (first | refine wl_box rfl _ _ rfl rfl HM ?_ | refine wl_alloc rfl _ rfl (by first | exact arrPcm | exact arrSpec | exact arrTail | exact arrWave | exact arrPair | exact arrRound) HM ?_); clear HM; intro g4 u4 HM) | (have hq : Hid (Mem _ [_, _, _, _] _) := HM; clear hq; (first | refine wl_box rfl _ _ rfl rfl HM ?_ | refine wl_alloc rfl _ rfl (by first | exact arrPcm | exact arrSpec | exact arrTail | exact arrWave | exact arrPair | exact arrRound) HM ?_); clear HM; intro g5 u5 HM) | (have hq : Hid (Mem _ [_, _, _, _, _] _) := HM; clear hq; (first | refine wl_box rfl _ _ rfl rfl HM ?_ | refine wl_alloc rfl _ rfl (by first | exact arrPcm | exact arrSpec | exact arrTail | exact arrWave | exact arrPair | exact arrRound) HM ?_); clear HM; intro g6 u6 HM) | (have hq : Hid (Mem _ [_, _, _, _, _, _] _) := HM; clear hq; (first | refine wl_box rfl _ _ rfl rfl HM ?_ | refine wl_alloc rfl _ rfl (by first | exact arrPcm | exact arrSpec | exact arrTail | exact arrWave | exact arrPair | exact arrRound) HM ?_); clear HM; intro g7 u7 HM) | (have hq : Hid (Mem _ [_, _, _, _, _, _, _] _) := HM; clear hq; (first | refine wl_box rfl _ _ rfl rfl HM ?_ | refine wl_alloc rfl _ rfl (by first | exact arrPcm | exact arrSpec | exact arrTail | exact arrWave | exact arrPair | exact arrRound) HM ?_); clear HM; intro g8 u8 HM) | (have hq : Hid (Mem _ [_, _, _, _, _, _, _, _] _) := HM; clear hq; (first | refine wl_box rfl _ _ rfl rfl HM ?_ | refine wl_alloc rfl _ rfl (by first | exact arrPcm | exact arrSpec | exact arrTail | exact arrWave | exact arrPair | exact arrRound) HM ?_); clear HM; intro g9 u9 HM) | (have hq : Hid (Mem _ [_, _, _, _, _, _, _, _, _] _) := HM; clear hq; (first | refine wl_box rfl _ _ rfl rfl HM ?_ | refine wl_alloc rfl _ rfl (by first | exact arrPcm | exact arrSpec | exact arrTail | exact arrWave | exact arrPair | exact arrRound) HM ?_); clear HM; intro g10 u10 HM) | (have hq : Hid (Mem _ [_, _, _, _, _, _, _, _, _, _] _) := HM; clear hq; (first | refine wl_box rfl _ _ rfl rfl HM ?_ | refine wl_alloc rfl _ rfl (by first | exact arrPcm | exact arrSpec | exact arrTail | exact arrWave | exact arrPair | exact arrRound) HM ?_); clear HM; intro g11 u11 HM) | (have hq : Hid (Mem _ [_, _, _, _, _, _, _, _, _, _, _] _) := HM; clear hq; (first | refine wl_box rfl _ _ rfl rfl HM ?_ | refine wl_alloc rfl _ rfl (by first | exact arrPcm | exact arrSpec | exact arrTail | exact arrWave | exact arrPair | exact arrRound) HM ?_); clear HM; intro g12 u12 HM)) | (refine wl_load rfl _ _ rfl rfl (by first | exact arrPcm | exact arrSpec | exact arrTail | exact arrWave | exact arrPair | exact arrRound) HM (by first | exact .head _ | exact .tail _ (.head _) | exact .tail _ (.tail _ (.head _)) | exact .tail _ (.tail _ (.tail _ (.head _))) | exact .tail _ (.tail _ (.tail _ (.tail _ (.head _)))) | exact .tail _ (.tail _ (.tail _ (.tail _ (.tail _ (.head _))))) | exact .tail _ (.tail _ (.tail _ (.tail _ (.tail _ (.tail _ (.head _)))))) | exact .tail _ (.tail _ (.tail _ (.tail _ (.tail _ (.tail _ (.tail _ (.head _))))))) | exact .tail _ (.tail _ (.tail _ (.tail _ (.tail _ (.tail _ (.tail _ (.tail _ (.head _)))))))) | exact .tail _ (.tail _ (.tail _ (.tail _ (.tail _ (.tail _ (.tail _ (.tail _ (.tail _ (.head _))))))))) | exact .tail _ (.tail _ (.tail _ (.tail _ (.tail _ (.tail _ (.tail _ (.tail _ (.tail _ (.tail _ (.head _)))))))))) | exact .tail _ (.tail _ (.tail _ (.tail _ (.tail _ (.tail _ (.tail _ (.tail _ (.tail _ (.tail _ (.tail _ (.head _)))))))))))) (by first | (with_reducible assumption) | (with_reducible exact Lib.hid (zr_length _)) | (with_reducible exact Lib.hid (tab_length _ _))) ?_) | (first | (refine wl_store rfl _ _ _ rfl rfl rfl (by first | exact arrPcm | exact arrSpec | exact arrTail | exact arrWave | exact arrPair | exact arrRound) HM 0 rfl (by first | (with_reducible assumption) | (with_reducible exact Lib.hid (zr_length _)) | (with_reducible exact Lib.hid (tab_length _ _))) (by first | (with_reducible assumption) | (with_reducible exact Lib.hid (zr_length _)) | (with_reducible exact Lib.hid (tab_length _ _))) ?_; clear HM; intro us HM; simp only [List.set_cons_zero] at HM) | (refine wl_store rfl _ _ _ rfl rfl rfl (by first | exact arrPcm | exact arrSpec | exact arrTail | exact arrWave | exact arrPair | exact arrRound) HM 1 rfl (by first | (with_reducible assumption) | (with_reducible exact Lib.hid (zr_length _)) | (with_reducible exact Lib.hid (tab_length _ _))) (by first | (with_reducible assumption) | (with_reducible exact Lib.hid (zr_length _)) | (with_reducible exact Lib.hid (tab_length _ _))) ?_; clear HM; intro us HM; simp only [List.set_cons_zero, List.set_cons_succ] at HM) | (refine wl_store rfl _ _ _ rfl rfl rfl (by first | exact arrPcm | exact arrSpec | exact arrTail | exact arrWave | exact arrPair | exact arrRound) HM 2 rfl (by first | (with_reducible assumption) | (with_reducible exact Lib.hid (zr_length _)) | (with_reducible exact Lib.hid (tab_length _ _))) (by first | (with_reducible assumption) | (with_reducible exact Lib.hid (zr_length _)) | (with_reducible exact Lib.hid (tab_length _ _))) ?_; clear HM; intro us HM; simp only [List.set_cons_zero, List.set_cons_succ] at HM) | (refine wl_store rfl _ _ _ rfl rfl rfl (by first | exact arrPcm | exact arrSpec | exact arrTail | exact arrWave | exact arrPair | exact arrRound) HM 3 rfl (by first | (with_reducible assumption) | (with_reducible exact Lib.hid (zr_length _)) | (with_reducible exact Lib.hid (tab_length _ _))) (by first | (with_reducible assumption) | (with_reducible exact Lib.hid (zr_length _)) | (with_reducible exact Lib.hid (tab_length _ _))) ?_; clear HM; intro us HM; simp only [List.set_cons_zero, List.set_cons_succ] at HM) | (refine wl_store rfl _ _ _ rfl rfl rfl (by first | exact arrPcm | exact arrSpec | exact arrTail | exact arrWave | exact arrPair | exact arrRound) HM 4 rfl (by first | (with_reducible assumption) | (with_reducible exact Lib.hid (zr_length _)) | (with_reducible exact Lib.hid (tab_length _ _))) (by first | (with_reducible assumption) | (with_reducible exact Lib.hid (zr_length _)) | (with_reducible exact Lib.hid (tab_length _ _))) ?_; clear HM; intro us HM; simp only [List.set_cons_zero, List.set_cons_succ] at HM) | (refine wl_store rfl _ _ _ rfl rfl rfl (by first | exact arrPcm | exact arrSpec | exact arrTail | exact arrWave | exact arrPair | exact arrRound) HM 5 rfl (by first | (with_reducible assumption) | (with_reducible exact Lib.hid (zr_length _)) | (with_reducible exact Lib.hid (tab_length _ _))) (by first | (with_reducible assumption) | (with_reducible exact Lib.hid (zr_length _)) | (with_reducible exact Lib.hid (tab_length _ _))) ?_; clear HM; intro us HM; simp only [List.set_cons_zero, List.set_cons_succ] at HM) | (refine wl_store rfl _ _ _ rfl rfl rfl (by first | exact arrPcm | exact arrSpec | exact arrTail | exact arrWave | exact arrPair | exact arrRound) HM 6 rfl (by first | (with_reducible assumption) | (with_reducible exact Lib.hid (zr_length _)) | (with_reducible exact Lib.hid (tab_length _ _))) (by first | (with_reducible assumption) | (with_reducible exact Lib.hid (zr_length _)) | (with_reducible exact Lib.hid (tab_length _ _))) ?_; clear HM; intro us HM; simp only [List.set_cons_zero, List.set_cons_succ] at HM) | (refine wl_store rfl _ _ _ rfl rfl rfl (by first | exact arrPcm | exact arrSpec | exact arrTail | exact arrWave | exact arrPair | exact arrRound) HM 7 rfl (by first | (with_reducible assumption) | (with_reducible exact Lib.hid (zr_length _)) | (with_reducible exact Lib.hid (tab_length _ _))) (by first | (with_reducible assumption) | (with_reducible exact Lib.hid (zr_length _)) | (with_reducible exact Lib.hid (tab_length _ _))) ?_; clear HM; intro us HM; simp only [List.set_cons_zero, List.set_cons_succ] at HM)) | (refine wl_zero rfl _ rfl (by first | exact arrPcm | exact arrSpec | exact arrTail | exact arrWave | exact arrPair | exact arrRound) (by kernel_rfl) ?_))
  refine (within_any _ _ _ 16 16 x b _ (Lib.hid (HM.out.rd (.head _) HL.out)) (by unfold maxLen; omega) HB.out).mono ?_
  rintro e w2 ⟨rfl, rfl⟩
  go_wp2
  go_ret
  exact ⟨rfl, HM.out.1⟩
set_option maxRecDepth 100000 in
set_option maxHeartbeats 2000000 in
theorem check_any (p : List Int) (b : Bool) (z : Int) (w : World) (hl : p.length = 16) (hb : okP p = b) (hz : z = if b = true then 0 else 1) :
    Calls Try.prog 21 #[.agg (icells p)] w fun e w' => e = .returned (.int .i64 z) ∧ Below w.heap.size w w' := by
  have HL := Lib.hid hl
  have HB := Lib.hid hb
  have HM := Lib.hid (Mem.start w)
  clear hl hb
  cases b with
  | true =>
    obtain rfl : z = 0 := by rw [hz]; rfl
    clear hz
    go_enter Try.func21, Try.ntmps21
    go_wp2_with (first | (first | (have hq : Hid (Mem _ [] _) := HM; clear hq; (first | refine wl_box rfl _ _ rfl rfl HM ?_ | refine wl_alloc rfl _ rfl (by first | exact arrPcm | exact arrSpec | exact arrTail | exact arrWave | exact arrPair | exact arrRound) HM ?_); clear HM; intro g1 u1 HM) | (have hq : Hid (Mem _ [_] _) := HM; clear hq; (first | refine wl_box rfl _ _ rfl rfl HM ?_ | refine wl_alloc rfl _ rfl (by first | exact arrPcm | exact arrSpec | exact arrTail | exact arrWave | exact arrPair | exact arrRound) HM ?_); clear HM; intro g2 u2 HM) | (have hq : Hid (Mem _ [_, _] _) := HM; clear hq; (first | refine wl_box rfl _ _ rfl rfl HM ?_ | refine wl_alloc rfl _ rfl (by first | exact arrPcm | exact arrSpec | exact arrTail | exact arrWave | exact arrPair | exact arrRound) HM ?_); clear HM; intro g3 u3 HM) | (have hq : Hid (Mem _ [_, _, _] _) := HM; clear hq; (first | refine wl_box rfl _ _ rfl rfl HM ?_ | refine wl_alloc rfl _ rfl (by first | exact arrPcm | exact arrSpec | exact arrTail | exact arrWave | exact arrPair | exact arrRound) HM ?_); clear HM; intro g4 u4 HM) | (have hq : Hid (Mem _ [_, _, _, _] _) := HM; clear hq; (first | refine wl_box rfl _ _ rfl rfl HM ?_ | refine wl_alloc rfl _ rfl (by first | exact arrPcm | exact arrSpec | exact arrTail | exact arrWave | exact arrPair | exact arrRound) HM ?_); clear HM; intro g5 u5 HM) | (have hq : Hid (Mem _ [_, _, _, _, _] _) := HM; clear hq; (first | refine wl_box rfl _ _ rfl rfl HM ?_ | refine wl_alloc rfl _ rfl (by first | exact arrPcm | exact arrSpec | exact arrTail | exact arrWave | exact arrPair | exact arrRound) HM ?_); clear HM; intro g6 u6 HM) | (have hq : Hid (Mem _ [_, _, _, _, _, _] _) := HM; clear hq; (first | refine wl_box rfl _ _ rfl rfl HM ?_ | refine wl_alloc rfl _ rfl (by first | exact arrPcm | exact arrSpec | exact arrTail | exact arrWave | exact arrPair | exact arrRound) HM ?_); clear HM; intro g7 u7 HM) | (have hq : Hid (Mem _ [_, _, _, _, _, _, _] _) := HM; clear hq; (first | refine wl_box rfl _ _ rfl rfl HM ?_ | refine wl_alloc rfl _ rfl (by first | exact arrPcm | exact arrSpec | exact arrTail | exact arrWave | exact arrPair | exact arrRound) HM ?_); clear HM; intro g8 u8 HM) | (have hq : Hid (Mem _ [_, _, _, _, _, _, _, _] _) := HM; clear hq; (first | refine wl_box rfl _ _ rfl rfl HM ?_ | refine wl_alloc rfl _ rfl (by first | exact arrPcm | exact arrSpec | exact arrTail | exact arrWave | exact arrPair | exact arrRound) HM ?_); clear HM; intro g9 u9 HM) | (have hq : Hid (Mem _ [_, _, _, _, _, _, _, _, _] _) := HM; clear hq; (first | refine wl_box rfl _ _ rfl rfl HM ?_ | refine wl_alloc rfl _ rfl (by first | exact arrPcm | exact arrSpec | exact arrTail | exact arrWave | exact arrPair | exact arrRound) HM ?_); clear HM; intro g10 u10 HM) | (have hq : Hid (Mem _ [_, _, _, _, _, _, _, _, _, _] _) := HM; clear hq; (first | refine wl_box rfl _ _ rfl rfl HM ?_ | refine wl_alloc rfl _ rfl (by first | exact arrPcm | exact arrSpec | exact arrTail | exact arrWave | exact arrPair | exact arrRound) HM ?_); clear HM; intro g11 u11 HM) | (have hq : Hid (Mem _ [_, _, _, _, _, _, _, _, _, _, _] _) := HM; clear hq; (first | refine wl_box rfl _ _ rfl rfl HM ?_ | refine wl_alloc rfl _ rfl (by first | exact arrPcm | exact arrSpec | exact arrTail | exact arrWave | exact arrPair | exact arrRound) HM ?_); clear HM; intro g12 u12 HM)) | (refine wl_load rfl _ _ rfl rfl (by first | exact arrPcm | exact arrSpec | exact arrTail | exact arrWave | exact arrPair | exact arrRound) HM (by first | exact .head _ | exact .tail _ (.head _) | exact .tail _ (.tail _ (.head _)) | exact .tail _ (.tail _ (.tail _ (.head _))) | exact .tail _ (.tail _ (.tail _ (.tail _ (.head _)))) | exact .tail _ (.tail _ (.tail _ (.tail _ (.tail _ (.head _))))) | exact .tail _ (.tail _ (.tail _ (.tail _ (.tail _ (.tail _ (.head _)))))) | exact .tail _ (.tail _ (.tail _ (.tail _ (.tail _ (.tail _ (.tail _ (.head _))))))) | exact .tail _ (.tail _ (.tail _ (.tail _ (.tail _ (.tail _ (.tail _ (.tail _ (.head _)))))))) | exact .tail _ (.tail _ (.tail _ (.tail _ (.tail _ (.tail _ (.tail _ (.tail _ (.tail _ (.head _))))))))) | exact .tail _ (.tail _ (.tail _ (.tail _ (.tail _ (.tail _ (.tail _ (.tail _ (.tail _ (.tail _ (.head _)))))))))) | exact .tail _ (.tail _ (.tail _ (.tail _ (.tail _ (.tail _ (.tail _ (.tail _ (.tail _ (.tail _ (.tail _ (.head _)))))))))))) (by first | (with_reducible assumption) | (with_reducible exact Lib.hid (zr_length _)) | (with_reducible exact Lib.hid (tab_length _ _))) ?_) | (first | (refine wl_store rfl _ _ _ rfl rfl rfl (by first | exact arrPcm | exact arrSpec | exact arrTail | exact arrWave | exact arrPair | exact arrRound) HM 0 rfl (by first | (with_reducible assumption) | (with_reducible exact Lib.hid (zr_length _)) | (with_reducible exact Lib.hid (tab_length _ _))) (by first | (with_reducible assumption) | (with_reducible exact Lib.hid (zr_length _)) | (with_reducible exact Lib.hid (tab_length _ _))) ?_; clear HM; intro us HM; simp only [List.set_cons_zero] at HM) | (refine wl_store rfl _ _ _ rfl rfl rfl (by first | exact arrPcm | exact arrSpec | exact arrTail | exact arrWave | exact arrPair | exact arrRound) HM 1 rfl (by first | (with_reducible assumption) | (with_reducible exact Lib.hid (zr_length _)) | (with_reducible exact Lib.hid (tab_length _ _))) (by first | (with_reducible assumption) | (with_reducible exact Lib.hid (zr_length _)) | (with_reducible exact Lib.hid (tab_length _ _))) ?_; clear HM; intro us HM; simp only [List.set_cons_zero, List.set_cons_succ] at HM) | (refine wl_store rfl _ _ _ rfl rfl rfl (by first | exact arrPcm | exact arrSpec | exact arrTail | exact arrWave | exact arrPair | exact arrRound) HM 2 rfl (by first | (with_reducible assumption) | (with_reducible exact Lib.hid (zr_length _)) | (with_reducible exact Lib.hid (tab_length _ _))) (by first | (with_reducible assumption) | (with_reducible exact Lib.hid (zr_length _)) | (with_reducible exact Lib.hid (tab_length _ _))) ?_; clear HM; intro us HM; simp only [List.set_cons_zero, List.set_cons_succ] at HM) | (refine wl_store rfl _ _ _ rfl rfl rfl (by first | exact arrPcm | exact arrSpec | exact arrTail | exact arrWave | exact arrPair | exact arrRound) HM 3 rfl (by first | (with_reducible assumption) | (with_reducible exact Lib.hid (zr_length _)) | (with_reducible exact Lib.hid (tab_length _ _))) (by first | (with_reducible assumption) | (with_reducible exact Lib.hid (zr_length _)) | (with_reducible exact Lib.hid (tab_length _ _))) ?_; clear HM; intro us HM; simp only [List.set_cons_zero, List.set_cons_succ] at HM) | (refine wl_store rfl _ _ _ rfl rfl rfl (by first | exact arrPcm | exact arrSpec | exact arrTail | exact arrWave | exact arrPair | exact arrRound) HM 4 rfl (by first | (with_reducible assumption) | (with_reducible exact Lib.hid (zr_length _)) | (with_reducible exact Lib.hid (tab_length _ _))) (by first | (with_reducible assumption) | (with_reducible exact Lib.hid (zr_length _)) | (with_reducible exact Lib.hid (tab_length _ _))) ?_; clear HM; intro us HM; simp only [List.set_cons_zero, List.set_cons_succ] at HM) | (refine wl_store rfl _ _ _ rfl rfl rfl (by first | exact arrPcm | exact arrSpec | exact arrTail | exact arrWave | exact arrPair | exact arrRound) HM 5 rfl (by first | (with_reducible assumption) | (with_reducible exact Lib.hid (zr_length _)) | (with_reducible exact Lib.hid (tab_length _ _))) (by first | (with_reducible assumption) | (with_reducible exact Lib.hid (zr_length _)) | (with_reducible exact Lib.hid (tab_length _ _))) ?_; clear HM; intro us HM; simp only [List.set_cons_zero, List.set_cons_succ] at HM) | (refine wl_store rfl _ _ _ rfl rfl rfl (by first | exact arrPcm | exact arrSpec | exact arrTail | exact arrWave | exact arrPair | exact arrRound) HM 6 rfl (by first | (with_reducible assumption) | (with_reducible exact Lib.hid (zr_length _)) | (with_reducible exact Lib.hid (tab_length _ _))) (by first | (with_reducible assumption) | (with_reducible exact Lib.hid (zr_length _)) | (with_reducible exact Lib.hid (tab_length _ _))) ?_; clear HM; intro us HM; simp only [List.set_cons_zero, List.set_cons_succ] at HM) | (refine wl_store rfl _ _ _ rfl rfl rfl (by first | exact arrPcm | exact arrSpec | exact arrTail | exact arrWave | exact arrPair | exact arrRound) HM 7 rfl (by first | (with_reducible assumption) | (with_reducible exact Lib.hid (zr_length _)) | (with_reducible exact Lib.hid (tab_length _ _))) (by first | (with_reducible assumption) | (with_reducible exact Lib.hid (zr_length _)) | (with_reducible exact Lib.hid (tab_length _ _))) ?_; clear HM; intro us HM; simp only [List.set_cons_zero, List.set_cons_succ] at HM)) | (refine wl_zero rfl _ rfl (by first | exact arrPcm | exact arrSpec | exact arrTail | exact arrWave | exact arrPair | exact arrRound) (by kernel_rfl) ?_))
    refine (within_any _ _ _ 16 16 p true _ (Lib.hid (HM.out.rd (.head _) HL.out)) (by unfold maxLen; omega) HB.out).mono ?_
    rintro e w2 ⟨rfl, rfl⟩
    go_wp2
    go_ret
    exact ⟨rfl, HM.out.1⟩
  | false =>
    obtain rfl : z = 1 := by rw [hz]; rfl
    clear hz
    go_enter Try.func21, Try.ntmps21
    go_wp2_with (first | (first | (have hq : Hid (Mem _ [] _) := HM; clear hq; (first | refine wl_box rfl _ _ rfl rfl HM ?_ | refine wl_alloc rfl _ rfl (by first | exact arrPcm | exact arrSpec | exact arrTail | exact arrWave | exact arrPair | exact arrRound) HM ?_); clear HM; intro g1 u1 HM) | (have hq : Hid (Mem _ [_] _) := HM; clear hq; (first | refine wl_box rfl _ _ rfl rfl HM ?_ | refine wl_alloc rfl _ rfl (by first | exact arrPcm | exact arrSpec | exact arrTail | exact arrWave | exact arrPair | exact arrRound) HM ?_); clear HM; intro g2 u2 HM) | (have hq : Hid (Mem _ [_, _] _) := HM; clear hq; (first | refine wl_box rfl _ _ rfl rfl HM ?_ | refine wl_alloc rfl _ rfl (by first | exact arrPcm | exact arrSpec | exact arrTail | exact arrWave | exact arrPair | exact arrRound) HM ?_); clear HM; intro g3 u3 HM) | (have hq : Hid (Mem _ [_, _, _] _) := HM; clear hq; (first | refine wl_box rfl _ _ rfl rfl HM ?_ | refine wl_alloc rfl _ rfl (by first | exact arrPcm | exact arrSpec | exact arrTail | exact arrWave | exact arrPair | exact arrRound) HM ?_); clear HM; intro g4 u4 HM) | (have hq : Hid (Mem _ [_, _, _, _] _) := HM; clear hq; (first | refine wl_box rfl _ _ rfl rfl HM ?_ | refine wl_alloc rfl _ rfl (by first | exact arrPcm | exact arrSpec | exact arrTail | exact arrWave | exact arrPair | exact arrRound) HM ?_); clear HM; intro g5 u5 HM) | (have hq : Hid (Mem _ [_, _, _, _, _] _) := HM; clear hq; (first | refine wl_box rfl _ _ rfl rfl HM ?_ | refine wl_alloc rfl _ rfl (by first | exact arrPcm | exact arrSpec | exact arrTail | exact arrWave | exact arrPair | exact arrRound) HM ?_); clear HM; intro g6 u6 HM) | (have hq : Hid (Mem _ [_, _, _, _, _, _] _) := HM; clear hq; (first | refine wl_box rfl _ _ rfl rfl HM ?_ | refine wl_alloc rfl _ rfl (by first | exact arrPcm | exact arrSpec | exact arrTail | exact arrWave | exact arrPair | exact arrRound) HM ?_); clear HM; intro g7 u7 HM) | (have hq : Hid (Mem _ [_, _, _, _, _, _, _] _) := HM; clear hq; (first | refine wl_box rfl _ _ rfl rfl HM ?_ | refine wl_alloc rfl _ rfl (by first | exact arrPcm | exact arrSpec | exact arrTail | exact arrWave | exact arrPair | exact arrRound) HM ?_); clear HM; intro g8 u8 HM) | (have hq : Hid (Mem _ [_, _, _, _, _, _, _, _] _) := HM; clear hq; (first | refine wl_box rfl _ _ rfl rfl HM ?_ | refine wl_alloc rfl _ rfl (by first | exact arrPcm | exact arrSpec | exact arrTail | exact arrWave | exact arrPair | exact arrRound) HM ?_); clear HM; intro g9 u9 HM) | (have hq : Hid (Mem _ [_, _, _, _, _, _, _, _, _] _) := HM; clear hq; (first | refine wl_box rfl _ _ rfl rfl HM ?_ | refine wl_alloc rfl _ rfl (by first | exact arrPcm | exact arrSpec | exact arrTail | exact arrWave | exact arrPair | exact arrRound) HM ?_); clear HM; intro g10 u10 HM) | (have hq : Hid (Mem _ [_, _, _, _, _, _, _, _, _, _] _) := HM; clear hq; (first | refine wl_box rfl _ _ rfl rfl HM ?_ | refine wl_alloc rfl _ rfl (by first | exact arrPcm | exact arrSpec | exact arrTail | exact arrWave | exact arrPair | exact arrRound) HM ?_); clear HM; intro g11 u11 HM) | (have hq : Hid (Mem _ [_, _, _, _, _, _, _, _, _, _, _] _) := HM; clear hq; (first | refine wl_box rfl _ _ rfl rfl HM ?_ | refine wl_alloc rfl _ rfl (by first | exact arrPcm | exact arrSpec | exact arrTail | exact arrWave | exact arrPair | exact arrRound) HM ?_); clear HM; intro g12 u12 HM)) | (refine wl_load rfl _ _ rfl rfl (by first | exact arrPcm | exact arrSpec | exact arrTail | exact arrWave | exact arrPair | exact arrRound) HM (by first | exact .head _ | exact .tail _ (.head _) | exact .tail _ (.tail _ (.head _)) | exact .tail _ (.tail _ (.tail _ (.head _))) | exact .tail _ (.tail _ (.tail _ (.tail _ (.head _)))) | exact .tail _ (.tail _ (.tail _ (.tail _ (.tail _ (.head _))))) | exact .tail _ (.tail _ (.tail _ (.tail _ (.tail _ (.tail _ (.head _)))))) | exact .tail _ (.tail _ (.tail _ (.tail _ (.tail _ (.tail _ (.tail _ (.head _))))))) | exact .tail _ (.tail _ (.tail _ (.tail _ (.tail _ (.tail _ (.tail _ (.tail _ (.head _)))))))) | exact .tail _ (.tail _ (.tail _ (.tail _ (.tail _ (.tail _ (.tail _ (.tail _ (.tail _ (.head _))))))))) | exact .tail _ (.tail _ (.tail _ (.tail _ (.tail _ (.tail _ (.tail _ (.tail _ (.tail _ (.tail _ (.head _)))))))))) | exact .tail _ (.tail _ (.tail _ (.tail _ (.tail _ (.tail _ (.tail _ (.tail _ (.tail _ (.tail _ (.tail _ (.head _)))))))))))) (by first | (with_reducible assumption) | (with_reducible exact Lib.hid (zr_length _)) | (with_reducible exact Lib.hid (tab_length _ _))) ?_) | (first | (refine wl_store rfl _ _ _ rfl rfl rfl (by first | exact arrPcm | exact arrSpec | exact arrTail | exact arrWave | exact arrPair | exact arrRound) HM 0 rfl (by first | (with_reducible assumption) | (with_reducible exact Lib.hid (zr_length _)) | (with_reducible exact Lib.hid (tab_length _ _))) (by first | (with_reducible assumption) | (with_reducible exact Lib.hid (zr_length _)) | (with_reducible exact Lib.hid (tab_length _ _))) ?_; clear HM; intro us HM; simp only [List.set_cons_zero] at HM) | (refine wl_store rfl _ _ _ rfl rfl rfl (by first | exact arrPcm | exact arrSpec | exact arrTail | exact arrWave | exact arrPair | exact arrRound) HM 1 rfl (by first | (with_reducible assumption) | (with_reducible exact Lib.hid (zr_length _)) | (with_reducible exact Lib.hid (tab_length _ _))) (by first | (with_reducible assumption) | (with_reducible exact Lib.hid (zr_length _)) | (with_reducible exact Lib.hid (tab_length _ _))) ?_; clear HM; intro us HM; simp only [List.set_cons_zero, List.set_cons_succ] at HM) | (refine wl_store rfl _ _ _ rfl rfl rfl (by first | exact arrPcm | exact arrSpec | exact arrTail | exact arrWave | exact arrPair | exact arrRound) HM 2 rfl (by first | (with_reducible assumption) | (with_reducible exact Lib.hid (zr_length _)) | (with_reducible exact Lib.hid (tab_length _ _))) (by first | (with_reducible assumption) | (with_reducible exact Lib.hid (zr_length _)) | (with_reducible exact Lib.hid (tab_length _ _))) ?_; clear HM; intro us HM; simp only [List.set_cons_zero, List.set_cons_succ] at HM) | (refine wl_store rfl _ _ _ rfl rfl rfl (by first | exact arrPcm | exact arrSpec | exact arrTail | exact arrWave | exact arrPair | exact arrRound) HM 3 rfl (by first | (with_reducible assumption) | (with_reducible exact Lib.hid (zr_length _)) | (with_reducible exact Lib.hid (tab_length _ _))) (by first | (with_reducible assumption) | (with_reducible exact Lib.hid (zr_length _)) | (with_reducible exact Lib.hid (tab_length _ _))) ?_; clear HM; intro us HM; simp only [List.set_cons_zero, List.set_cons_succ] at HM) | (refine wl_store rfl _ _ _ rfl rfl rfl (by first | exact arrPcm | exact arrSpec | exact arrTail | exact arrWave | exact arrPair | exact arrRound) HM 4 rfl (by first | (with_reducible assumption) | (with_reducible exact Lib.hid (zr_length _)) | (with_reducible exact Lib.hid (tab_length _ _))) (by first | (with_reducible assumption) | (with_reducible exact Lib.hid (zr_length _)) | (with_reducible exact Lib.hid (tab_length _ _))) ?_; clear HM; intro us HM; simp only [List.set_cons_zero, List.set_cons_succ] at HM) | (refine wl_store rfl _ _ _ rfl rfl rfl (by first | exact arrPcm | exact arrSpec | exact arrTail | exact arrWave | exact arrPair | exact arrRound) HM 5 rfl (by first | (with_reducible assumption) | (with_reducible exact Lib.hid (zr_length _)) | (with_reducible exact Lib.hid (tab_length _ _))) (by first | (with_reducible assumption) | (with_reducible exact Lib.hid (zr_length _)) | (with_reducible exact Lib.hid (tab_length _ _))) ?_; clear HM; intro us HM; simp only [List.set_cons_zero, List.set_cons_succ] at HM) | (refine wl_store rfl _ _ _ rfl rfl rfl (by first | exact arrPcm | exact arrSpec | exact arrTail | exact arrWave | exact arrPair | exact arrRound) HM 6 rfl (by first | (with_reducible assumption) | (with_reducible exact Lib.hid (zr_length _)) | (with_reducible exact Lib.hid (tab_length _ _))) (by first | (with_reducible assumption) | (with_reducible exact Lib.hid (zr_length _)) | (with_reducible exact Lib.hid (tab_length _ _))) ?_; clear HM; intro us HM; simp only [List.set_cons_zero, List.set_cons_succ] at HM) | (refine wl_store rfl _ _ _ rfl rfl rfl (by first | exact arrPcm | exact arrSpec | exact arrTail | exact arrWave | exact arrPair | exact arrRound) HM 7 rfl (by first | (with_reducible assumption) | (with_reducible exact Lib.hid (zr_length _)) | (with_reducible exact Lib.hid (tab_length _ _))) (by first | (with_reducible assumption) | (with_reducible exact Lib.hid (zr_length _)) | (with_reducible exact Lib.hid (tab_length _ _))) ?_; clear HM; intro us HM; simp only [List.set_cons_zero, List.set_cons_succ] at HM)) | (refine wl_zero rfl _ rfl (by first | exact arrPcm | exact arrSpec | exact arrTail | exact arrWave | exact arrPair | exact arrRound) (by kernel_rfl) ?_))
    refine (within_any _ _ _ 16 16 p false _ (Lib.hid (HM.out.rd (.head _) HL.out)) (by unfold maxLen; omega) HB.out).mono ?_
    rintro e w2 ⟨rfl, rfl⟩
    go_wp2
    go_ret
    exact ⟨rfl, HM.out.1⟩
theorem win_any (n : Nat) (z v : Int) (w : World) (hn : n < 32) (hz : z = (n : Int)) (hv : winP n = v) :
    Calls Try.prog 28 #[.int .i64 z] w fun e w' => e = .returned (.int .i64 v) ∧ Below w.heap.size w w' := by
  have HW := Lib.hid (window_any z)
  rw [show winT z = .tuple #[.int .i64 v, .int .i64 0] by
    unfold winT
    rw [if_pos ⟨by omega, by omega⟩, show pl (2 * z + 1) = 2 * n + 1 by unfold pl; omega]
    rw [← hv]; rfl] at HW
  clear hv hz
  go_enter Try.func28, Try.ntmps28
  go_wp2_with fail
  refine (HW.out _).mono ?_
  rintro e w2 ⟨rfl, h1⟩
  have H1 := Lib.hid h1
  clear h1
  go_wp2
  go_ret
  exact ⟨rfl, H1.out⟩
/-- a number's row -/
def rowP (k : Nat) : List Int := tab 32 (fun n => kerP n k)
theorem rowP_is (k : Nat) : rowI (k : Int) = rowP k := by
  unfold rowI rowP tab
  exact List.map_congr_left fun n _ => kerP_is n k
def RowQ2 (w : World) (xs : List Int) (e : Ending) (w' : World) : Prop := ∃ r, e = .returned (.tuple #[.slice (some ⟨r, 0, none⟩) 32 32, .int .i64 0]) ∧ w.heap.size ≤ r ∧ Blk w' r 3 (icells xs) ∧ Below w.heap.size w w'
set_option maxRecDepth 100000 in
set_option maxHeartbeats 2000000 in
theorem row_at (k : Int) (w : World) (h0 : 0 ≤ k) (h1 : k ≤ 15) : Calls Try.prog 38 #[.int .i64 k] w (RowQ2 w (rowI k)) := by
  have hmk : ∀ u : World, (Instr.makeSlice 43 (.int .i64 32) (.int .i64 32)).run Try.prog u = .ok (.slice (some ⟨u.heap.size, 0, none⟩) 32 32) (u.alloc (.cells (madeCells #[.int .i64 0] 32) 3)) := fun u =>
    run_make_row' (P := Try.prog) 43 3 (.int .i64 0) 8 Try.underlying43 info_intT rfl .i64 .i64 32 (by omega) (by omega) u
  go_enter Try.func38, Try.ntmps38
  go_wp2_with fail
  refine (isNumber_any k true _ (decide_eq_true ⟨h0, h1⟩)).mono ?_
  rintro e w1 ⟨rfl, rfl⟩
  go_wp2_with fail
  refine (newCircle_any _).mono ?_
  rintro e w1 ⟨rfl, hB, hb1⟩
  have HB := Lib.hid hB
  have HW := Lib.hid hb1
  clear hB hb1
  go_wp2_with fail
  have HS := Lib.hid (show RowS w1 w.heap.size w1.heap.size (rowK k 0) (w1.alloc (.cells (madeCells #[.int .i64 0] 32) 3)) from ⟨(Cs.fresh HB.out).below ((Below.refl w1.heap.size w1).alloc (Nat.le_refl _) _), by rw [rowK_none, ← icells_zero]; exact Blk.new _ _ _, HB.out.lt, Nat.le_refl _⟩)
  clear hmk
  generalize w1.alloc (.cells (madeCells #[.int .i64 0] 32) 3) = w2 at HS ⊢
  generalize w1.heap.size = r at HS ⊢
  obtain ⟨g, hg⟩ : ∃ g, g = w.heap.size := ⟨_, rfl⟩
  rw [← hg] at HS HB ⊢
  have HG := Lib.hid hg
  clear hg
  go_loopw [6, 14] (fun _ vi wr => ∃ j : Nat, j ≤ 32 ∧ vi = .int .i64 (j : Int) ∧ Hid (RowS w1 g r (rowK k j) wr)) (fun _ vi _ => 32 - (intOf vi).toNat)
  case atStart => exact ⟨0, by omega, rfl, HS⟩
  case round =>
    obtain ⟨j, hj, rfl, HR⟩ := hrel
    by_cases hlt : j < 32
    · obtain ⟨z, hz⟩ : ∃ z, phI (j : Int) k = z := ⟨_, rfl⟩
      have HZ := Lib.hid hz
      obtain ⟨q1, q2⟩ := pl_is z
      have HV := Lib.hid (show cosP (pl z) = kerI (j : Int) k by unfold kerI; rw [hz])
      generalize pl z = n at q1 q2 HV
      have HQ1 := Lib.hid q1
      have HQ2 := Lib.hid q2
      have hi := run_at0 (cosP n) (sinP n)
      clear hz q1 q2
      go_wp2_with fail
      refine (phase_any (j : Int) k z _ (by omega) (by omega) h0 h1 HZ.out).mono ?_
      rintro e w3 ⟨rfl, rfl⟩
      go_wp2_with fail
      refine (rounded_any g n z wr HQ1.out HQ2.out (Lib.hid HR.out.1.self)).mono ?_
      rintro e w3 ⟨rfl, hQ⟩
      obtain ⟨c1, c2⟩ := HR.out.1.next hQ
      have hb3 := HR.out.2.1.only c2 (by have := HR.out.2.2.1; omega)
      have HC3 := Lib.hid c1
      have HB3 := Lib.hid hb3
      have c0 := blk_at hb3 (i := j) (by rw [rowK_length]; exact hlt)
      have f0 := Blk.frozen hb3 j
      have j32 : (j : Int) < 32 := by omega
      have HP := Lib.hid (show RowS w1 g r (rowK k (j + 1)) (w3.setCell ⟨r, j, none⟩ (.int .i64 (cosP n))) from by
        refine ⟨?_, ?_, HR.out.2.2⟩
        · obtain ⟨kk, k1, k2, k3, k4⟩ := HC3.out
          exact ⟨kk, k1, k2, k3.far (p := ⟨r, j, none⟩) (by show g ≠ r; have := HR.out.2.2.1; omega) _, only_setCell k4 (p := ⟨r, j, none⟩) (.inr HR.out.2.2.2) _⟩
        · have := blk_put HB3.out j (cosP n)
          rwa [HV.out, rowK_set k j hlt, ← HV.out] at this)
      clear hQ c1 c2 hb3 HR
      go_wp2
      go_roundw
      case rel => exact ⟨j + 1, by omega, by go_num, HP⟩
      case measure => simp [intOf]; omega
    · obtain rfl : j = 32 := by omega
      rw [rowK_all] at HR
      go_wp2
      go_ret2
      exact ⟨r, rfl, (by have := HR.out.2.2.2; have := HW.out.size; have := HG.out; omega), HR.out.2.1, by rw [← HG.out]; have := HW.out; rw [← HG.out] at this; obtain ⟨kk, -, -, -, k4⟩ := HR.out.1; exact below_grown this k4 (Nat.le_refl _) (by have := HW.out.size; have := HG.out; omega)⟩
def RowPQ (w : World) (xs : List Int) (e : Ending) (w' : World) : Prop := ∃ r, e = .returned (.slice (some ⟨r, 0, none⟩) 32 32) ∧ w.heap.size ≤ r ∧ Blk w' r 3 (icells xs) ∧ Below w.heap.size w w'
theorem kernels_any (k : Nat) (z : Int) (w : World) (hk : k < 16) (hz : z = (k : Int)) :
    Calls Try.prog 34 #[.int .i64 z] w fun e w' => RowPQ w (rowP k) e w' := by
  have HW := Lib.hid (row_at z)
  rw [hz] at HW
  rw [rowP_is] at HW
  subst hz
  go_enter Try.func34, Try.ntmps34
  go_wp2_with fail
  refine (HW.out _ (by omega) (by omega)).mono ?_
  rintro e w2 ⟨r, rfl, hr, hB, h1⟩
  have HR := Lib.hid hr
  have H1 := Lib.hid h1
  have HB := Lib.hid hB
  clear h1 hB hr
  go_wp2
  go_ret
  exact ⟨r, rfl, HR.out, HB.out, H1.out⟩
end Go.Proofs.Ytplfcncibmgllaa.Lp
