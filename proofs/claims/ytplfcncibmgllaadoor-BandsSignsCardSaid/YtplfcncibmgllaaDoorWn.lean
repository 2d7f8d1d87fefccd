/-
  Own texts, laid together: Wn.
-/
import Derived.Test.YtplfcncibmgllaaDoorWc
/- Wn -/
namespace Go.Proofs.YtplfcncibmgllaaDoor.Lp
open Go.RowKit Go.Proofs.YtplfcncibmgllaaDoor.Fx Go.Proofs.YtplfcncibmgllaaDoor.Fq Go.Proofs.YtplfcncibmgllaaDoor.Tb
theorem wished_any (v m : Int) (w : World) (h1 : 0 ≤ v) (h2 : v ≤ 255) (h3 : 0 ≤ m) (h4 : m ≤ 255) :
    Calls Tryd.prog 27 #[.int .i64 v, .int .i64 m] w fun e w' => e = .returned (.int .i64 (wishI v m)) ∧ w = w' := by
  by_cases h : v ≤ m
  · have HV := Lib.hid (show wishI v m = 0 from if_pos h)
    go_enter Tryd.func27, Tryd.ntmps27
    go_wp2
    go_ret
    exact ⟨ri HV.out.symm, rfl⟩
  · have HV := Lib.hid (show wishI v m = min ((v - m + 8 - 1) / 8) 7 by
      unfold wishI; rw [if_neg h]; omega)
    have h5 : m < v := by omega
    clear h
    go_enter Tryd.func27, Tryd.ntmps27
    go_wp2
    go_ret
    exact ⟨ri HV.out.symm, rfl⟩
theorem costN_bd {a : List Int} (h : OkA a) : ∀ k, k ≤ 6 → 0 ≤ costN a k ∧ costN a k ≤ 112 * (k : Int)
  | 0, _ => by simp [costN, sumN]
  | k + 1, hk => by
    have ih := costN_bd h k (by omega)
    have hv := h.2 k (by omega)
    have he := edg_all k (by omega)
    have hm := mul_bd (x := a.getD k 0) (y := (edg (k + 1) : Int) - (edg k : Int)) (A := 7) (B := 16) (by omega) (by omega) (by omega) (by omega)
    have hp := Int.mul_nonneg hv.1 (show 0 ≤ (edg (k + 1) : Int) - (edg k : Int) by omega)
    unfold costN at ih ⊢
    rw [sumN_succ]
    omega
set_option maxRecDepth 100000 in
set_option maxHeartbeats 4000000 in
theorem cost_any (a : List Int) (w : World) (ha : OkA a) (he : Edg w) :
    Calls Tryd.prog 16 #[.agg (icells a)] w (ValQ w (.int .i64 (costL a))) := by
  have HA := Lib.hid ha
  have LA := Lib.hid ha.1
  have HE := Lib.hid he
  have HM := Lib.hid (Mem.start w)
  clear ha he
  go_enter Tryd.func16, Tryd.ntmps16
  go_wp2_with (first | (first | (have hq : Hid (Mem _ [] _) := HM; clear hq; (first | refine wl_box rfl _ _ rfl rfl HM ?_ | refine wl_alloc rfl _ rfl (by first | exact arrSpec | exact arrLev | exact arrAll) HM ?_); clear HM; intro g1 u1 HM) | (have hq : Hid (Mem _ [_] _) := HM; clear hq; (first | refine wl_box rfl _ _ rfl rfl HM ?_ | refine wl_alloc rfl _ rfl (by first | exact arrSpec | exact arrLev | exact arrAll) HM ?_); clear HM; intro g2 u2 HM) | (have hq : Hid (Mem _ [_, _] _) := HM; clear hq; (first | refine wl_box rfl _ _ rfl rfl HM ?_ | refine wl_alloc rfl _ rfl (by first | exact arrSpec | exact arrLev | exact arrAll) HM ?_); clear HM; intro g3 u3 HM) | (have hq : Hid (Mem _ [_, _, _] _) := HM; clear hq; (first | refine wl_box rfl _ _ rfl rfl HM ?_ | refine wl_alloc rfl _ rfl (by first | exact arrSpec | exact arrLev | exact arrAll) HM ?_); clear HM; intro g4 u4 HM) | (have hq : Hid (Mem _ [_, _, _, _] _) := HM; clear hq; (first | refine wl_box rfl _ _ rfl rfl HM ?_ | refine wl_alloc rfl _ rfl (by first | exact arrSpec | exact arrLev | exact arrAll) HM ?_); clear HM; intro g5 u5 HM) | (have hq : Hid (Mem _ [_, _, _, _, _] _) := HM; clear hq; (first | refine wl_box rfl _ _ rfl rfl HM ?_ | refine wl_alloc rfl _ rfl (by first | exact arrSpec | exact arrLev | exact arrAll) HM ?_); clear HM; intro g6 u6 HM) | (have hq : Hid (Mem _ [_, _, _, _, _, _] _) := HM; clear hq; (first | refine wl_box rfl _ _ rfl rfl HM ?_ | refine wl_alloc rfl _ rfl (by first | exact arrSpec | exact arrLev | exact arrAll) HM ?_); clear HM; intro g7 u7 HM) | (have hq : Hid (Mem _ [_, _, _, _, _, _, _] _) := HM; clear hq; (first | refine wl_box rfl _ _ rfl rfl HM ?_ | refine wl_alloc rfl _ rfl (by first | exact arrSpec | exact arrLev | exact arrAll) HM ?_); clear HM; intro g8 u8 HM) | (have hq : Hid (Mem _ [_, _, _, _, _, _, _, _] _) := HM; clear hq; (first | refine wl_box rfl _ _ rfl rfl HM ?_ | refine wl_alloc rfl _ rfl (by first | exact arrSpec | exact arrLev | exact arrAll) HM ?_); clear HM; intro g9 u9 HM) | (have hq : Hid (Mem _ [_, _, _, _, _, _, _, _, _] _) := HM; clear hq; (first | refine wl_box rfl _ _ rfl rfl HM ?_ | refine wl_alloc rfl _ rfl (by first | exact arrSpec | exact arrLev | exact arrAll) HM ?_); clear HM; intro g10 u10 HM) | (have hq : Hid (Mem _ [_, _, _, _, _, _, _, _, _, _] _) := HM; clear hq; (first | refine wl_box rfl _ _ rfl rfl HM ?_ | refine wl_alloc rfl _ rfl (by first | exact arrSpec | exact arrLev | exact arrAll) HM ?_); clear HM; intro g11 u11 HM) | (have hq : Hid (Mem _ [_, _, _, _, _, _, _, _, _, _, _] _) := HM; clear hq; (first | refine wl_box rfl _ _ rfl rfl HM ?_ | refine wl_alloc rfl _ rfl (by first | exact arrSpec | exact arrLev | exact arrAll) HM ?_); clear HM; intro g12 u12 HM)) | (refine wl_load rfl _ _ rfl rfl (by first | exact arrSpec | exact arrLev | exact arrAll) HM (by first | exact .head _ | exact .tail _ (.head _) | exact .tail _ (.tail _ (.head _)) | exact .tail _ (.tail _ (.tail _ (.head _))) | exact .tail _ (.tail _ (.tail _ (.tail _ (.head _)))) | exact .tail _ (.tail _ (.tail _ (.tail _ (.tail _ (.head _))))) | exact .tail _ (.tail _ (.tail _ (.tail _ (.tail _ (.tail _ (.head _)))))) | exact .tail _ (.tail _ (.tail _ (.tail _ (.tail _ (.tail _ (.tail _ (.head _))))))) | exact .tail _ (.tail _ (.tail _ (.tail _ (.tail _ (.tail _ (.tail _ (.tail _ (.head _)))))))) | exact .tail _ (.tail _ (.tail _ (.tail _ (.tail _ (.tail _ (.tail _ (.tail _ (.tail _ (.head _))))))))) | exact .tail _ (.tail _ (.tail _ (.tail _ (.tail _ (.tail _ (.tail _ (.tail _ (.tail _ (.tail _ (.head _)))))))))) | exact .tail _ (.tail _ (.tail _ (.tail _ (.tail _ (.tail _ (.tail _ (.tail _ (.tail _ (.tail _ (.tail _ (.head _)))))))))))) (by first | (with_reducible assumption) | (with_reducible exact Lib.hid (zr_length _)) | (with_reducible exact Lib.hid (tab_length _ _))) ?_) | (first | (refine wl_store rfl _ _ _ rfl rfl rfl (by first | exact arrSpec | exact arrLev | exact arrAll) HM 0 rfl (by first | (with_reducible assumption) | (with_reducible exact Lib.hid (zr_length _)) | (with_reducible exact Lib.hid (tab_length _ _))) (by first | (with_reducible assumption) | (with_reducible exact Lib.hid (zr_length _)) | (with_reducible exact Lib.hid (tab_length _ _))) ?_; clear HM; intro us HM; simp only [List.set_cons_zero] at HM) | (refine wl_store rfl _ _ _ rfl rfl rfl (by first | exact arrSpec | exact arrLev | exact arrAll) HM 1 rfl (by first | (with_reducible assumption) | (with_reducible exact Lib.hid (zr_length _)) | (with_reducible exact Lib.hid (tab_length _ _))) (by first | (with_reducible assumption) | (with_reducible exact Lib.hid (zr_length _)) | (with_reducible exact Lib.hid (tab_length _ _))) ?_; clear HM; intro us HM; simp only [List.set_cons_zero, List.set_cons_succ] at HM) | (refine wl_store rfl _ _ _ rfl rfl rfl (by first | exact arrSpec | exact arrLev | exact arrAll) HM 2 rfl (by first | (with_reducible assumption) | (with_reducible exact Lib.hid (zr_length _)) | (with_reducible exact Lib.hid (tab_length _ _))) (by first | (with_reducible assumption) | (with_reducible exact Lib.hid (zr_length _)) | (with_reducible exact Lib.hid (tab_length _ _))) ?_; clear HM; intro us HM; simp only [List.set_cons_zero, List.set_cons_succ] at HM) | (refine wl_store rfl _ _ _ rfl rfl rfl (by first | exact arrSpec | exact arrLev | exact arrAll) HM 3 rfl (by first | (with_reducible assumption) | (with_reducible exact Lib.hid (zr_length _)) | (with_reducible exact Lib.hid (tab_length _ _))) (by first | (with_reducible assumption) | (with_reducible exact Lib.hid (zr_length _)) | (with_reducible exact Lib.hid (tab_length _ _))) ?_; clear HM; intro us HM; simp only [List.set_cons_zero, List.set_cons_succ] at HM) | (refine wl_store rfl _ _ _ rfl rfl rfl (by first | exact arrSpec | exact arrLev | exact arrAll) HM 4 rfl (by first | (with_reducible assumption) | (with_reducible exact Lib.hid (zr_length _)) | (with_reducible exact Lib.hid (tab_length _ _))) (by first | (with_reducible assumption) | (with_reducible exact Lib.hid (zr_length _)) | (with_reducible exact Lib.hid (tab_length _ _))) ?_; clear HM; intro us HM; simp only [List.set_cons_zero, List.set_cons_succ] at HM) | (refine wl_store rfl _ _ _ rfl rfl rfl (by first | exact arrSpec | exact arrLev | exact arrAll) HM 5 rfl (by first | (with_reducible assumption) | (with_reducible exact Lib.hid (zr_length _)) | (with_reducible exact Lib.hid (tab_length _ _))) (by first | (with_reducible assumption) | (with_reducible exact Lib.hid (zr_length _)) | (with_reducible exact Lib.hid (tab_length _ _))) ?_; clear HM; intro us HM; simp only [List.set_cons_zero, List.set_cons_succ] at HM) | (refine wl_store rfl _ _ _ rfl rfl rfl (by first | exact arrSpec | exact arrLev | exact arrAll) HM 6 rfl (by first | (with_reducible assumption) | (with_reducible exact Lib.hid (zr_length _)) | (with_reducible exact Lib.hid (tab_length _ _))) (by first | (with_reducible assumption) | (with_reducible exact Lib.hid (zr_length _)) | (with_reducible exact Lib.hid (tab_length _ _))) ?_; clear HM; intro us HM; simp only [List.set_cons_zero, List.set_cons_succ] at HM) | (refine wl_store rfl _ _ _ rfl rfl rfl (by first | exact arrSpec | exact arrLev | exact arrAll) HM 7 rfl (by first | (with_reducible assumption) | (with_reducible exact Lib.hid (zr_length _)) | (with_reducible exact Lib.hid (tab_length _ _))) (by first | (with_reducible assumption) | (with_reducible exact Lib.hid (zr_length _)) | (with_reducible exact Lib.hid (tab_length _ _))) ?_; clear HM; intro us HM; simp only [List.set_cons_zero, List.set_cons_succ] at HM)) | (refine wl_zero rfl _ rfl (by first | exact arrSpec | exact arrLev | exact arrAll) (by kernel_rfl) ?_))
  go_loopw [3, 7] (fun vs vi wr => ∃ k : Nat, k ≤ 6 ∧ vi = .int .i64 (k : Int) ∧ vs = .int .i64 (costN a k) ∧ Hid (Mem w [(g1, 31, a)] wr)) (fun _ vi _ => 6 - (intOf vi).toNat)
  case atStart => exact ⟨0, by omega, rfl, rfl, HM⟩
  case round =>
    clear HM
    obtain ⟨k, hk, rfl, rfl, HM⟩ := hrel
    by_cases hlt : k < 6
    · have k6 : (k : Int) < 6 := by omega
      have hix := run_index 31 (n := 6) (by kernel_rfl) a LA.out k hlt
      obtain ⟨c1, c2⟩ := (HE.out.mem HM.out).cells hlt
      have hb := costN_bd HA.out k hk
      have hb2 := costN_bd HA.out (k + 1) (by omega)
      have hv := HA.out.2 k hlt
      have hed := edg_all k hlt
      have HS := Lib.hid (show costN a (k + 1) = costN a k + a.getD k 0 * ((edg (k + 1) : Int) - (edg k : Int)) from sumN_succ _ _)
      rw [HS.out] at hb2
      have hm := mul_bd (x := a.getD k 0) (y := (edg (k + 1) : Int) - (edg k : Int)) (A := 7) (B := 16) (by omega) (by omega) (by omega) (by omega)
      generalize costN a k = S at hb hb2 HS
      generalize a.getD k 0 = v at hix hv HS hb2 hm
      generalize edg k = lo at c1 hed HS hb2 hm
      generalize edg (k + 1) = hi at c2 hed HS hb2 hm
      obtain ⟨d, hd⟩ : ∃ d : Int, (hi : Int) - (lo : Int) = d := ⟨_, rfl⟩
      rw [hd] at HS hb2 hm
      have e1 : IntKind.i64.wrap ((k : Int) + 1) = (k : Int) + 1 := IntWalk.i64_in _ (by omega)
      have e2 : IntKind.i64.wrap ((hi : Int) - (lo : Int)) = d := by rw [hd]; exact IntWalk.i64_in _ (by omega)
      have e3 : IntKind.i64.wrap (v * d) = v * d := IntWalk.i64_in _ (by omega)
      have e4 : IntKind.i64.wrap (S + v * d) = S + v * d := IntWalk.i64_in _ (by omega)
      have e5 : ((k : Int) + 1).toNat = k + 1 := by omega
      have e6 : 0 ≤ (k : Int) + 1 := by omega
      have e7 : (k : Int) + 1 < 7 := by omega
      clear hd hb hb2 hv hm hed
      go_wp2_with fail
      go_quiet (fail)
      have HM2 := Lib.hid (HM.out.drewN nq)
      clear HM c1 c2 e1 e2 e3 e4 e5 e6 e7
      go_wp2
      go_roundw
      case rel => exact ⟨k + 1, by omega, by go_num, by rw [HS.out], HM2⟩
      case measure => simp [intOf]; omega
    · obtain rfl : k = 6 := by omega
      go_wp2
      go_ret
      exact ⟨rfl, HM.out.1⟩
/-- the band that has a number -/
def bnd (n : Nat) : Nat := if n < 1 then 0 else if n < 2 then 1 else if n < 4 then 2 else if n < 6 then 3 else if n < 10 then 4 else 5
theorem bnd_all : ∀ n, n < 16 → bnd n < 6 ∧ edg (bnd n) ≤ n ∧ n < edg (bnd n + 1) ∧ ∀ k, k < 6 → (k < bnd n → edg k ≤ n ∧ edg (k + 1) ≤ n) := by decide
theorem bnd_iff : ∀ n, n < 16 → ∀ b, b < 6 → (bnd n = b ↔ edg b ≤ n ∧ n < edg (b + 1)) := by decide
set_option maxRecDepth 100000 in
set_option maxHeartbeats 4000000 in
theorem of_good (n : Nat) (w : World) (hn : n < 16) (he : Edg w) :
    Calls Tryd.prog 17 #[.int .i64 (n : Int)] w fun e w' => e = .returned (.tuple #[.int .i64 (bnd n : Int), .int .i64 0]) ∧ w = w' := by
  have HE := Lib.hid he
  obtain ⟨b1, b2, b3, b4⟩ := bnd_all n hn
  have B4 := Lib.hid b4
  obtain ⟨m, hm⟩ : ∃ m, bnd n = m := ⟨_, rfl⟩
  rw [hm] at b1 b2 b3 B4
  rw [hm]
  clear he b4 hm
  go_enter Tryd.func17, Tryd.ntmps17
  go_wp2_with fail
  go_loop [5] (fun vi => ∃ k : Nat, k ≤ m ∧ vi = .int .i64 (k : Int)) (fun vi => 6 - (intOf vi).toNat)
  case atStart => exact ⟨0, by omega, rfl⟩
  case round =>
    obtain ⟨k, hk, rfl⟩ := hrel
    have k6 : (k : Int) < 6 := by omega
    have k7 : (k : Int) + 1 < 7 := by omega
    obtain ⟨c1, c2⟩ := HE.out.cells (show k < 6 by omega)
    by_cases hlt : k < m
    · obtain ⟨l1, l2⟩ := B4.out k (by omega) hlt
      generalize edg k = lo at c1 l1
      generalize edg (k + 1) = hi at c2 l2
      have g1 : (lo : Int) ≤ (n : Int) := by omega
      have g2 : (hi : Int) ≤ (n : Int) := by omega
      go_wp2
      go_round
      case rel => exact ⟨k + 1, by omega, by go_num⟩
      case measure => simp [intOf]; omega
    · obtain rfl : k = m := by omega
      generalize edg k = lo at c1 b2
      generalize edg (k + 1) = hi at c2 b3
      have g1 : (lo : Int) ≤ (n : Int) := by omega
      have g2 : (n : Int) < (hi : Int) := by omega
      go_wp2
      go_ret2
      exact ⟨rfl, rfl⟩
set_option maxRecDepth 100000 in
set_option maxHeartbeats 4000000 in
theorem edge_good (b : Nat) (w : World) (hb : b < 6) (he : Edg w) :
    Calls Tryd.prog 19 #[.int .i64 (b : Int)] w (ValQ w (.tuple #[.int .i64 (edg b : Int), .int .i64 (edg (b + 1) : Int), .int .i64 0])) := by
  obtain ⟨c1, c2⟩ := he.cells hb
  have hed := edg_all b hb
  generalize edg b = lo at c1 hed ⊢
  generalize edg (b + 1) = hi at c2 hed ⊢
  have e1 : IntKind.i64.wrap ((b : Int) + 1) = (b : Int) + 1 := IntWalk.i64_in _ (by omega)
  have e5 : ((b : Int) + 1).toNat = b + 1 := by omega
  have e6 : 0 ≤ (b : Int) + 1 := by omega
  have e7 : (b : Int) + 1 < 7 := by omega
  have b6 : (b : Int) < 6 := by omega
  have HM := Lib.hid (Mem.start w)
  clear he hed
  go_enter Tryd.func19, Tryd.ntmps19
  go_wp2_with fail
  go_quiet (fail)
  go_wp2
  go_ret3
  exact ⟨rfl, (HM.out.drewN nq).1⟩
end Go.Proofs.YtplfcncibmgllaaDoor.Lp
