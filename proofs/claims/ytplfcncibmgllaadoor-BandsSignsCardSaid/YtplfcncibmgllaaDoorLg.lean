/-
  Own texts, laid together: Lg.
-/
import Derived.Test.YtplfcncibmgllaaDoorLf
/- Lg -/
namespace Go.Proofs.YtplfcncibmgllaaDoor.Lp
open Go.RowKit Go.Proofs.YtplfcncibmgllaaDoor.Fx Go.Proofs.YtplfcncibmgllaaDoor.Fq Go.Proofs.YtplfcncibmgllaaDoor.Tb
set_option maxRecDepth 100000 in
set_option maxHeartbeats 4000000 in
theorem energy_any (x : List Int) (w : World) (lx : x.length = 16) :
    Calls Tryd.prog 20 #[.agg (icells x)] w (ValQ w (.int .u64 (eng x))) := by
  have LX := Lib.hid lx
  have HM := Lib.hid (Mem.start w)
  cases h : okX x with
  | false =>
    have HC := Lib.hid (fun u => areNumbers_any x false u lx h)
    have HV := Lib.hid (show eng x = 0 by unfold eng; rw [h]; rfl)
    clear lx h
    go_enter Tryd.func20, Tryd.ntmps20
    go_wp2_with (first | (first | (have hq : Hid (Mem _ [] _) := HM; clear hq; (first | refine wl_box rfl _ _ rfl rfl HM ?_ | refine wl_alloc rfl _ rfl (by first | exact arrSpec | exact arrLev | exact arrAll) HM ?_); clear HM; intro g1 u1 HM) | (have hq : Hid (Mem _ [_] _) := HM; clear hq; (first | refine wl_box rfl _ _ rfl rfl HM ?_ | refine wl_alloc rfl _ rfl (by first | exact arrSpec | exact arrLev | exact arrAll) HM ?_); clear HM; intro g2 u2 HM) | (have hq : Hid (Mem _ [_, _] _) := HM; clear hq; (first | refine wl_box rfl _ _ rfl rfl HM ?_ | refine wl_alloc rfl _ rfl (by first | exact arrSpec | exact arrLev | exact arrAll) HM ?_); clear HM; intro g3 u3 HM) | (have hq : Hid (Mem _ [_, _, _] _) := HM; clear hq; (first | refine wl_box rfl _ _ rfl rfl HM ?_ | refine wl_alloc rfl _ rfl (by first | exact arrSpec | exact arrLev | exact arrAll) HM ?_); clear HM; intro g4 u4 HM) | (have hq : Hid (Mem _ [_, _, _, _] _) := HM; clear hq; (first | refine wl_box rfl _ _ rfl rfl HM ?_ | refine wl_alloc rfl _ rfl (by first | exact arrSpec | exact arrLev | exact arrAll) HM ?_); clear HM; intro g5 u5 HM) | (have hq : Hid (Mem _ [_, _, _, _, _] _) := HM; clear hq; (first | refine wl_box rfl _ _ rfl rfl HM ?_ | refine wl_alloc rfl _ rfl (by first | exact arrSpec | exact arrLev | exact arrAll) HM ?_); clear HM; intro g6 u6 HM) | (have hq : Hid (Mem _ [_, _, _, _, _, _] _) := HM; clear hq; (first | refine wl_box rfl _ _ rfl rfl HM ?_ | refine wl_alloc rfl _ rfl (by first | exact arrSpec | exact arrLev | exact arrAll) HM ?_); clear HM; intro g7 u7 HM) | (have hq : Hid (Mem _ [_, _, _, _, _, _, _] _) := HM; clear hq; (first | refine wl_box rfl _ _ rfl rfl HM ?_ | refine wl_alloc rfl _ rfl (by first | exact arrSpec | exact arrLev | exact arrAll) HM ?_); clear HM; intro g8 u8 HM) | (have hq : Hid (Mem _ [_, _, _, _, _, _, _, _] _) := HM; clear hq; (first | refine wl_box rfl _ _ rfl rfl HM ?_ | refine wl_alloc rfl _ rfl (by first | exact arrSpec | exact arrLev | exact arrAll) HM ?_); clear HM; intro g9 u9 HM) | (have hq : Hid (Mem _ [_, _, _, _, _, _, _, _, _] _) := HM; clear hq; (first | refine wl_box rfl _ _ rfl rfl HM ?_ | refine wl_alloc rfl _ rfl (by first | exact arrSpec | exact arrLev | exact arrAll) HM ?_); clear HM; intro g10 u10 HM) | (have hq : Hid (Mem _ [_, _, _, _, _, _, _, _, _, _] _) := HM; clear hq; (first | refine wl_box rfl _ _ rfl rfl HM ?_ | refine wl_alloc rfl _ rfl (by first | exact arrSpec | exact arrLev | exact arrAll) HM ?_); clear HM; intro g11 u11 HM) | (have hq : Hid (Mem _ [_, _, _, _, _, _, _, _, _, _, _] _) := HM; clear hq; (first | refine wl_box rfl _ _ rfl rfl HM ?_ | refine wl_alloc rfl _ rfl (by first | exact arrSpec | exact arrLev | exact arrAll) HM ?_); clear HM; intro g12 u12 HM)) | (refine wl_load rfl _ _ rfl rfl (by first | exact arrSpec | exact arrLev | exact arrAll) HM (by first | exact .head _ | exact .tail _ (.head _) | exact .tail _ (.tail _ (.head _)) | exact .tail _ (.tail _ (.tail _ (.head _))) | exact .tail _ (.tail _ (.tail _ (.tail _ (.head _)))) | exact .tail _ (.tail _ (.tail _ (.tail _ (.tail _ (.head _))))) | exact .tail _ (.tail _ (.tail _ (.tail _ (.tail _ (.tail _ (.head _)))))) | exact .tail _ (.tail _ (.tail _ (.tail _ (.tail _ (.tail _ (.tail _ (.head _))))))) | exact .tail _ (.tail _ (.tail _ (.tail _ (.tail _ (.tail _ (.tail _ (.tail _ (.head _)))))))) | exact .tail _ (.tail _ (.tail _ (.tail _ (.tail _ (.tail _ (.tail _ (.tail _ (.tail _ (.head _))))))))) | exact .tail _ (.tail _ (.tail _ (.tail _ (.tail _ (.tail _ (.tail _ (.tail _ (.tail _ (.tail _ (.head _)))))))))) | exact .tail _ (.tail _ (.tail _ (.tail _ (.tail _ (.tail _ (.tail _ (.tail _ (.tail _ (.tail _ (.tail _ (.head _)))))))))))) (by first | (with_reducible assumption) | (with_reducible exact Lib.hid (zr_length _)) | (with_reducible exact Lib.hid (tab_length _ _))) ?_) | (first | (refine wl_store rfl _ _ _ rfl rfl rfl (by first | exact arrSpec | exact arrLev | exact arrAll) HM 0 rfl (by first | (with_reducible assumption) | (with_reducible exact Lib.hid (zr_length _)) | (with_reducible exact Lib.hid (tab_length _ _))) (by first | (with_reducible assumption) | (with_reducible exact Lib.hid (zr_length _)) | (with_reducible exact Lib.hid (tab_length _ _))) ?_; clear HM; intro us HM; simp only [List.set_cons_zero] at HM) | (refine wl_store rfl _ _ _ rfl rfl rfl (by first | exact arrSpec | exact arrLev | exact arrAll) HM 1 rfl (by first | (with_reducible assumption) | (with_reducible exact Lib.hid (zr_length _)) | (with_reducible exact Lib.hid (tab_length _ _))) (by first | (with_reducible assumption) | (with_reducible exact Lib.hid (zr_length _)) | (with_reducible exact Lib.hid (tab_length _ _))) ?_; clear HM; intro us HM; simp only [List.set_cons_zero, List.set_cons_succ] at HM) | (refine wl_store rfl _ _ _ rfl rfl rfl (by first | exact arrSpec | exact arrLev | exact arrAll) HM 2 rfl (by first | (with_reducible assumption) | (with_reducible exact Lib.hid (zr_length _)) | (with_reducible exact Lib.hid (tab_length _ _))) (by first | (with_reducible assumption) | (with_reducible exact Lib.hid (zr_length _)) | (with_reducible exact Lib.hid (tab_length _ _))) ?_; clear HM; intro us HM; simp only [List.set_cons_zero, List.set_cons_succ] at HM) | (refine wl_store rfl _ _ _ rfl rfl rfl (by first | exact arrSpec | exact arrLev | exact arrAll) HM 3 rfl (by first | (with_reducible assumption) | (with_reducible exact Lib.hid (zr_length _)) | (with_reducible exact Lib.hid (tab_length _ _))) (by first | (with_reducible assumption) | (with_reducible exact Lib.hid (zr_length _)) | (with_reducible exact Lib.hid (tab_length _ _))) ?_; clear HM; intro us HM; simp only [List.set_cons_zero, List.set_cons_succ] at HM) | (refine wl_store rfl _ _ _ rfl rfl rfl (by first | exact arrSpec | exact arrLev | exact arrAll) HM 4 rfl (by first | (with_reducible assumption) | (with_reducible exact Lib.hid (zr_length _)) | (with_reducible exact Lib.hid (tab_length _ _))) (by first | (with_reducible assumption) | (with_reducible exact Lib.hid (zr_length _)) | (with_reducible exact Lib.hid (tab_length _ _))) ?_; clear HM; intro us HM; simp only [List.set_cons_zero, List.set_cons_succ] at HM) | (refine wl_store rfl _ _ _ rfl rfl rfl (by first | exact arrSpec | exact arrLev | exact arrAll) HM 5 rfl (by first | (with_reducible assumption) | (with_reducible exact Lib.hid (zr_length _)) | (with_reducible exact Lib.hid (tab_length _ _))) (by first | (with_reducible assumption) | (with_reducible exact Lib.hid (zr_length _)) | (with_reducible exact Lib.hid (tab_length _ _))) ?_; clear HM; intro us HM; simp only [List.set_cons_zero, List.set_cons_succ] at HM) | (refine wl_store rfl _ _ _ rfl rfl rfl (by first | exact arrSpec | exact arrLev | exact arrAll) HM 6 rfl (by first | (with_reducible assumption) | (with_reducible exact Lib.hid (zr_length _)) | (with_reducible exact Lib.hid (tab_length _ _))) (by first | (with_reducible assumption) | (with_reducible exact Lib.hid (zr_length _)) | (with_reducible exact Lib.hid (tab_length _ _))) ?_; clear HM; intro us HM; simp only [List.set_cons_zero, List.set_cons_succ] at HM) | (refine wl_store rfl _ _ _ rfl rfl rfl (by first | exact arrSpec | exact arrLev | exact arrAll) HM 7 rfl (by first | (with_reducible assumption) | (with_reducible exact Lib.hid (zr_length _)) | (with_reducible exact Lib.hid (tab_length _ _))) (by first | (with_reducible assumption) | (with_reducible exact Lib.hid (zr_length _)) | (with_reducible exact Lib.hid (tab_length _ _))) ?_; clear HM; intro us HM; simp only [List.set_cons_zero, List.set_cons_succ] at HM)) | (refine wl_zero rfl _ rfl (by first | exact arrSpec | exact arrLev | exact arrAll) (by kernel_rfl) ?_))
    refine (HC.out _).mono ?_
    rintro e w2 ⟨rfl, h1⟩
    have HM2 := Lib.hid (HM.out.below h1)
    clear h1 HM HC
    go_wp2
    go_ret
    exact ⟨by rw [HV.out]; rfl, HM2.out.1⟩
  | true =>
    have HC := Lib.hid (fun u => areNumbers_any x true u lx h)
    have HX := Lib.hid h
    have HV := Lib.hid (show eng x = sumN (fun k => x.getD k 0 * x.getD k 0) 16 by unfold eng; rw [if_pos h])
    clear lx h
    go_enter Tryd.func20, Tryd.ntmps20
    go_wp2_with (first | (first | (have hq : Hid (Mem _ [] _) := HM; clear hq; (first | refine wl_box rfl _ _ rfl rfl HM ?_ | refine wl_alloc rfl _ rfl (by first | exact arrSpec | exact arrLev | exact arrAll) HM ?_); clear HM; intro g1 u1 HM) | (have hq : Hid (Mem _ [_] _) := HM; clear hq; (first | refine wl_box rfl _ _ rfl rfl HM ?_ | refine wl_alloc rfl _ rfl (by first | exact arrSpec | exact arrLev | exact arrAll) HM ?_); clear HM; intro g2 u2 HM) | (have hq : Hid (Mem _ [_, _] _) := HM; clear hq; (first | refine wl_box rfl _ _ rfl rfl HM ?_ | refine wl_alloc rfl _ rfl (by first | exact arrSpec | exact arrLev | exact arrAll) HM ?_); clear HM; intro g3 u3 HM) | (have hq : Hid (Mem _ [_, _, _] _) := HM; clear hq; (first | refine wl_box rfl _ _ rfl rfl HM ?_ | refine wl_alloc rfl _ rfl (by first | exact arrSpec | exact arrLev | exact arrAll) HM ?_); clear HM; intro g4 u4 HM) | (have hq : Hid (Mem _ [_, _, _, _] _) := HM; clear hq; (first | refine wl_box rfl _ _ rfl rfl HM ?_ | refine wl_alloc rfl _ rfl (by first | exact arrSpec | exact arrLev | exact arrAll) HM ?_); clear HM; intro g5 u5 HM) | (have hq : Hid (Mem _ [_, _, _, _, _] _) := HM; clear hq; (first | refine wl_box rfl _ _ rfl rfl HM ?_ | refine wl_alloc rfl _ rfl (by first | exact arrSpec | exact arrLev | exact arrAll) HM ?_); clear HM; intro g6 u6 HM) | (have hq : Hid (Mem _ [_, _, _, _, _, _] _) := HM; clear hq; (first | refine wl_box rfl _ _ rfl rfl HM ?_ | refine wl_alloc rfl _ rfl (by first | exact arrSpec | exact arrLev | exact arrAll) HM ?_); clear HM; intro g7 u7 HM) | (have hq : Hid (Mem _ [_, _, _, _, _, _, _] _) := HM; clear hq; (first | refine wl_box rfl _ _ rfl rfl HM ?_ | refine wl_alloc rfl _ rfl (by first | exact arrSpec | exact arrLev | exact arrAll) HM ?_); clear HM; intro g8 u8 HM) | (have hq : Hid (Mem _ [_, _, _, _, _, _, _, _] _) := HM; clear hq; (first | refine wl_box rfl _ _ rfl rfl HM ?_ | refine wl_alloc rfl _ rfl (by first | exact arrSpec | exact arrLev | exact arrAll) HM ?_); clear HM; intro g9 u9 HM) | (have hq : Hid (Mem _ [_, _, _, _, _, _, _, _, _] _) := HM; clear hq; (first | refine wl_box rfl _ _ rfl rfl HM ?_ | refine wl_alloc rfl _ rfl (by first | exact arrSpec | exact arrLev | exact arrAll) HM ?_); clear HM; intro g10 u10 HM) | (have hq : Hid (Mem _ [_, _, _, _, _, _, _, _, _, _] _) := HM; clear hq; (first | refine wl_box rfl _ _ rfl rfl HM ?_ | refine wl_alloc rfl _ rfl (by first | exact arrSpec | exact arrLev | exact arrAll) HM ?_); clear HM; intro g11 u11 HM) | (have hq : Hid (Mem _ [_, _, _, _, _, _, _, _, _, _, _] _) := HM; clear hq; (first | refine wl_box rfl _ _ rfl rfl HM ?_ | refine wl_alloc rfl _ rfl (by first | exact arrSpec | exact arrLev | exact arrAll) HM ?_); clear HM; intro g12 u12 HM)) | (refine wl_load rfl _ _ rfl rfl (by first | exact arrSpec | exact arrLev | exact arrAll) HM (by first | exact .head _ | exact .tail _ (.head _) | exact .tail _ (.tail _ (.head _)) | exact .tail _ (.tail _ (.tail _ (.head _))) | exact .tail _ (.tail _ (.tail _ (.tail _ (.head _)))) | exact .tail _ (.tail _ (.tail _ (.tail _ (.tail _ (.head _))))) | exact .tail _ (.tail _ (.tail _ (.tail _ (.tail _ (.tail _ (.head _)))))) | exact .tail _ (.tail _ (.tail _ (.tail _ (.tail _ (.tail _ (.tail _ (.head _))))))) | exact .tail _ (.tail _ (.tail _ (.tail _ (.tail _ (.tail _ (.tail _ (.tail _ (.head _)))))))) | exact .tail _ (.tail _ (.tail _ (.tail _ (.tail _ (.tail _ (.tail _ (.tail _ (.tail _ (.head _))))))))) | exact .tail _ (.tail _ (.tail _ (.tail _ (.tail _ (.tail _ (.tail _ (.tail _ (.tail _ (.tail _ (.head _)))))))))) | exact .tail _ (.tail _ (.tail _ (.tail _ (.tail _ (.tail _ (.tail _ (.tail _ (.tail _ (.tail _ (.tail _ (.head _)))))))))))) (by first | (with_reducible assumption) | (with_reducible exact Lib.hid (zr_length _)) | (with_reducible exact Lib.hid (tab_length _ _))) ?_) | (first | (refine wl_store rfl _ _ _ rfl rfl rfl (by first | exact arrSpec | exact arrLev | exact arrAll) HM 0 rfl (by first | (with_reducible assumption) | (with_reducible exact Lib.hid (zr_length _)) | (with_reducible exact Lib.hid (tab_length _ _))) (by first | (with_reducible assumption) | (with_reducible exact Lib.hid (zr_length _)) | (with_reducible exact Lib.hid (tab_length _ _))) ?_; clear HM; intro us HM; simp only [List.set_cons_zero] at HM) | (refine wl_store rfl _ _ _ rfl rfl rfl (by first | exact arrSpec | exact arrLev | exact arrAll) HM 1 rfl (by first | (with_reducible assumption) | (with_reducible exact Lib.hid (zr_length _)) | (with_reducible exact Lib.hid (tab_length _ _))) (by first | (with_reducible assumption) | (with_reducible exact Lib.hid (zr_length _)) | (with_reducible exact Lib.hid (tab_length _ _))) ?_; clear HM; intro us HM; simp only [List.set_cons_zero, List.set_cons_succ] at HM) | (refine wl_store rfl _ _ _ rfl rfl rfl (by first | exact arrSpec | exact arrLev | exact arrAll) HM 2 rfl (by first | (with_reducible assumption) | (with_reducible exact Lib.hid (zr_length _)) | (with_reducible exact Lib.hid (tab_length _ _))) (by first | (with_reducible assumption) | (with_reducible exact Lib.hid (zr_length _)) | (with_reducible exact Lib.hid (tab_length _ _))) ?_; clear HM; intro us HM; simp only [List.set_cons_zero, List.set_cons_succ] at HM) | (refine wl_store rfl _ _ _ rfl rfl rfl (by first | exact arrSpec | exact arrLev | exact arrAll) HM 3 rfl (by first | (with_reducible assumption) | (with_reducible exact Lib.hid (zr_length _)) | (with_reducible exact Lib.hid (tab_length _ _))) (by first | (with_reducible assumption) | (with_reducible exact Lib.hid (zr_length _)) | (with_reducible exact Lib.hid (tab_length _ _))) ?_; clear HM; intro us HM; simp only [List.set_cons_zero, List.set_cons_succ] at HM) | (refine wl_store rfl _ _ _ rfl rfl rfl (by first | exact arrSpec | exact arrLev | exact arrAll) HM 4 rfl (by first | (with_reducible assumption) | (with_reducible exact Lib.hid (zr_length _)) | (with_reducible exact Lib.hid (tab_length _ _))) (by first | (with_reducible assumption) | (with_reducible exact Lib.hid (zr_length _)) | (with_reducible exact Lib.hid (tab_length _ _))) ?_; clear HM; intro us HM; simp only [List.set_cons_zero, List.set_cons_succ] at HM) | (refine wl_store rfl _ _ _ rfl rfl rfl (by first | exact arrSpec | exact arrLev | exact arrAll) HM 5 rfl (by first | (with_reducible assumption) | (with_reducible exact Lib.hid (zr_length _)) | (with_reducible exact Lib.hid (tab_length _ _))) (by first | (with_reducible assumption) | (with_reducible exact Lib.hid (zr_length _)) | (with_reducible exact Lib.hid (tab_length _ _))) ?_; clear HM; intro us HM; simp only [List.set_cons_zero, List.set_cons_succ] at HM) | (refine wl_store rfl _ _ _ rfl rfl rfl (by first | exact arrSpec | exact arrLev | exact arrAll) HM 6 rfl (by first | (with_reducible assumption) | (with_reducible exact Lib.hid (zr_length _)) | (with_reducible exact Lib.hid (tab_length _ _))) (by first | (with_reducible assumption) | (with_reducible exact Lib.hid (zr_length _)) | (with_reducible exact Lib.hid (tab_length _ _))) ?_; clear HM; intro us HM; simp only [List.set_cons_zero, List.set_cons_succ] at HM) | (refine wl_store rfl _ _ _ rfl rfl rfl (by first | exact arrSpec | exact arrLev | exact arrAll) HM 7 rfl (by first | (with_reducible assumption) | (with_reducible exact Lib.hid (zr_length _)) | (with_reducible exact Lib.hid (tab_length _ _))) (by first | (with_reducible assumption) | (with_reducible exact Lib.hid (zr_length _)) | (with_reducible exact Lib.hid (tab_length _ _))) ?_; clear HM; intro us HM; simp only [List.set_cons_zero, List.set_cons_succ] at HM)) | (refine wl_zero rfl _ rfl (by first | exact arrSpec | exact arrLev | exact arrAll) (by kernel_rfl) ?_))
    refine (HC.out _).mono ?_
    rintro e w2 ⟨rfl, h1⟩
    have HM2 := Lib.hid (HM.out.below h1)
    clear h1 HM HC
    have HM := HM2
    clear HM2
    go_wp2_with (refine wl_load rfl _ _ rfl rfl (by first | exact arrSpec | exact arrLev | exact arrAll) HM (by first | exact .head _ | exact .tail _ (.head _) | exact .tail _ (.tail _ (.head _)) | exact .tail _ (.tail _ (.tail _ (.head _))) | exact .tail _ (.tail _ (.tail _ (.tail _ (.head _)))) | exact .tail _ (.tail _ (.tail _ (.tail _ (.tail _ (.head _))))) | exact .tail _ (.tail _ (.tail _ (.tail _ (.tail _ (.tail _ (.head _)))))) | exact .tail _ (.tail _ (.tail _ (.tail _ (.tail _ (.tail _ (.tail _ (.head _))))))) | exact .tail _ (.tail _ (.tail _ (.tail _ (.tail _ (.tail _ (.tail _ (.tail _ (.head _)))))))) | exact .tail _ (.tail _ (.tail _ (.tail _ (.tail _ (.tail _ (.tail _ (.tail _ (.tail _ (.head _))))))))) | exact .tail _ (.tail _ (.tail _ (.tail _ (.tail _ (.tail _ (.tail _ (.tail _ (.tail _ (.tail _ (.head _)))))))))) | exact .tail _ (.tail _ (.tail _ (.tail _ (.tail _ (.tail _ (.tail _ (.tail _ (.tail _ (.tail _ (.tail _ (.head _)))))))))))) (by first | (with_reducible assumption) | (with_reducible exact Lib.hid (zr_length _)) | (with_reducible exact Lib.hid (tab_length _ _))) ?_)
    go_loop [3, 10] (fun vs vi => ∃ k : Nat, k ≤ 16 ∧ vi = .int .i64 (k : Int) ∧ vs = .int .u64 (sumN (fun k => x.getD k 0 * x.getD k 0) k)) (fun _ vi => 16 - (intOf vi).toNat)
    case atStart => exact ⟨0, by omega, rfl, rfl⟩
    case round =>
      obtain ⟨k, hk, rfl, rfl⟩ := hrel
      by_cases hlt : k < 16
      · have hix := run_index 23 (n := 16) (by kernel_rfl) x LX.out k hlt
        have t1 := eng_term HX.out k
        have t2 := eng_sum HX.out k (by omega)
        have t3 := eng_sum HX.out (k + 1) (by omega)
        rw [sumN_succ] at t3
        have HT := Lib.hid (show sumN (fun k => x.getD k 0 * x.getD k 0) (k + 1) = _ from sumN_succ _ _)
        generalize sumN (fun k => x.getD k 0 * x.getD k 0) k = S at t2 t3 HT ⊢
        obtain ⟨z, hz⟩ : ∃ z, x.getD k 0 = z := ⟨_, rfl⟩
        rw [hz] at hix t1 t3 HT
        have e1 : IntKind.i64.wrap (z * z) = z * z := i64_w (by omega) (by omega)
        have e2 : IntKind.u64.wrap (z * z) = z * z := IntWalk.u64_in _ (by omega)
        have e3 : IntKind.u64.wrap (S + z * z) = S + z * z := IntWalk.u64_in _ (by omega)
        have k16 : (k : Int) < 16 := by omega
        clear t1 t2 t3 hz
        go_wp2
        go_round
        case rel => exact ⟨k + 1, by omega, by go_num, by rw [HT.out]⟩
        case measure => simp [intOf]; omega
      · obtain rfl : k = 16 := by omega
        go_wp2
        go_ret
        exact ⟨by rw [HV.out]; rfl, HM.out.1⟩
/-- the cells of ints -/
def ic (xs : List Int) : List Value := xs.map fun x => Value.int .i64 x
theorem ic_length (xs : List Int) : (ic xs).length = xs.length := by rw [ic, List.length_map]
theorem ic_one (xs : List Int) : ∀ v ∈ ic xs, v.oneCell' = true := fun v hv => by
  rw [ic, List.mem_map] at hv
  obtain ⟨x, -, rfl⟩ := hv
  rfl
theorem ic_arr (xs : List Int) : (ic xs).toArray = icells xs := rfl
section
variable {w0 w : World} {L : List (Nat × TypeId × List Int)} {g n : Nat} {T : TypeId} {xs : List Int}
theorem Mem.range (h : Mem w0 L w) (hm : (g, T, xs) ∈ L) : w.rangeAt g 0 (ic xs) := fun j v hv => by
  rw [Nat.zero_add, (h.get hm).cell]
  rw [ic] at hv
  simpa [icells] using hv
theorem Mem.there (h : Mem w0 L w) (hm : (g, T, xs) ∈ L) (hl : xs.length = n) : w.there g 0 n := fun j hj => by
  rw [Nat.zero_add]
  refine ⟨?_, h.free hm j⟩
  rw [h.cell hm (by omega)]; rfl
theorem Mem.ne (h : Mem w0 L w) {i j : Nat} {a b : Nat × TypeId × List Int} (hi : L[i]? = some a) (hj : L[j]? = some b) (hij : i ≠ j) : a.1 ≠ b.1 := pw_ne h.2.2.2 hi hj hij
end
section
variable {ops : Array Oper} {o : Oper} {a : Act} {w w0 : World} {Q : Exit → Act → World → Prop} {K : Act → World → Prop} {L : List (Nat × TypeId × List Int)} {S : World → Prop}
/-- a load of a whole array in a region that draws: it may be taken first -/
theorem yi_load (hw : Region.wanted o (yielded ops a.tmps) = true) (T : TypeId) (x : Operand) (ho : o.op = .load T x) {g n : Nat} (hx : a.eval x = .pointer (some ⟨g, 0, none⟩)) (ha : Arr T n) {xs : List Int}
    (hS : ∀ u, S u → Mem w0 L u) (hin : (g, T, xs) ∈ L) (hl : Hid (xs.length = n)) : YieldsIf Tryd.prog ops S o (.agg (icells xs)) a :=
  .inl ⟨hw, fun u hu => by
    unfold execOp
    simp only [ho, hx, Instr.loadAt, Instr.sureAddr, Sem.run_bind, Sem.run_pure, Result.andThen_ok, run_load_mem ha (hS u hu) hin hl.out]⟩
/-- a load of one element -/
theorem yi_cell (hw : Region.wanted o (yielded ops a.tmps) = true) (x : Operand) (ho : o.op = .load 3 x) {ad : Addr} (hx : a.eval x = .pointer (some ad)) {v : Int}
    (hS : ∀ u, S u → u.cell? ad = some (.int .i64 v)) : YieldsIf Tryd.prog ops S o (.int .i64 v) a :=
  .inl ⟨hw, fun u hu => by
    have hg : (isAgg 3).run Tryd.prog u = .ok false u := by kernel_rfl
    unfold execOp
    simp only [ho, hx, Instr.loadAt, Instr.sureAddr, Sem.run_bind, Sem.run_pure, Result.andThen_ok, loadVar, hg, run_load, hS u hu, Bool.false_eq_true, if_false]⟩
/-- what needs no memory -/
theorem yi_free (hw : Region.wanted o (yielded ops a.tmps) = true) {v : Value} (h : ∀ u, (execOp a.eval o).run Tryd.prog u = .ok (.value v) u) : YieldsIf Tryd.prog ops S o v a := .inl ⟨hw, fun u _ => h u⟩
theorem wa_take {md : Region.Mode} {i d : Nat} {oi : Oper} {v : Value} {fuel : Nat} {listed : Array Bool} (hi : ops[i]? = some oi)
    (hs : Region.noSelect ops = true) (hf : Region.free md ops listed i = true) (hr : (Region.ready md ops listed).contains i = true)
    (hQ : ∀ c a w, Q (.panic c) (a.put oi.dst v) w → Q (.panic c) a w) (hy : YieldsIf Tryd.prog ops S oi v a) (hS : S w) (hd : oi.dst = some d)
    (h : wpAnyH Tryd.prog md ops Q S fuel (listed.setIfInBounds i true) (a.put (some d) v) w) : wpAnyH Tryd.prog md ops Q S (fuel + 1) listed a w :=
  wpAnyH_take hi hs hf hr hQ hy hS (by rw [hd]; exact h)
theorem ow_store (T : TypeId) (x y : Operand) (ho : o.op = .store T x y) {g n : Nat} (hx : a.eval x = .pointer (some ⟨g, 0, none⟩)) {ys : List Int} (hy : a.eval y = .agg (icells ys)) (ha : Arr T n) {xs : List Int}
    (hm : Hid (Mem w0 L w)) (i : Nat) (hi : L[i]? = some (g, T, xs)) (hl : Hid (xs.length = n)) (hl' : Hid (ys.length = n))
    (hd : o.dst = none) (h : ∀ w', Hid (Mem w0 (L.set i (g, T, ys)) w') → K (a.put none undef) w') : o.wp Tryd.prog a w K Q := by
  rw [← hd] at h
  have := h _ (Lib.hid (hm.out.row i hi ys))
  unfold Oper.wp execOp
  simp only [ho, hx, hy, Instr.storeAt, Instr.sureAddr, Sem.run_bind, Sem.run_pure, Result.andThen_ok, run_store_mem ha hm.out (List.mem_of_getElem? hi) hl.out hl'.out]
  exact this
end
theorem leftL_is {v : List Int} (lv : v.length = 32) : v.drop 16 = leftL v := by
  refine List.ext_getElem? fun i => ?_
  rw [List.getElem?_drop]
  unfold leftL
  by_cases h : i < 16
  · rw [tab_get _ h, get_of_lt (by omega)]
  · rw [List.getElem?_eq_none (by omega), List.getElem?_eq_none (by rw [tab_length]; omega)]
theorem lap_term {t v : List Int} (ht : okW t = true) (hv : okW v = true) (i : Nat) : -2199023255552 ≤ t.getD i 0 + v.getD i 0 ∧ t.getD i 0 + v.getD i 0 ≤ 2199023255552 := by
  have h1 := inR_bd ht (by omega) (by omega) i
  have h2 := inR_bd hv (by omega) (by omega) i
  omega
end Go.Proofs.YtplfcncibmgllaaDoor.Lp
