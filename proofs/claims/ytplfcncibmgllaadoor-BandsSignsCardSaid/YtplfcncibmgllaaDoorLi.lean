/-
  Own texts, laid together: Li.
-/
import Derived.Test.YtplfcncibmgllaaDoorLh
/- Li -/
namespace Go.Proofs.YtplfcncibmgllaaDoor.Lp
open Go.RowKit Go.Proofs.YtplfcncibmgllaaDoor.Fx Go.Proofs.YtplfcncibmgllaaDoor.Fq Go.Proofs.YtplfcncibmgllaaDoor.Tb
theorem rwithin_any (v B : Int) (b : Bool) (w : World) (hb : decide (-B ≤ v ∧ v ≤ B) = b) (h1 : 0 ≤ B := by omega) (h2 : B ≤ 1099511627776 := by omega) :
    Calls Tryd.prog 31 #[.int .i64 v, .int .i64 B] w fun e w' => e = .returned (.bool b) ∧ w = w' := by
  by_cases k1 : -B ≤ v
  · by_cases k2 : v ≤ B
    · obtain rfl : b = true := by rw [← hb]; exact decide_eq_true ⟨k1, k2⟩
      clear hb
      go_enter Tryd.func31, Tryd.ntmps31
      go_wp2
      go_ret
      exact ⟨rfl, rfl⟩
    · obtain rfl : b = false := by rw [← hb]; exact decide_eq_false (fun h => k2 h.2)
      clear hb
      have k3 : B < v := by omega
      go_enter Tryd.func31, Tryd.ntmps31
      go_wp2
      go_ret
      exact ⟨rfl, rfl⟩
  · obtain rfl : b = false := by rw [← hb]; exact decide_eq_false (fun h => k1 h.1)
    clear hb
    have k3 : v < -B := by omega
    go_enter Tryd.func31, Tryd.ntmps31
    go_wp2
    go_ret
    exact ⟨rfl, rfl⟩
set_option maxRecDepth 100000 in
set_option maxHeartbeats 4000000 in
theorem mayX_any (x : List Int) (b : Bool) (w : World) (lx : x.length = 16) (hb : okX x = b) :
    Calls Tryd.prog 18 #[.agg (icells x)] w fun e w' => e = .returned (.bool b) ∧ Below w.heap.size w w' := by
  have LX := Lib.hid lx
  have HI := Lib.hid (inR_iff (lo := -67108864) (hi := 67108864) lx)
  rw [show inR (-67108864) 67108864 x = b from hb] at HI
  have HM := Lib.hid (Mem.start w)
  clear lx hb
  go_enter Tryd.func18, Tryd.ntmps18
  go_wp2_with (first | (first | (have hq : Hid (Mem _ [] _) := HM; clear hq; (first | refine wl_box rfl _ _ rfl rfl HM ?_ | refine wl_alloc rfl _ rfl (by first | exact arrSpec | exact arrLev | exact arrAll) HM ?_); clear HM; intro g1 u1 HM) | (have hq : Hid (Mem _ [_] _) := HM; clear hq; (first | refine wl_box rfl _ _ rfl rfl HM ?_ | refine wl_alloc rfl _ rfl (by first | exact arrSpec | exact arrLev | exact arrAll) HM ?_); clear HM; intro g2 u2 HM) | (have hq : Hid (Mem _ [_, _] _) := HM; clear hq; (first | refine wl_box rfl _ _ rfl rfl HM ?_ | refine wl_alloc rfl _ rfl (by first | exact arrSpec | exact arrLev | exact arrAll) HM ?_); clear HM; intro g3 u3 HM) | (have hq : Hid (Mem _ [_, _, _] _) := HM; clear hq; (first | refine wl_box rfl _ _ rfl rfl HM ?_ | refine wl_alloc rfl _ rfl (by first | exact arrSpec | exact arrLev | exact arrAll) HM ?_); clear HM; intro g4 u4 HM) | (have hq : Hid (Mem _ [_, _, _, _] _) := HM; clear hq; (first | refine wl_box rfl _ _ rfl rfl HM ?_ | refine wl_alloc rfl _ rfl (by first | exact arrSpec | exact arrLev | exact arrAll) HM ?_); clear HM; intro g5 u5 HM) | (have hq : Hid (Mem _ [_, _, _, _, _] _) := HM; clear hq; (first | refine wl_box rfl _ _ rfl rfl HM ?_ | refine wl_alloc rfl _ rfl (by first | exact arrSpec | exact arrLev | exact arrAll) HM ?_); clear HM; intro g6 u6 HM) | (have hq : Hid (Mem _ [_, _, _, _, _, _] _) := HM; clear hq; (first | refine wl_box rfl _ _ rfl rfl HM ?_ | refine wl_alloc rfl _ rfl (by first | exact arrSpec | exact arrLev | exact arrAll) HM ?_); clear HM; intro g7 u7 HM) | (have hq : Hid (Mem _ [_, _, _, _, _, _, _] _) := HM; clear hq; (first | refine wl_box rfl _ _ rfl rfl HM ?_ | refine wl_alloc rfl _ rfl (by first | exact arrSpec | exact arrLev | exact arrAll) HM ?_); clear HM; intro g8 u8 HM) | (have hq : Hid (Mem _ [_, _, _, _, _, _, _, _] _) := HM; clear hq; (first | refine wl_box rfl _ _ rfl rfl HM ?_ | refine wl_alloc rfl _ rfl (by first | exact arrSpec | exact arrLev | exact arrAll) HM ?_); clear HM; intro g9 u9 HM) | (have hq : Hid (Mem _ [_, _, _, _, _, _, _, _, _] _) := HM; clear hq; (first | refine wl_box rfl _ _ rfl rfl HM ?_ | refine wl_alloc rfl _ rfl (by first | exact arrSpec | exact arrLev | exact arrAll) HM ?_); clear HM; intro g10 u10 HM) | (have hq : Hid (Mem _ [_, _, _, _, _, _, _, _, _, _] _) := HM; clear hq; (first | refine wl_box rfl _ _ rfl rfl HM ?_ | refine wl_alloc rfl _ rfl (by first | exact arrSpec | exact arrLev | exact arrAll) HM ?_); clear HM; intro g11 u11 HM) | (have hq : Hid (Mem _ [_, _, _, _, _, _, _, _, _, _, _] _) := HM; clear hq; (first | refine wl_box rfl _ _ rfl rfl HM ?_ | refine wl_alloc rfl _ rfl (by first | exact arrSpec | exact arrLev | exact arrAll) HM ?_); clear HM; intro g12 u12 HM)) | (refine wl_load rfl _ _ rfl rfl (by first | exact arrSpec | exact arrLev | exact arrAll) HM (by first | exact .head _ | exact .tail _ (.head _) | exact .tail _ (.tail _ (.head _)) | exact .tail _ (.tail _ (.tail _ (.head _))) | exact .tail _ (.tail _ (.tail _ (.tail _ (.head _)))) | exact .tail _ (.tail _ (.tail _ (.tail _ (.tail _ (.head _))))) | exact .tail _ (.tail _ (.tail _ (.tail _ (.tail _ (.tail _ (.head _)))))) | exact .tail _ (.tail _ (.tail _ (.tail _ (.tail _ (.tail _ (.tail _ (.head _))))))) | exact .tail _ (.tail _ (.tail _ (.tail _ (.tail _ (.tail _ (.tail _ (.tail _ (.head _)))))))) | exact .tail _ (.tail _ (.tail _ (.tail _ (.tail _ (.tail _ (.tail _ (.tail _ (.tail _ (.head _))))))))) | exact .tail _ (.tail _ (.tail _ (.tail _ (.tail _ (.tail _ (.tail _ (.tail _ (.tail _ (.tail _ (.head _)))))))))) | exact .tail _ (.tail _ (.tail _ (.tail _ (.tail _ (.tail _ (.tail _ (.tail _ (.tail _ (.tail _ (.tail _ (.head _)))))))))))) (by first | (with_reducible assumption) | (with_reducible exact Lib.hid (zr_length _)) | (with_reducible exact Lib.hid (tab_length _ _))) ?_) | (first | (refine wl_store rfl _ _ _ rfl rfl rfl (by first | exact arrSpec | exact arrLev | exact arrAll) HM 0 rfl (by first | (with_reducible assumption) | (with_reducible exact Lib.hid (zr_length _)) | (with_reducible exact Lib.hid (tab_length _ _))) (by first | (with_reducible assumption) | (with_reducible exact Lib.hid (zr_length _)) | (with_reducible exact Lib.hid (tab_length _ _))) ?_; clear HM; intro us HM; simp only [List.set_cons_zero] at HM) | (refine wl_store rfl _ _ _ rfl rfl rfl (by first | exact arrSpec | exact arrLev | exact arrAll) HM 1 rfl (by first | (with_reducible assumption) | (with_reducible exact Lib.hid (zr_length _)) | (with_reducible exact Lib.hid (tab_length _ _))) (by first | (with_reducible assumption) | (with_reducible exact Lib.hid (zr_length _)) | (with_reducible exact Lib.hid (tab_length _ _))) ?_; clear HM; intro us HM; simp only [List.set_cons_zero, List.set_cons_succ] at HM) | (refine wl_store rfl _ _ _ rfl rfl rfl (by first | exact arrSpec | exact arrLev | exact arrAll) HM 2 rfl (by first | (with_reducible assumption) | (with_reducible exact Lib.hid (zr_length _)) | (with_reducible exact Lib.hid (tab_length _ _))) (by first | (with_reducible assumption) | (with_reducible exact Lib.hid (zr_length _)) | (with_reducible exact Lib.hid (tab_length _ _))) ?_; clear HM; intro us HM; simp only [List.set_cons_zero, List.set_cons_succ] at HM) | (refine wl_store rfl _ _ _ rfl rfl rfl (by first | exact arrSpec | exact arrLev | exact arrAll) HM 3 rfl (by first | (with_reducible assumption) | (with_reducible exact Lib.hid (zr_length _)) | (with_reducible exact Lib.hid (tab_length _ _))) (by first | (with_reducible assumption) | (with_reducible exact Lib.hid (zr_length _)) | (with_reducible exact Lib.hid (tab_length _ _))) ?_; clear HM; intro us HM; simp only [List.set_cons_zero, List.set_cons_succ] at HM) | (refine wl_store rfl _ _ _ rfl rfl rfl (by first | exact arrSpec | exact arrLev | exact arrAll) HM 4 rfl (by first | (with_reducible assumption) | (with_reducible exact Lib.hid (zr_length _)) | (with_reducible exact Lib.hid (tab_length _ _))) (by first | (with_reducible assumption) | (with_reducible exact Lib.hid (zr_length _)) | (with_reducible exact Lib.hid (tab_length _ _))) ?_; clear HM; intro us HM; simp only [List.set_cons_zero, List.set_cons_succ] at HM) | (refine wl_store rfl _ _ _ rfl rfl rfl (by first | exact arrSpec | exact arrLev | exact arrAll) HM 5 rfl (by first | (with_reducible assumption) | (with_reducible exact Lib.hid (zr_length _)) | (with_reducible exact Lib.hid (tab_length _ _))) (by first | (with_reducible assumption) | (with_reducible exact Lib.hid (zr_length _)) | (with_reducible exact Lib.hid (tab_length _ _))) ?_; clear HM; intro us HM; simp only [List.set_cons_zero, List.set_cons_succ] at HM) | (refine wl_store rfl _ _ _ rfl rfl rfl (by first | exact arrSpec | exact arrLev | exact arrAll) HM 6 rfl (by first | (with_reducible assumption) | (with_reducible exact Lib.hid (zr_length _)) | (with_reducible exact Lib.hid (tab_length _ _))) (by first | (with_reducible assumption) | (with_reducible exact Lib.hid (zr_length _)) | (with_reducible exact Lib.hid (tab_length _ _))) ?_; clear HM; intro us HM; simp only [List.set_cons_zero, List.set_cons_succ] at HM) | (refine wl_store rfl _ _ _ rfl rfl rfl (by first | exact arrSpec | exact arrLev | exact arrAll) HM 7 rfl (by first | (with_reducible assumption) | (with_reducible exact Lib.hid (zr_length _)) | (with_reducible exact Lib.hid (tab_length _ _))) (by first | (with_reducible assumption) | (with_reducible exact Lib.hid (zr_length _)) | (with_reducible exact Lib.hid (tab_length _ _))) ?_; clear HM; intro us HM; simp only [List.set_cons_zero, List.set_cons_succ] at HM)) | (refine wl_zero rfl _ rfl (by first | exact arrSpec | exact arrLev | exact arrAll) (by kernel_rfl) ?_))
  go_loop [6] (fun vi => ∃ k : Nat, vi = .int .i64 (k : Int) ∧ k ≤ 16 ∧ Hid (∀ j, j < k → -67108864 ≤ x.getD j 0 ∧ x.getD j 0 ≤ 67108864)) (fun vi => 16 - (intOf vi).toNat)
  case atStart => exact ⟨0, rfl, by omega, Lib.hid (fun j hj => by omega)⟩
  case round =>
    obtain ⟨k, rfl, hk, HK⟩ := hrel
    by_cases hlt : k < 16
    · have hix := run_index 23 (n := 16) (by kernel_rfl) x LX.out k hlt
      obtain ⟨v, hv⟩ : ∃ v, x.getD k 0 = v := ⟨_, rfl⟩
      rw [hv] at hix
      have HX := Lib.hid hv
      have kn : (k : Int) < 16 := by omega
      clear hv
      by_cases h : -67108864 ≤ v ∧ v ≤ 67108864
      · have HW := Lib.hid (fun u => rwithin_any v 67108864 true u (decide_eq_true h))
        go_wp2_with fail
        refine (HW.out _).mono ?_
        rintro e w2 ⟨rfl, rfl⟩
        go_wp2
        go_round
        case rel =>
          refine ⟨k + 1, by go_num, by omega, Lib.hid fun j hj => ?_⟩
          by_cases hjk : j < k
          · exact HK.out j hjk
          · obtain rfl : j = k := by omega
            rw [HX.out]; exact h
        case measure => simp [intOf]; omega
      · have HW := Lib.hid (fun u => rwithin_any v 67108864 false u (decide_eq_false h))
        obtain rfl : b = false := by
          cases b with
          | false => rfl
          | true => have := HI.out.1 rfl k hlt; rw [HX.out] at this; exact absurd this h
        go_wp2_with fail
        refine (HW.out _).mono ?_
        rintro e w2 ⟨rfl, rfl⟩
        go_wp2
        go_ret
        exact ⟨rfl, HM.out.1⟩
    · obtain rfl : k = 16 := by omega
      obtain rfl : b = true := HI.out.2 HK.out
      go_wp2
      go_ret
      exact ⟨rfl, HM.out.1⟩
end Go.Proofs.YtplfcncibmgllaaDoor.Lp
