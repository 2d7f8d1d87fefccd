/-
  Own texts, laid together: Lc.
-/
import Derived.Test.YtplfcncibmgllaaDoorLm
/- Lc -/
namespace Go.Proofs.YtplfcncibmgllaaDoor.Lp
open Go.RowKit Go.Proofs.YtplfcncibmgllaaDoor.Fx Go.Proofs.YtplfcncibmgllaaDoor.Fq Go.Proofs.YtplfcncibmgllaaDoor.Tb
set_option maxRecDepth 100000 in
set_option maxHeartbeats 2000000 in
theorem within_any (lo hi : Int) (A : Option Addr) (n c : Nat) (zs : List Int) (b : Bool) (w : World) (hr : Hid (RdI w A n zs)) (hn : n ≤ maxLen) (hb : inR lo hi zs = b) :
    Calls Tryd.prog 37 #[.int .i64 lo, .int .i64 hi, .slice A n c] w fun e w' => e = .returned (.bool b) ∧ w = w' := by
  have HI := Lib.hid (inR_iff (lo := lo) (hi := hi) hr.out.1)
  rw [hb] at HI
  clear hb
  unfold maxLen at hn
  go_enter Tryd.func37, Tryd.ntmps37
  go_wp2_with fail
  go_loop [11] (fun vi => ∃ k : Nat, vi = .int .i64 (k : Int) ∧ k ≤ n ∧ Hid (∀ j, j < k → lo ≤ zs.getD j 0 ∧ zs.getD j 0 ≤ hi)) (fun vi => n - (intOf vi).toNat)
  case atStart => exact ⟨0, rfl, by omega, Lib.hid (fun j hj => by omega)⟩
  case round =>
    obtain ⟨k, rfl, hk, HK⟩ := hrel
    by_cases hlt : k < n
    · obtain ⟨ad, rfl, hlt2, hcell⟩ := hr.out.at_ hlt
      obtain ⟨x, hx⟩ : ∃ x, zs.getD k 0 = x := ⟨_, rfl⟩
      rw [hx] at hcell
      have HX := Lib.hid hx
      clear hx hlt2
      by_cases h1 : x < lo
      · obtain rfl : b = false := by
          cases b with
          | false => rfl
          | true => have := HI.out.1 rfl k hlt; rw [HX.out] at this; omega
        go_wp2
        go_ret
        exact ⟨rfl, rfl⟩
      · by_cases h2 : hi < x
        · obtain rfl : b = false := by
            cases b with
            | false => rfl
            | true => have := HI.out.1 rfl k hlt; rw [HX.out] at this; omega
          go_wp2
          go_ret
          exact ⟨rfl, rfl⟩
        · go_wp2
          go_round
          case rel =>
            refine ⟨k + 1, by go_num, by omega, Lib.hid fun j hj => ?_⟩
            by_cases hjk : j < k
            · exact HK.out j hjk
            · obtain rfl : j = k := by omega
              rw [HX.out]; omega
          case measure => simp [intOf]; omega
    · obtain rfl : k = n := by omega
      obtain rfl : b = true := HI.out.2 HK.out
      go_wp2
      go_ret
      exact ⟨rfl, rfl⟩
set_option maxRecDepth 100000 in
set_option maxHeartbeats 2000000 in
theorem areNumbers_any (x : List Int) (b : Bool) (w : World) (hl : x.length = 16) (hb : okX x = b) :
    Calls Tryd.prog 32 #[.agg (icells x)] w fun e w' => e = .returned (.bool b) ∧ Below w.heap.size w w' := by
  have HL := Lib.hid hl
  have HB := Lib.hid hb
  have HM := Lib.hid (Mem.start w)
  clear hl hb
  go_enter Tryd.func32, Tryd.ntmps32
  go_wp2_with (first | (first | (have hq : Hid (Mem _ [] _) := HM; clear hq; (first | refine wl_box rfl _ _ rfl rfl HM ?_ | refine wl_alloc rfl _ rfl (by first | exact arrSpec | exact arrLev | exact arrAll) HM ?_); clear HM; intro g1 u1 HM) | (have hq : Hid (Mem _ [_] _) := HM; clear hq; (first | refine wl_box rfl _ _ rfl rfl HM ?_ | refine wl_alloc rfl _ rfl (by first | exact arrSpec | exact arrLev | exact arrAll) HM ?_); clear HM; intro g2 u2 HM) | (have hq : Hid (Mem _ [_, _] _) := HM; clear hq; (first | refine wl_box rfl _ _ rfl rfl HM ?_ | refine wl_alloc rfl _ rfl (by first | exact arrSpec | exact arrLev | exact arrAll) HM ?_); clear HM; intro g3 u3 HM) | (have hq : Hid (Mem _ [_, _, _] _) := HM; clear hq; (first | refine wl_box rfl _ _ rfl rfl HM ?_ | refine wl_alloc rfl _ rfl (by first | exact arrSpec | exact arrLev | exact arrAll) HM ?_); clear HM; intro g4 u4 HM) | (have hq : Hid (Mem _ [_, _, _, _] _) := HM; clear hq; (first | refine wl_box rfl _ _ rfl rfl HM ?_ | refine wl_alloc rfl _ rfl (by first | exact arrSpec | exact arrLev | exact arrAll) HM ?_); clear HM; intro g5 u5 HM) | (have hq : Hid (Mem _ [_, _, _, _, _] _) := HM; clear hq; (first | refine wl_box rfl _ _ rfl rfl HM ?_ | refine wl_alloc rfl _ rfl (by first | exact arrSpec | exact arrLev | exact arrAll) HM ?_); clear HM; intro g6 u6 HM) | (have hq : Hid (Mem _ [_, _, _, _, _, _] _) := HM; clear hq; (first | refine wl_box rfl _ _ rfl rfl HM ?_ | refine wl_alloc rfl _ rfl (by first | exact arrSpec | exact arrLev | exact arrAll) HM ?_); clear HM; intro g7 u7 HM) | (have hq : Hid (Mem _ [_, _, _, _, _, _, _] _) := HM; clear hq; (first | refine wl_box rfl _ _ rfl rfl HM ?_ | refine wl_alloc rfl _ rfl (by first | exact arrSpec | exact arrLev | exact arrAll) HM ?_); clear HM; intro g8 u8 HM) | (have hq : Hid (Mem _ [_, _, _, _, _, _, _, _] _) := HM; clear hq; (first | refine wl_box rfl _ _ rfl rfl HM ?_ | refine wl_alloc rfl _ rfl (by first | exact arrSpec | exact arrLev | exact arrAll) HM ?_); clear HM; intro g9 u9 HM) | (have hq : Hid (Mem _ [_, _, _, _, _, _, _, _, _] _) := HM; clear hq; (first | refine wl_box rfl _ _ rfl rfl HM ?_ | refine wl_alloc rfl _ rfl (by first | exact arrSpec | exact arrLev | exact arrAll) HM ?_); clear HM; intro g10 u10 HM) | (have hq : Hid (Mem _ [_, _, _, _, _, _, _, _, _, _] _) := HM; clear hq; (first | refine wl_box rfl _ _ rfl rfl HM ?_ | refine wl_alloc rfl _ rfl (by first | exact arrSpec | exact arrLev | exact arrAll) HM ?_); clear HM; intro g11 u11 HM) | (have hq : Hid (Mem _ [_, _, _, _, _, _, _, _, _, _, _] _) := HM; clear hq; (first | refine wl_box rfl _ _ rfl rfl HM ?_ | refine wl_alloc rfl _ rfl (by first | exact arrSpec | exact arrLev | exact arrAll) HM ?_); clear HM; intro g12 u12 HM)) | (refine wl_load rfl _ _ rfl rfl (by first | exact arrSpec | exact arrLev | exact arrAll) HM (by first | exact .head _ | exact .tail _ (.head _) | exact .tail _ (.tail _ (.head _)) | exact .tail _ (.tail _ (.tail _ (.head _))) | exact .tail _ (.tail _ (.tail _ (.tail _ (.head _)))) | exact .tail _ (.tail _ (.tail _ (.tail _ (.tail _ (.head _))))) | exact .tail _ (.tail _ (.tail _ (.tail _ (.tail _ (.tail _ (.head _)))))) | exact .tail _ (.tail _ (.tail _ (.tail _ (.tail _ (.tail _ (.tail _ (.head _))))))) | exact .tail _ (.tail _ (.tail _ (.tail _ (.tail _ (.tail _ (.tail _ (.tail _ (.head _)))))))) | exact .tail _ (.tail _ (.tail _ (.tail _ (.tail _ (.tail _ (.tail _ (.tail _ (.tail _ (.head _))))))))) | exact .tail _ (.tail _ (.tail _ (.tail _ (.tail _ (.tail _ (.tail _ (.tail _ (.tail _ (.tail _ (.head _)))))))))) | exact .tail _ (.tail _ (.tail _ (.tail _ (.tail _ (.tail _ (.tail _ (.tail _ (.tail _ (.tail _ (.tail _ (.head _)))))))))))) (by first | (with_reducible assumption) | (with_reducible exact Lib.hid (zr_length _)) | (with_reducible exact Lib.hid (tab_length _ _))) ?_) | (first | (refine wl_store rfl _ _ _ rfl rfl rfl (by first | exact arrSpec | exact arrLev | exact arrAll) HM 0 rfl (by first | (with_reducible assumption) | (with_reducible exact Lib.hid (zr_length _)) | (with_reducible exact Lib.hid (tab_length _ _))) (by first | (with_reducible assumption) | (with_reducible exact Lib.hid (zr_length _)) | (with_reducible exact Lib.hid (tab_length _ _))) ?_; clear HM; intro us HM; simp only [List.set_cons_zero] at HM) | (refine wl_store rfl _ _ _ rfl rfl rfl (by first | exact arrSpec | exact arrLev | exact arrAll) HM 1 rfl (by first | (with_reducible assumption) | (with_reducible exact Lib.hid (zr_length _)) | (with_reducible exact Lib.hid (tab_length _ _))) (by first | (with_reducible assumption) | (with_reducible exact Lib.hid (zr_length _)) | (with_reducible exact Lib.hid (tab_length _ _))) ?_; clear HM; intro us HM; simp only [List.set_cons_zero, List.set_cons_succ] at HM) | (refine wl_store rfl _ _ _ rfl rfl rfl (by first | exact arrSpec | exact arrLev | exact arrAll) HM 2 rfl (by first | (with_reducible assumption) | (with_reducible exact Lib.hid (zr_length _)) | (with_reducible exact Lib.hid (tab_length _ _))) (by first | (with_reducible assumption) | (with_reducible exact Lib.hid (zr_length _)) | (with_reducible exact Lib.hid (tab_length _ _))) ?_; clear HM; intro us HM; simp only [List.set_cons_zero, List.set_cons_succ] at HM) | (refine wl_store rfl _ _ _ rfl rfl rfl (by first | exact arrSpec | exact arrLev | exact arrAll) HM 3 rfl (by first | (with_reducible assumption) | (with_reducible exact Lib.hid (zr_length _)) | (with_reducible exact Lib.hid (tab_length _ _))) (by first | (with_reducible assumption) | (with_reducible exact Lib.hid (zr_length _)) | (with_reducible exact Lib.hid (tab_length _ _))) ?_; clear HM; intro us HM; simp only [List.set_cons_zero, List.set_cons_succ] at HM) | (refine wl_store rfl _ _ _ rfl rfl rfl (by first | exact arrSpec | exact arrLev | exact arrAll) HM 4 rfl (by first | (with_reducible assumption) | (with_reducible exact Lib.hid (zr_length _)) | (with_reducible exact Lib.hid (tab_length _ _))) (by first | (with_reducible assumption) | (with_reducible exact Lib.hid (zr_length _)) | (with_reducible exact Lib.hid (tab_length _ _))) ?_; clear HM; intro us HM; simp only [List.set_cons_zero, List.set_cons_succ] at HM) | (refine wl_store rfl _ _ _ rfl rfl rfl (by first | exact arrSpec | exact arrLev | exact arrAll) HM 5 rfl (by first | (with_reducible assumption) | (with_reducible exact Lib.hid (zr_length _)) | (with_reducible exact Lib.hid (tab_length _ _))) (by first | (with_reducible assumption) | (with_reducible exact Lib.hid (zr_length _)) | (with_reducible exact Lib.hid (tab_length _ _))) ?_; clear HM; intro us HM; simp only [List.set_cons_zero, List.set_cons_succ] at HM) | (refine wl_store rfl _ _ _ rfl rfl rfl (by first | exact arrSpec | exact arrLev | exact arrAll) HM 6 rfl (by first | (with_reducible assumption) | (with_reducible exact Lib.hid (zr_length _)) | (with_reducible exact Lib.hid (tab_length _ _))) (by first | (with_reducible assumption) | (with_reducible exact Lib.hid (zr_length _)) | (with_reducible exact Lib.hid (tab_length _ _))) ?_; clear HM; intro us HM; simp only [List.set_cons_zero, List.set_cons_succ] at HM) | (refine wl_store rfl _ _ _ rfl rfl rfl (by first | exact arrSpec | exact arrLev | exact arrAll) HM 7 rfl (by first | (with_reducible assumption) | (with_reducible exact Lib.hid (zr_length _)) | (with_reducible exact Lib.hid (tab_length _ _))) (by first | (with_reducible assumption) | (with_reducible exact Lib.hid (zr_length _)) | (with_reducible exact Lib.hid (tab_length _ _))) ?_; clear HM; intro us HM; simp only [List.set_cons_zero, List.set_cons_succ] at HM)) | (refine wl_zero rfl _ rfl (by first | exact arrSpec | exact arrLev | exact arrAll) (by kernel_rfl) ?_))
  refine (within_any _ _ _ 16 16 x b _ (Lib.hid (HM.out.rd (.head _) HL.out)) (by unfold maxLen; omega) HB.out).mono ?_
  rintro e w2 ⟨rfl, rfl⟩
  go_wp2
  go_ret
  exact ⟨rfl, HM.out.1⟩
/-- a number's row -/
def rowP (k : Nat) : List Int := tab 32 (fun n => kerP n k)
theorem rowP_is (k : Nat) : rowI (k : Int) = rowP k := by
  unfold rowI rowP tab
  exact List.map_congr_left fun n _ => kerP_is n k
def RowQ2 (w : World) (xs : List Int) (e : Ending) (w' : World) : Prop := ∃ r, e = .returned (.tuple #[.slice (some ⟨r, 0, none⟩) 32 32, .int .i64 0]) ∧ w.heap.size ≤ r ∧ Blk w' r 3 (icells xs) ∧ Below w.heap.size w w'
def RowPQ (w : World) (xs : List Int) (e : Ending) (w' : World) : Prop := ∃ r, e = .returned (.slice (some ⟨r, 0, none⟩) 32 32) ∧ w.heap.size ≤ r ∧ Blk w' r 3 (icells xs) ∧ Below w.heap.size w w'
end Go.Proofs.YtplfcncibmgllaaDoor.Lp
