/-
  Own texts, laid together: Qk.
-/
import Derived.Test.YtcnckamocbaceaaDoorQj
/- Qk -/
namespace Go.Proofs.YtcnckamocbaceaaDoor.Lp
open Go.RowKit Go.Proofs.YtcnckamocbaceaaDoor.Fx Go.Proofs.YtcnckamocbaceaaDoor.Fq Go.Proofs.YtcnckamocbaceaaDoor.Tb
theorem round18 (V : Int) : roundI V 18 = V / 262144 + V / 131072 % 2 := by
  unfold roundI
  rw [if_neg (by decide), if_neg (by decide)]
  rfl
theorem noiseR_near {t : Int} (ht : 0 ≤ t ∧ t < 4294967296) (p : Nat) : 8 * noiseR t p ≤ (p : Int) + 8 ∧ -(p : Int) - 8 ≤ 8 * noiseR t p := by
  unfold noiseR
  rw [round18]
  have h := mulq_bd (a := t / 65536 - 32768) (b := (p : Int)) (m := 32768) (n := (p : Int)) (by omega) (by omega) (by omega) (by omega) (by decide)
  generalize (t / 65536 - 32768) * (p : Int) = V at h
  omega
theorem noiseF_near {t : Int} (ht : 0 ≤ t ∧ t < 4294967296) (l : List Int) (n : Nat) :
    8 * noiseF t l n ≤ (peakN (l.getD (bnd n) 0).toNat : Int) + 8 ∧ -(peakN (l.getD (bnd n) 0).toNat : Int) - 8 ≤ 8 * noiseF t l n ∧ -67108864 ≤ noiseF t l n ∧ noiseF t l n ≤ 67108864 := by
  rw [noiseF_is]
  have h := noiseR_near (seedN_bd ht (n + 1)) (peakN (l.getD (bnd n) 0).toNat)
  generalize peakN (l.getD (bnd n) 0).toNat = p at h
  generalize noiseR (seedN t (n + 1)) p = r at h
  split <;> omega
theorem noise_okX {t : Int} (ht : 0 ≤ t ∧ t < 4294967296) (l : List Int) : okX (noiseL t l) = true :=
  (inR_iff (noiseL_length t l)).2 fun k hk => by
    unfold noiseL
    rw [tab_getD _ hk]
    exact (noiseF_near ht l k).2.2
theorem noise_none (t : Int) : noiseL t (zr 6) = zr 16 := by
  unfold noiseL
  rw [← tab_zero 16]
  exact tab_congr fun i _ => by rw [noiseF_is, zr_getD, if_neg (by decide)]
theorem chk_zero : chkL (zr 6) = true := by decide
set_option maxRecDepth 100000 in
set_option maxHeartbeats 8000000 in
theorem noise_walk (t : Int) (l : List Int) (w : World) (ll : l.length = 6) (ht : 0 ≤ t ∧ t < 4294967296) (he : Edg w) :
    Calls Tryd.prog 7 #[.int .u32 t, .agg (icells l)] w fun e w' => e = .returned (.bool true) ∧ Below w.heap.size w w' := by
  have LL := Lib.hid ll
  have HE := Lib.hid he
  have HM := Lib.hid (Mem.start w)
  have F0 := Lib.hid (fun u (hu : Edg u) => qlive_any u hu)
  cases hc : chkL l with
  | false =>
    have F1 := Lib.hid (fun u => rbcheck_any l false 1 u ll hc rfl)
    clear ll ht he hc
    go_enter Tryd.func7, Tryd.ntmps7
    go_wp2_with (first | ((first | refine wl_box rfl _ _ rfl rfl HM ?_ | refine wl_alloc rfl _ rfl (by exact arrOf) HM ?_); first | (have q : dL HM = 0 := rfl; clear q HM; intro g1 u1 HM) | (have q : dL HM = 1 := rfl; clear q HM; intro g2 u2 HM) | (have q : dL HM = 2 := rfl; clear q HM; intro g3 u3 HM) | (have q : dL HM = 3 := rfl; clear q HM; intro g4 u4 HM) | (have q : dL HM = 4 := rfl; clear q HM; intro g5 u5 HM) | (have q : dL HM = 5 := rfl; clear q HM; intro g6 u6 HM) | (have q : dL HM = 6 := rfl; clear q HM; intro g7 u7 HM) | (have q : dL HM = 7 := rfl; clear q HM; intro g8 u8 HM) | (have q : dL HM = 8 := rfl; clear q HM; intro g9 u9 HM) | (have q : dL HM = 9 := rfl; clear q HM; intro g10 u10 HM) | (have q : dL HM = 10 := rfl; clear q HM; intro g11 u11 HM) | (have q : dL HM = 11 := rfl; clear q HM; intro g12 u12 HM) | (have q : dL HM = 12 := rfl; clear q HM; intro g13 u13 HM) | (have q : dL HM = 13 := rfl; clear q HM; intro g14 u14 HM)) | (refine wl_load rfl _ _ rfl rfl (by exact arrOf) HM (by exact memOf) (by exact lenOf) ?_) | (refine wl_storeM rfl _ _ _ rfl rfl rfl (by exact arrOf) HM (by exact idxOf) (by exact lenOf) (by exact lenOf) ?_; clear HM; intro us HM; dsimp only [List.set] at HM) | (refine wl_zero rfl _ rfl (by exact arrOf) (by kernel_rfl) ?_))
    refine (F0.out _ (HE.out.mem HM.out)).mono ?_
    rintro e wq ⟨rfl, h1⟩
    have HM2 := Lib.hid (HM.out.below h1)
    clear h1 HM F0
    have HM := HM2
    clear HM2
    go_wp2_with (first | ((first | refine wl_box rfl _ _ rfl rfl HM ?_ | refine wl_alloc rfl _ rfl (by exact arrOf) HM ?_); first | (have q : dL HM = 0 := rfl; clear q HM; intro g1 u1 HM) | (have q : dL HM = 1 := rfl; clear q HM; intro g2 u2 HM) | (have q : dL HM = 2 := rfl; clear q HM; intro g3 u3 HM) | (have q : dL HM = 3 := rfl; clear q HM; intro g4 u4 HM) | (have q : dL HM = 4 := rfl; clear q HM; intro g5 u5 HM) | (have q : dL HM = 5 := rfl; clear q HM; intro g6 u6 HM) | (have q : dL HM = 6 := rfl; clear q HM; intro g7 u7 HM) | (have q : dL HM = 7 := rfl; clear q HM; intro g8 u8 HM) | (have q : dL HM = 8 := rfl; clear q HM; intro g9 u9 HM) | (have q : dL HM = 9 := rfl; clear q HM; intro g10 u10 HM) | (have q : dL HM = 10 := rfl; clear q HM; intro g11 u11 HM) | (have q : dL HM = 11 := rfl; clear q HM; intro g12 u12 HM) | (have q : dL HM = 12 := rfl; clear q HM; intro g13 u13 HM) | (have q : dL HM = 13 := rfl; clear q HM; intro g14 u14 HM)) | (refine wl_load rfl _ _ rfl rfl (by exact arrOf) HM (by exact memOf) (by exact lenOf) ?_) | (refine wl_storeM rfl _ _ _ rfl rfl rfl (by exact arrOf) HM (by exact idxOf) (by exact lenOf) (by exact lenOf) ?_; clear HM; intro us HM; dsimp only [List.set] at HM) | (refine wl_zero rfl _ rfl (by exact arrOf) (by kernel_rfl) ?_))
    refine (F1.out _).mono ?_
    rintro e wq ⟨rfl, h1⟩
    have HM2 := Lib.hid (HM.out.below h1)
    clear h1 HM F1
    have HM := HM2
    clear HM2
    go_wp2_with (first | ((first | refine wl_box rfl _ _ rfl rfl HM ?_ | refine wl_alloc rfl _ rfl (by exact arrOf) HM ?_); first | (have q : dL HM = 0 := rfl; clear q HM; intro g1 u1 HM) | (have q : dL HM = 1 := rfl; clear q HM; intro g2 u2 HM) | (have q : dL HM = 2 := rfl; clear q HM; intro g3 u3 HM) | (have q : dL HM = 3 := rfl; clear q HM; intro g4 u4 HM) | (have q : dL HM = 4 := rfl; clear q HM; intro g5 u5 HM) | (have q : dL HM = 5 := rfl; clear q HM; intro g6 u6 HM) | (have q : dL HM = 6 := rfl; clear q HM; intro g7 u7 HM) | (have q : dL HM = 7 := rfl; clear q HM; intro g8 u8 HM) | (have q : dL HM = 8 := rfl; clear q HM; intro g9 u9 HM) | (have q : dL HM = 9 := rfl; clear q HM; intro g10 u10 HM) | (have q : dL HM = 10 := rfl; clear q HM; intro g11 u11 HM) | (have q : dL HM = 11 := rfl; clear q HM; intro g12 u12 HM) | (have q : dL HM = 12 := rfl; clear q HM; intro g13 u13 HM) | (have q : dL HM = 13 := rfl; clear q HM; intro g14 u14 HM)) | (refine wl_load rfl _ _ rfl rfl (by exact arrOf) HM (by exact memOf) (by exact lenOf) ?_) | (refine wl_storeM rfl _ _ _ rfl rfl rfl (by exact arrOf) HM (by exact idxOf) (by exact lenOf) (by exact lenOf) ?_; clear HM; intro us HM; dsimp only [List.set] at HM) | (refine wl_zero rfl _ rfl (by exact arrOf) (by kernel_rfl) ?_))
    go_ret
    exact ⟨rfl, HM.out.1⟩
  | true =>
    have F1 := Lib.hid (fun u => rbcheck_any l true 0 u ll hc rfl)
    have F2 := Lib.hid (fun u (hu : Edg u) => qnoise_any t l u ht ll hu)
    rw [show noiseV t l = .tuple #[.agg (icells (noiseL t l)), .int .u32 (seedN t 16), .int .i64 0] by unfold noiseV; rw [if_pos hc]] at F2
    have F3 := Lib.hid (fun u (hu : Edg u) => qnoise_any t (zr 6) u ht (zr_length 6) hu)
    rw [show noiseV t (zr 6) = .tuple #[.agg (icells (zr 16)), .int .u32 (seedN t 16), .int .i64 0] by unfold noiseV; rw [if_pos chk_zero, noise_none]] at F3
    have F4 := Lib.hid (fun u => mayX_any (noiseL t l) true u (noiseL_length t l) (noise_okX ht l))
    have HN := Lib.hid (fun (k : Nat) (hk : k < 16) => (show (noiseL t l).getD k 0 = noiseF t l k from tab_getD _ hk))
    have HB := Lib.hid (noiseF_near ht l)
    have HI := Lib.hid (noiseF_is t l)
    have HL := Lib.hid (fun k => inR_bd hc (by omega) (by omega) k)
    have LX := Lib.hid (noiseL_length t l)
    have LZ := Lib.hid (zr_length 16)
    have q1 := fun u => run_equalIn_same 30 (n := 16) (by kernel_rfl) (zr 16) (zr_length 16) u
    have gs := grdSpec
    generalize noiseL t l = X at F2 F4 HN LX
    generalize seedN t 16 = t16 at F2 F3
    clear ll ht he hc
    go_enter Tryd.func7, Tryd.ntmps7
    go_wp2_with (first | ((first | refine wl_box rfl _ _ rfl rfl HM ?_ | refine wl_alloc rfl _ rfl (by exact arrOf) HM ?_); first | (have q : dL HM = 0 := rfl; clear q HM; intro g1 u1 HM) | (have q : dL HM = 1 := rfl; clear q HM; intro g2 u2 HM) | (have q : dL HM = 2 := rfl; clear q HM; intro g3 u3 HM) | (have q : dL HM = 3 := rfl; clear q HM; intro g4 u4 HM) | (have q : dL HM = 4 := rfl; clear q HM; intro g5 u5 HM) | (have q : dL HM = 5 := rfl; clear q HM; intro g6 u6 HM) | (have q : dL HM = 6 := rfl; clear q HM; intro g7 u7 HM) | (have q : dL HM = 7 := rfl; clear q HM; intro g8 u8 HM) | (have q : dL HM = 8 := rfl; clear q HM; intro g9 u9 HM) | (have q : dL HM = 9 := rfl; clear q HM; intro g10 u10 HM) | (have q : dL HM = 10 := rfl; clear q HM; intro g11 u11 HM) | (have q : dL HM = 11 := rfl; clear q HM; intro g12 u12 HM) | (have q : dL HM = 12 := rfl; clear q HM; intro g13 u13 HM) | (have q : dL HM = 13 := rfl; clear q HM; intro g14 u14 HM)) | (refine wl_load rfl _ _ rfl rfl (by exact arrOf) HM (by exact memOf) (by exact lenOf) ?_) | (refine wl_storeM rfl _ _ _ rfl rfl rfl (by exact arrOf) HM (by exact idxOf) (by exact lenOf) (by exact lenOf) ?_; clear HM; intro us HM; dsimp only [List.set] at HM) | (refine wl_zero rfl _ rfl (by exact arrOf) (by kernel_rfl) ?_))
    refine (F0.out _ (HE.out.mem HM.out)).mono ?_
    rintro e wq ⟨rfl, h1⟩
    have HM2 := Lib.hid (HM.out.below h1)
    clear h1 HM F0
    have HM := HM2
    clear HM2
    go_wp2_with (first | ((first | refine wl_box rfl _ _ rfl rfl HM ?_ | refine wl_alloc rfl _ rfl (by exact arrOf) HM ?_); first | (have q : dL HM = 0 := rfl; clear q HM; intro g1 u1 HM) | (have q : dL HM = 1 := rfl; clear q HM; intro g2 u2 HM) | (have q : dL HM = 2 := rfl; clear q HM; intro g3 u3 HM) | (have q : dL HM = 3 := rfl; clear q HM; intro g4 u4 HM) | (have q : dL HM = 4 := rfl; clear q HM; intro g5 u5 HM) | (have q : dL HM = 5 := rfl; clear q HM; intro g6 u6 HM) | (have q : dL HM = 6 := rfl; clear q HM; intro g7 u7 HM) | (have q : dL HM = 7 := rfl; clear q HM; intro g8 u8 HM) | (have q : dL HM = 8 := rfl; clear q HM; intro g9 u9 HM) | (have q : dL HM = 9 := rfl; clear q HM; intro g10 u10 HM) | (have q : dL HM = 10 := rfl; clear q HM; intro g11 u11 HM) | (have q : dL HM = 11 := rfl; clear q HM; intro g12 u12 HM) | (have q : dL HM = 12 := rfl; clear q HM; intro g13 u13 HM) | (have q : dL HM = 13 := rfl; clear q HM; intro g14 u14 HM)) | (refine wl_load rfl _ _ rfl rfl (by exact arrOf) HM (by exact memOf) (by exact lenOf) ?_) | (refine wl_storeM rfl _ _ _ rfl rfl rfl (by exact arrOf) HM (by exact idxOf) (by exact lenOf) (by exact lenOf) ?_; clear HM; intro us HM; dsimp only [List.set] at HM) | (refine wl_zero rfl _ rfl (by exact arrOf) (by kernel_rfl) ?_))
    refine (F1.out _).mono ?_
    rintro e wq ⟨rfl, h1⟩
    have HM2 := Lib.hid (HM.out.below h1)
    clear h1 HM F1
    have HM := HM2
    clear HM2
    go_wp2_with (first | ((first | refine wl_box rfl _ _ rfl rfl HM ?_ | refine wl_alloc rfl _ rfl (by exact arrOf) HM ?_); first | (have q : dL HM = 0 := rfl; clear q HM; intro g1 u1 HM) | (have q : dL HM = 1 := rfl; clear q HM; intro g2 u2 HM) | (have q : dL HM = 2 := rfl; clear q HM; intro g3 u3 HM) | (have q : dL HM = 3 := rfl; clear q HM; intro g4 u4 HM) | (have q : dL HM = 4 := rfl; clear q HM; intro g5 u5 HM) | (have q : dL HM = 5 := rfl; clear q HM; intro g6 u6 HM) | (have q : dL HM = 6 := rfl; clear q HM; intro g7 u7 HM) | (have q : dL HM = 7 := rfl; clear q HM; intro g8 u8 HM) | (have q : dL HM = 8 := rfl; clear q HM; intro g9 u9 HM) | (have q : dL HM = 9 := rfl; clear q HM; intro g10 u10 HM) | (have q : dL HM = 10 := rfl; clear q HM; intro g11 u11 HM) | (have q : dL HM = 11 := rfl; clear q HM; intro g12 u12 HM) | (have q : dL HM = 12 := rfl; clear q HM; intro g13 u13 HM) | (have q : dL HM = 13 := rfl; clear q HM; intro g14 u14 HM)) | (refine wl_load rfl _ _ rfl rfl (by exact arrOf) HM (by exact memOf) (by exact lenOf) ?_) | (refine wl_storeM rfl _ _ _ rfl rfl rfl (by exact arrOf) HM (by exact idxOf) (by exact lenOf) (by exact lenOf) ?_; clear HM; intro us HM; dsimp only [List.set] at HM) | (refine wl_zero rfl _ rfl (by exact arrOf) (by kernel_rfl) ?_))
    refine (F2.out _ (HE.out.mem HM.out)).mono ?_
    rintro e wq ⟨rfl, h1⟩
    have HM2 := Lib.hid (HM.out.below h1)
    clear h1 HM F2
    have HM := HM2
    clear HM2
    go_wp2_with (first | ((first | refine wl_box rfl _ _ rfl rfl HM ?_ | refine wl_alloc rfl _ rfl (by exact arrOf) HM ?_); first | (have q : dL HM = 0 := rfl; clear q HM; intro g1 u1 HM) | (have q : dL HM = 1 := rfl; clear q HM; intro g2 u2 HM) | (have q : dL HM = 2 := rfl; clear q HM; intro g3 u3 HM) | (have q : dL HM = 3 := rfl; clear q HM; intro g4 u4 HM) | (have q : dL HM = 4 := rfl; clear q HM; intro g5 u5 HM) | (have q : dL HM = 5 := rfl; clear q HM; intro g6 u6 HM) | (have q : dL HM = 6 := rfl; clear q HM; intro g7 u7 HM) | (have q : dL HM = 7 := rfl; clear q HM; intro g8 u8 HM) | (have q : dL HM = 8 := rfl; clear q HM; intro g9 u9 HM) | (have q : dL HM = 9 := rfl; clear q HM; intro g10 u10 HM) | (have q : dL HM = 10 := rfl; clear q HM; intro g11 u11 HM) | (have q : dL HM = 11 := rfl; clear q HM; intro g12 u12 HM) | (have q : dL HM = 12 := rfl; clear q HM; intro g13 u13 HM) | (have q : dL HM = 13 := rfl; clear q HM; intro g14 u14 HM)) | (refine wl_load rfl _ _ rfl rfl (by exact arrOf) HM (by exact memOf) (by exact lenOf) ?_) | (refine wl_storeM rfl _ _ _ rfl rfl rfl (by exact arrOf) HM (by exact idxOf) (by exact lenOf) (by exact lenOf) ?_; clear HM; intro us HM; dsimp only [List.set] at HM) | (refine wl_zero rfl _ rfl (by exact arrOf) (by kernel_rfl) ?_))
    refine (F3.out _ (HE.out.mem HM.out)).mono ?_
    rintro e wq ⟨rfl, h1⟩
    have HM2 := Lib.hid (HM.out.below h1)
    clear h1 HM F3
    have HM := HM2
    clear HM2
    go_wp2_with (first | ((first | refine wl_box rfl _ _ rfl rfl HM ?_ | refine wl_alloc rfl _ rfl (by exact arrOf) HM ?_); first | (have q : dL HM = 0 := rfl; clear q HM; intro g1 u1 HM) | (have q : dL HM = 1 := rfl; clear q HM; intro g2 u2 HM) | (have q : dL HM = 2 := rfl; clear q HM; intro g3 u3 HM) | (have q : dL HM = 3 := rfl; clear q HM; intro g4 u4 HM) | (have q : dL HM = 4 := rfl; clear q HM; intro g5 u5 HM) | (have q : dL HM = 5 := rfl; clear q HM; intro g6 u6 HM) | (have q : dL HM = 6 := rfl; clear q HM; intro g7 u7 HM) | (have q : dL HM = 7 := rfl; clear q HM; intro g8 u8 HM) | (have q : dL HM = 8 := rfl; clear q HM; intro g9 u9 HM) | (have q : dL HM = 9 := rfl; clear q HM; intro g10 u10 HM) | (have q : dL HM = 10 := rfl; clear q HM; intro g11 u11 HM) | (have q : dL HM = 11 := rfl; clear q HM; intro g12 u12 HM) | (have q : dL HM = 12 := rfl; clear q HM; intro g13 u13 HM) | (have q : dL HM = 13 := rfl; clear q HM; intro g14 u14 HM)) | (refine wl_load rfl _ _ rfl rfl (by exact arrOf) HM (by exact memOf) (by exact lenOf) ?_) | (refine wl_storeM rfl _ _ _ rfl rfl rfl (by exact arrOf) HM (by exact idxOf) (by exact lenOf) (by exact lenOf) ?_; clear HM; intro us HM; dsimp only [List.set] at HM) | (refine wl_zero rfl _ rfl (by exact arrOf) (by kernel_rfl) ?_))
    refine (F4.out _).mono ?_
    rintro e wq ⟨rfl, h1⟩
    have HM2 := Lib.hid (HM.out.below h1)
    clear h1 HM F4
    have HM := HM2
    clear HM2
    go_wp2_with (first | ((first | refine wl_box rfl _ _ rfl rfl HM ?_ | refine wl_alloc rfl _ rfl (by exact arrOf) HM ?_); first | (have q : dL HM = 0 := rfl; clear q HM; intro g1 u1 HM) | (have q : dL HM = 1 := rfl; clear q HM; intro g2 u2 HM) | (have q : dL HM = 2 := rfl; clear q HM; intro g3 u3 HM) | (have q : dL HM = 3 := rfl; clear q HM; intro g4 u4 HM) | (have q : dL HM = 4 := rfl; clear q HM; intro g5 u5 HM) | (have q : dL HM = 5 := rfl; clear q HM; intro g6 u6 HM) | (have q : dL HM = 6 := rfl; clear q HM; intro g7 u7 HM) | (have q : dL HM = 7 := rfl; clear q HM; intro g8 u8 HM) | (have q : dL HM = 8 := rfl; clear q HM; intro g9 u9 HM) | (have q : dL HM = 9 := rfl; clear q HM; intro g10 u10 HM) | (have q : dL HM = 10 := rfl; clear q HM; intro g11 u11 HM) | (have q : dL HM = 11 := rfl; clear q HM; intro g12 u12 HM) | (have q : dL HM = 12 := rfl; clear q HM; intro g13 u13 HM) | (have q : dL HM = 13 := rfl; clear q HM; intro g14 u14 HM)) | (refine wl_load rfl _ _ rfl rfl (by exact arrOf) HM (by exact memOf) (by exact lenOf) ?_) | (refine wl_storeM rfl _ _ _ rfl rfl rfl (by exact arrOf) HM (by exact idxOf) (by exact lenOf) (by exact lenOf) ?_; clear HM; intro us HM; dsimp only [List.set] at HM) | (refine wl_zero rfl _ rfl (by exact arrOf) (by kernel_rfl) ?_))
    go_loopw [59] (fun vi wr => ∃ k : Nat, k ≤ 16 ∧ vi = .int .i64 (k : Int) ∧ Hid (Mem w [(g3, 30, zr 16), (g2, 30, X), (g1, 32, l)] wr)) (fun vi _ => 16 - (intOf vi).toNat)
    case atStart => exact ⟨0, by omega, rfl, HM⟩
    case round =>
      clear HM
      obtain ⟨k, hk, rfl, HM⟩ := hrel
      by_cases hlt : k < 16
      · have k16 : (k : Int) < 16 := by omega
        have HO := Lib.hid (fun u (hu : Edg u) => of_good k u hlt hu)
        have hb6 := (bnd_all k hlt).1
        have hn := HN.out k hlt
        have hb := HB.out k
        have hi := HI.out k
        rw [← hn] at hb hi
        obtain ⟨b, hbb⟩ : ∃ b, bnd k = b := ⟨_, rfl⟩
        rw [hbb] at HO hb6 hb hi
        clear hbb hn
        have hl := HL.out b
        have c1 := HM.out.cell (.tail _ (.tail _ (.head _))) (k := b) (by rw [LL.out]; exact hb6)
        have b6 : (b : Int) < 6 := by omega
        have CX := Lib.hid (fun (u : World) (hu : Mem w [(g3, 30, zr 16), (g2, 30, X), (g1, 32, l)] u) => hu.cell (.tail _ (.head _)) (k := k) (by rw [LX.out]; exact hlt))
        have CL := Lib.hid (fun (u : World) (hu : Mem w [(g3, 30, zr 16), (g2, 30, X), (g1, 32, l)] u) => hu.cell (.tail _ (.tail _ (.head _))) (k := b) (by rw [LL.out]; exact hb6))
        obtain ⟨y, hy⟩ : ∃ y : Nat, l.getD b 0 = (y : Int) := ⟨(l.getD b 0).toNat, by omega⟩
        rw [hy] at c1 hl hb hi CL
        have hy2 : y < 256 := by omega
        have F5 := Lib.hid (fun u => qpeak_any (y : Int) u)
        rw [show peakV (y : Int) = .tuple #[.int .i64 (peakN y : Int), .int .i64 0] by unfold peakV; rw [if_pos (by omega)]; rfl] at F5
        have hp := peakN_bd y hy2
        rw [show ((y : Int)).toNat = y from rfl] at hb hi
        generalize X.getD k 0 = v at hb hi CX
        obtain ⟨p, hpp⟩ : ∃ p : Int, (peakN y : Int) = p := ⟨_, rfl⟩
        have hp2 : 2 ≤ p ∧ p ≤ 4026531841 := by omega
        have hz : y = 0 → v = 0 := fun h => by subst h; rw [hi, if_neg (by decide)]
        rw [hpp] at hb F5
        clear hi hpp hp hy hy2 hl
        have e1 : IntKind.i64.wrap (8 * v) = 8 * v := i64_w (by omega) (by omega)
        have e2 : IntKind.i64.wrap (p + 8) = p + 8 := i64_w (by omega) (by omega)
        have e3 : IntKind.i64.wrap (-p) = -p := i64_w (by omega) (by omega)
        have e4 : IntKind.i64.wrap (-p - 8) = -p - 8 := i64_w (by omega) (by omega)
        have d1 : decide (p + 8 < 8 * v) = false := decide_eq_false (by omega)
        have d2 : decide (8 * v < -p - 8) = false := decide_eq_false (by omega)
        clear hb hp2
        go_wp2_with fail
        refine (HO.out _ (HE.out.mem HM.out)).mono ?_
        rintro e wb ⟨rfl, rfl⟩
        go_wp2_with fail
        refine (F5.out _).mono ?_
        rintro e wb ⟨rfl, h1⟩
        have HM2 := Lib.hid (HM.out.below h1)
        clear h1 HM c1
        have HM := HM2
        clear HM2
        have c1 := CL.out _ HM.out
        have c2 := CX.out _ HM.out
        clear CL CX
        by_cases h0 : y = 0
        · have hv := hz h0
          have d3 : ((y : Int) == 0) = true := by rw [h0]; rfl
          have d4 : decide ((y : Int) = 0) = true := by rw [h0]; rfl
          have d5 : (v == 0) = true := by rw [hv]; rfl
          have d6 : decide (v = 0) = true := by rw [hv]; rfl
          have d7 : decide (y = 0) = true := decide_eq_true h0
          clear hz hv h0
          go_wp2_with fail
          clear c1 c2 e1 e2 e3 e4 d1 d2
          go_roundw
          case rel => exact ⟨k + 1, by omega, by go_num, HM⟩
          case measure => simp [intOf]; omega
        · have d3 : ((y : Int) == 0) = false := by simp; omega
          have d4 : decide ((y : Int) = 0) = false := decide_eq_false (by omega)
          clear hz
          go_wp2_with fail
          clear c1 c2 e1 e2 e3 e4 d1 d2
          go_roundw
          case rel => exact ⟨k + 1, by omega, by go_num, HM⟩
          case measure => simp [intOf]; omega
      · obtain rfl : k = 16 := by omega
        go_wp2
        go_ret
        exact ⟨rfl, HM.out.1⟩
end Go.Proofs.YtcnckamocbaceaaDoor.Lp
