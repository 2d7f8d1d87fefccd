/-
  Own texts, laid together: Lb.
-/
import Derived.Test.YtplfcncibmgllaaLa
/- Lb -/
namespace Go.Proofs.Ytplfcncibmgllaa.Lp
open Go.RowKit Go.Proofs.Ytplfcncibmgllaa.Fx Go.Proofs.Ytplfcncibmgllaa.Fq Go.Proofs.Ytplfcncibmgllaa.Tb
/-- the circle on the way: a cosines, b sines -/
def cR (a b : Nat) : List Int := (List.range 256).map fun n => if n < 128 then (if n < a then cosP n else 0) else if n - 128 < b then sinP (n - 128) else 0
def cAll : List Int := cR 128 128
theorem cR_length (a b : Nat) : (cR a b).length = 256 := by rw [cR, List.length_map, List.length_range]
theorem cAll_length : cAll.length = 256 := cR_length _ _
theorem cR_get (a b n : Nat) (h : n < 256) : (cR a b)[n]? = some (if n < 128 then (if n < a then cosP n else 0) else if n - 128 < b then sinP (n - 128) else 0) := by
  unfold cR; rw [List.getElem?_map, List.getElem?_range h]; rfl
theorem cR_none : cR 0 0 = zr 256 := by
  unfold zr
  refine List.ext_getElem? fun i => ?_
  by_cases h : i < 256
  · rw [cR_get _ _ _ h, List.getElem?_replicate, if_pos h]
    simp
  · rw [List.getElem?_eq_none (by rw [cR_length]; omega), List.getElem?_eq_none (by rw [List.length_replicate]; omega)]
theorem cR_cos (a b : Nat) (h : a < 128) : (cR a b).set a (cosP a) = cR (a + 1) b := by
  refine List.ext_getElem? fun i => ?_
  rw [List.getElem?_set, cR_length]
  by_cases hi : i < 256
  · rw [cR_get _ _ _ hi, cR_get _ _ _ hi]
    by_cases k : a = i
    · subst k
      rw [if_pos rfl, if_pos hi, if_pos h, if_pos (by omega)]
    · rw [if_neg k]
      by_cases k1 : i < 128
      · rw [if_pos k1, if_pos k1]
        by_cases k2 : i < a
        · rw [if_pos k2, if_pos (by omega)]
        · rw [if_neg k2, if_neg (by omega)]
      · rw [if_neg k1, if_neg k1]
  · rw [List.getElem?_eq_none (by rw [cR_length]; omega), List.getElem?_eq_none (by rw [cR_length]; omega), if_neg (by omega)]
theorem cR_sin (a b : Nat) (h : b < 128) : (cR a b).set (128 + b) (sinP b) = cR a (b + 1) := by
  refine List.ext_getElem? fun i => ?_
  rw [List.getElem?_set, cR_length]
  by_cases hi : i < 256
  · rw [cR_get _ _ _ hi, cR_get _ _ _ hi]
    by_cases k : 128 + b = i
    · subst k
      rw [if_pos rfl, if_pos hi, if_neg (by omega), if_pos (by omega), show 128 + b - 128 = b by omega]
    · rw [if_neg k]
      by_cases k1 : i < 128
      · rw [if_pos k1, if_pos k1]
      · rw [if_neg k1, if_neg k1]
        by_cases k2 : i - 128 < b
        · rw [if_pos k2, if_pos (by omega)]
        · rw [if_neg k2, if_neg (by omega)]
  · rw [List.getElem?_eq_none (by rw [cR_length]; omega), List.getElem?_eq_none (by rw [cR_length]; omega), if_neg (by omega)]
theorem cAll_cos (n : Nat) (h : n < 128) : cAll.getD n 0 = cosP n := by
  unfold cAll
  rw [List.getD_eq_getElem?_getD, cR_get _ _ _ (by omega), if_pos h, if_pos h]; rfl
theorem cAll_sin (n : Nat) (h : n < 128) : cAll.getD (128 + n) 0 = sinP n := by
  unfold cAll
  rw [List.getD_eq_getElem?_getD, cR_get _ _ _ (by omega), if_neg (by omega), show 128 + n - 128 = n by omega, if_pos h]; rfl
/-- the window's n-th, the kernel's (n, k) -/
def winP (n : Nat) : Int := sinP (2 * n + 1)
def kerP (n k : Nat) : Int := cosP ((2 * n + 17) * (2 * k + 1) % 128)
theorem kerP_is (n k : Nat) : kerI (n : Int) (k : Int) = kerP n k := by
  have e : (2 * (n : Int) + 17) * (2 * (k : Int) + 1) = (((2 * n + 17) * (2 * k + 1) : Nat) : Int) := by simp
  have e2 : pl (phI (n : Int) (k : Int)) = (2 * n + 17) * (2 * k + 1) % 128 := by
    unfold pl phI
    rw [e]
    generalize (2 * n + 17) * (2 * k + 1) = z
    omega
  unfold kerI kerP
  rw [e2]
set_option maxRecDepth 100000 in
set_option maxHeartbeats 2000000 in
theorem rwin_any (n : Nat) (w : World) (hn : n < 32) :
    Calls Try.prog 32 #[.agg (icells cAll), .int .i64 (n : Int)] w fun e w' => e = .returned (.int .i64 (winP n)) ∧ Below w.heap.size w w' := by
  have HV := Lib.hid (show cAll.getD (128 + (2 * n + 1)) 0 = winP n from cAll_sin _ (by omega))
  have hn' : (n : Int) < 32 := by omega
  have HM := Lib.hid (Mem.start w)
  go_enter Try.func32, Try.ntmps32
  go_wp2_with (refine wl_box rfl _ _ rfl rfl HM ?_; clear HM; intro g w1 HM; have cq := HM.out.cell (.head _) (k := 128 + (2 * n + 1)) (by rw [cAll_length]; omega); rw [HV.out] at cq)
  go_ret
  exact ⟨rfl, HM.out.1⟩
set_option maxRecDepth 100000 in
set_option maxHeartbeats 2000000 in
theorem rker_any (n k : Nat) (w : World) (hn : n < 32) (hk : k < 16) :
    Calls Try.prog 31 #[.agg (icells cAll), .int .i64 (n : Int), .int .i64 (k : Int)] w fun e w' => e = .returned (.int .i64 (kerP n k)) ∧ Below w.heap.size w w' := by
  obtain ⟨z, hz⟩ : ∃ z : Nat, (2 * n + 17) * (2 * k + 1) = z := ⟨_, rfl⟩
  have hz2 : z ≤ 79 * 31 := by rw [← hz]; exact Nat.mul_le_mul (by omega) (by omega)
  obtain ⟨y, hy⟩ : ∃ y : Nat, z % 128 = y := ⟨_, rfl⟩
  have y1 : y < 128 := by omega
  have HV := Lib.hid (show cAll.getD y 0 = kerP n k by rw [cAll_cos _ y1]; unfold kerP; rw [hz, hy])
  have ez : (2 * (n : Int) + 17) * (2 * (k : Int) + 1) = (z : Int) := by rw [← hz]; push_cast; rfl
  have ey : (z : Int).tmod 128 = (y : Int) := by rw [Int.tmod_eq_emod_of_nonneg (by omega)]; omega
  have hn' : (n : Int) < 32 := by omega
  have hk' : (k : Int) < 16 := by omega
  have HM := Lib.hid (Mem.start w)
  clear hz hy
  go_enter Try.func31, Try.ntmps31
  go_wp2_with (refine wl_box rfl _ _ rfl rfl HM ?_; clear HM; intro g w1 HM; have cq := HM.out.cell (.head _) (k := y) (by rw [cAll_length]; omega); rw [HV.out] at cq)
  go_ret
  exact ⟨rfl, HM.out.1⟩
def RoundQ (w : World) (e : Ending) (w' : World) : Prop := e = .returned (.agg (icells cAll)) ∧ Below w.heap.size w w'
set_option maxRecDepth 100000 in
set_option maxHeartbeats 2000000 in
theorem rnd_any (w : World) : Calls Try.prog 30 #[] w (RoundQ w) := by
  have HM := Lib.hid (Mem.start w)
  go_enter Try.func30, Try.ntmps30
  go_wp2_with (first | (first | (have hq : Hid (Mem _ [] _) := HM; clear hq; (first | refine wl_box rfl _ _ rfl rfl HM ?_ | refine wl_alloc rfl _ rfl (by first | exact arrPcm | exact arrSpec | exact arrTail | exact arrWave | exact arrPair | exact arrRound) HM ?_); clear HM; intro g1 u1 HM) | (have hq : Hid (Mem _ [_] _) := HM; clear hq; (first | refine wl_box rfl _ _ rfl rfl HM ?_ | refine wl_alloc rfl _ rfl (by first | exact arrPcm | exact arrSpec | exact arrTail | exact arrWave | exact arrPair | exact arrRound) HM ?_); clear HM; intro g2 u2 HM) | (have hq : Hid (Mem _ [_, _] _) := HM; clear hq; (first | refine wl_box rfl _ _ rfl rfl HM ?_ | refine wl_alloc rfl _ rfl (by first | exact arrPcm | exact arrSpec | exact arrTail | exact arrWave | exact arrPair | exact arrRound) HM ?_); clear HM; intro g3 u3 HM) | (have hq : Hid (Mem _ [_, _, _] _) := HM; clear hq; (first | refine wl_box rfl _ _ rfl rfl HM ?_ | refine wl_alloc rfl _ rfl (by first | exact arrPcm | exact arrSpec | exact arrTail | exact arrWave | exact arrPair | exact arrRound) HM ?_); clear HM; intro g4 u4 HM) | (have hq : Hid (Mem _ [_, _, _, _] _) := HM; clear hq; (first | refine wl_box rfl _ _ rfl rfl HM ?_ | refine wl_alloc rfl _ rfl (by first | exact arrPcm | exact arrSpec | exact arrTail | exact arrWave | exact arrPair | exact arrRound) HM ?_); clear HM; intro g5 u5 HM) | (have hq : Hid (Mem _ [_, _, _, _, _] _) := HM; clear hq; (first | refine wl_box rfl _ _ rfl rfl HM ?_ | refine wl_alloc rfl _ rfl (by first | exact arrPcm | exact arrSpec | exact arrTail | exact arrWave | exact arrPair | exact arrRound) HM ?_); clear HM; intro g6 u6 HM) | (have hq : Hid (Mem _ [_, _, _, _, _, _] _) := HM; clear hq; (first | refine wl_box rfl _ _ rfl rfl HM ?_ | refine wl_alloc rfl _ rfl (by first | exact arrPcm | exact arrSpec | exact arrTail | exact arrWave | exact arrPair | exact arrRound) HM ?_); clear HM; intro g7 u7 HM) | (have hq : Hid (Mem _ [_, _, _, _, _, _, _] _) := HM; clear hq; (first | refine wl_box rfl _ _ rfl rfl HM ?_ | refine wl_alloc rfl _ rfl (by first | exact arrPcm | exact arrSpec | exact arrTail | exact arrWave | exact arrPair | exact arrRound) HM ?_); clear HM; intro g8 u8 HM) | (have hq : Hid (Mem _ [_, _, _, _, _, _, _, _] _) := HM; clear hq; (first | refine wl_box rfl _ _ rfl rfl HM ?_ | refine wl_alloc rfl _ rfl (by first | exact arrPcm | exact arrSpec | exact arrTail | exact arrWave | exact arrPair | exact arrRound) HM ?_); clear HM; intro g9 u9 HM) | (have hq : Hid (Mem _ [_, _, _, _, _, _, _, _, _] _) := HM; clear hq; (first | refine wl_box rfl _ _ rfl rfl HM ?_ | refine wl_alloc rfl _ rfl (by first | exact arrPcm | exact arrSpec | exact arrTail | exact arrWave | exact arrPair | exact arrRound) HM ?_); clear HM; intro g10 u10 HM) | (have hq : Hid (Mem _ [_, _, _, _, _, _, _, _, _, _] _) := HM; clear hq; (first | refine wl_box rfl _ _ rfl rfl HM ?_ | refine wl_alloc rfl _ rfl (by first | exact arrPcm | exact arrSpec | exact arrTail | exact arrWave | exact arrPair | exact arrRound) HM ?_); clear HM; intro g11 u11 HM) | (have hq : Hid (Mem _ [_, _, _, _, _, _, _, _, _, _, _] _) := HM; clear hq; (first | refine wl_box rfl _ _ rfl rfl HM ?_ | refine wl_alloc rfl _ rfl (by first | exact arrPcm | exact arrSpec | exact arrTail | exact arrWave | exact arrPair | exact arrRound) HM ?_); clear HM; intro g12 u12 HM)) | (refine wl_load rfl _ _ rfl rfl (by first | exact arrPcm | exact arrSpec | exact arrTail | exact arrWave | exact arrPair | exact arrRound) HM (by first | exact .head _ | exact .tail _ (.head _) | exact .tail _ (.tail _ (.head _)) | exact .tail _ (.tail _ (.tail _ (.head _))) | exact .tail _ (.tail _ (.tail _ (.tail _ (.head _)))) | exact .tail _ (.tail _ (.tail _ (.tail _ (.tail _ (.head _))))) | exact .tail _ (.tail _ (.tail _ (.tail _ (.tail _ (.tail _ (.head _)))))) | exact .tail _ (.tail _ (.tail _ (.tail _ (.tail _ (.tail _ (.tail _ (.head _))))))) | exact .tail _ (.tail _ (.tail _ (.tail _ (.tail _ (.tail _ (.tail _ (.tail _ (.head _)))))))) | exact .tail _ (.tail _ (.tail _ (.tail _ (.tail _ (.tail _ (.tail _ (.tail _ (.tail _ (.head _))))))))) | exact .tail _ (.tail _ (.tail _ (.tail _ (.tail _ (.tail _ (.tail _ (.tail _ (.tail _ (.tail _ (.head _)))))))))) | exact .tail _ (.tail _ (.tail _ (.tail _ (.tail _ (.tail _ (.tail _ (.tail _ (.tail _ (.tail _ (.tail _ (.head _)))))))))))) (by first | (with_reducible assumption) | (with_reducible exact Lib.hid (zr_length _)) | (with_reducible exact Lib.hid (tab_length _ _))) ?_) | (first | (refine wl_store rfl _ _ _ rfl rfl rfl (by first | exact arrPcm | exact arrSpec | exact arrTail | exact arrWave | exact arrPair | exact arrRound) HM 0 rfl (by first | (with_reducible assumption) | (with_reducible exact Lib.hid (zr_length _)) | (with_reducible exact Lib.hid (tab_length _ _))) (by first | (with_reducible assumption) | (with_reducible exact Lib.hid (zr_length _)) | (with_reducible exact Lib.hid (tab_length _ _))) ?_; clear HM; intro us HM; simp only [List.set_cons_zero] at HM) | (refine wl_store rfl _ _ _ rfl rfl rfl (by first | exact arrPcm | exact arrSpec | exact arrTail | exact arrWave | exact arrPair | exact arrRound) HM 1 rfl (by first | (with_reducible assumption) | (with_reducible exact Lib.hid (zr_length _)) | (with_reducible exact Lib.hid (tab_length _ _))) (by first | (with_reducible assumption) | (with_reducible exact Lib.hid (zr_length _)) | (with_reducible exact Lib.hid (tab_length _ _))) ?_; clear HM; intro us HM; simp only [List.set_cons_zero, List.set_cons_succ] at HM) | (refine wl_store rfl _ _ _ rfl rfl rfl (by first | exact arrPcm | exact arrSpec | exact arrTail | exact arrWave | exact arrPair | exact arrRound) HM 2 rfl (by first | (with_reducible assumption) | (with_reducible exact Lib.hid (zr_length _)) | (with_reducible exact Lib.hid (tab_length _ _))) (by first | (with_reducible assumption) | (with_reducible exact Lib.hid (zr_length _)) | (with_reducible exact Lib.hid (tab_length _ _))) ?_; clear HM; intro us HM; simp only [List.set_cons_zero, List.set_cons_succ] at HM) | (refine wl_store rfl _ _ _ rfl rfl rfl (by first | exact arrPcm | exact arrSpec | exact arrTail | exact arrWave | exact arrPair | exact arrRound) HM 3 rfl (by first | (with_reducible assumption) | (with_reducible exact Lib.hid (zr_length _)) | (with_reducible exact Lib.hid (tab_length _ _))) (by first | (with_reducible assumption) | (with_reducible exact Lib.hid (zr_length _)) | (with_reducible exact Lib.hid (tab_length _ _))) ?_; clear HM; intro us HM; simp only [List.set_cons_zero, List.set_cons_succ] at HM) | (refine wl_store rfl _ _ _ rfl rfl rfl (by first | exact arrPcm | exact arrSpec | exact arrTail | exact arrWave | exact arrPair | exact arrRound) HM 4 rfl (by first | (with_reducible assumption) | (with_reducible exact Lib.hid (zr_length _)) | (with_reducible exact Lib.hid (tab_length _ _))) (by first | (with_reducible assumption) | (with_reducible exact Lib.hid (zr_length _)) | (with_reducible exact Lib.hid (tab_length _ _))) ?_; clear HM; intro us HM; simp only [List.set_cons_zero, List.set_cons_succ] at HM) | (refine wl_store rfl _ _ _ rfl rfl rfl (by first | exact arrPcm | exact arrSpec | exact arrTail | exact arrWave | exact arrPair | exact arrRound) HM 5 rfl (by first | (with_reducible assumption) | (with_reducible exact Lib.hid (zr_length _)) | (with_reducible exact Lib.hid (tab_length _ _))) (by first | (with_reducible assumption) | (with_reducible exact Lib.hid (zr_length _)) | (with_reducible exact Lib.hid (tab_length _ _))) ?_; clear HM; intro us HM; simp only [List.set_cons_zero, List.set_cons_succ] at HM) | (refine wl_store rfl _ _ _ rfl rfl rfl (by first | exact arrPcm | exact arrSpec | exact arrTail | exact arrWave | exact arrPair | exact arrRound) HM 6 rfl (by first | (with_reducible assumption) | (with_reducible exact Lib.hid (zr_length _)) | (with_reducible exact Lib.hid (tab_length _ _))) (by first | (with_reducible assumption) | (with_reducible exact Lib.hid (zr_length _)) | (with_reducible exact Lib.hid (tab_length _ _))) ?_; clear HM; intro us HM; simp only [List.set_cons_zero, List.set_cons_succ] at HM) | (refine wl_store rfl _ _ _ rfl rfl rfl (by first | exact arrPcm | exact arrSpec | exact arrTail | exact arrWave | exact arrPair | exact arrRound) HM 7 rfl (by first | (with_reducible assumption) | (with_reducible exact Lib.hid (zr_length _)) | (with_reducible exact Lib.hid (tab_length _ _))) (by first | (with_reducible assumption) | (with_reducible exact Lib.hid (zr_length _)) | (with_reducible exact Lib.hid (tab_length _ _))) ?_; clear HM; intro us HM; simp only [List.set_cons_zero, List.set_cons_succ] at HM)) | (refine wl_zero rfl _ rfl (by first | exact arrPcm | exact arrSpec | exact arrTail | exact arrWave | exact arrPair | exact arrRound) (by kernel_rfl) ?_))
  go_loopw [3] (fun vi wr => ∃ k : Nat, k ≤ 128 ∧ vi = .int .i64 (k : Int) ∧ Hid (Mem w [(g2, 61, cR k k), (g1, 61, zr 256)] wr)) (fun vi _ => 128 - (intOf vi).toNat)
  case atStart => exact ⟨0, by omega, rfl, Lib.hid (by rw [cR_none]; exact HM.out)⟩
  case round =>
    clear HM
    obtain ⟨k, hk, rfl, HM⟩ := hrel
    by_cases hlt : k < 128
    · have e1 := cR_cos k k hlt
      have e2 := cR_sin (k + 1) k hlt
      have HE1 := Lib.hid e1
      have HE2 := Lib.hid e2
      have hp : pl (k : Int) = k := by unfold pl; omega
      have HC := Lib.hid (rcos_any (k : Int))
      have HS := Lib.hid (rsin_any (k : Int))
      rw [hp] at HC HS
      clear e1 e2 hp
      have c1 := HM.out.cell (.head _) (k := k) (by rw [cR_length]; omega)
      have f1 := HM.out.free (.head _) k
      go_wp2_with fail
      refine (HC.out _).mono ?_
      rintro e w' ⟨rfl, rfl⟩
      generalize (cR k k).getD k 0 = z at c1
      go_wp2_with fail
      have HM2 := Lib.hid (HM.out.put 0 rfl k (cosP k))
      simp only [List.set_cons_zero] at HM2
      rw [HE1.out] at HM2
      clear HM c1 f1
      generalize World.setCell _ _ _ = w2 at HM2 ⊢
      have c1 := HM2.out.cell (.head _) (k := 128 + k) (by rw [cR_length]; omega)
      have f1 := HM2.out.free (.head _) (128 + k)
      generalize (cR (k + 1) k).getD (128 + k) 0 = z at c1
      refine (HS.out _).mono ?_
      rintro e w' ⟨rfl, rfl⟩
      go_wp2_with fail
      have HM3 := Lib.hid (HM2.out.put 0 rfl (128 + k) (sinP k))
      simp only [List.set_cons_zero] at HM3
      rw [HE2.out] at HM3
      clear HM2 c1 f1
      go_roundw
      case rel => exact ⟨k + 1, by omega, by go_num, HM3⟩
      case measure => simp [intOf]; omega
    · obtain rfl : k = 128 := by omega
      have HL := Lib.hid (show (cR 128 128).length = 256 from cR_length _ _)
      go_wp2_with (first | (first | (have hq : Hid (Mem _ [] _) := HM; clear hq; (first | refine wl_box rfl _ _ rfl rfl HM ?_ | refine wl_alloc rfl _ rfl (by first | exact arrPcm | exact arrSpec | exact arrTail | exact arrWave | exact arrPair | exact arrRound) HM ?_); clear HM; intro g1 u1 HM) | (have hq : Hid (Mem _ [_] _) := HM; clear hq; (first | refine wl_box rfl _ _ rfl rfl HM ?_ | refine wl_alloc rfl _ rfl (by first | exact arrPcm | exact arrSpec | exact arrTail | exact arrWave | exact arrPair | exact arrRound) HM ?_); clear HM; intro g2 u2 HM) | (have hq : Hid (Mem _ [_, _] _) := HM; clear hq; (first | refine wl_box rfl _ _ rfl rfl HM ?_ | refine wl_alloc rfl _ rfl (by first | exact arrPcm | exact arrSpec | exact arrTail | exact arrWave | exact arrPair | exact arrRound) HM ?_); clear HM; intro g3 u3 HM) | (have hq : Hid (Mem _ [_, _, _] _) := HM; clear hq; (first | refine wl_box rfl _ _ rfl rfl HM ?_ | refine wl_alloc rfl _ rfl (by first | exact arrPcm | exact arrSpec | exact arrTail | exact arrWave | exact arrPair | exact arrRound) HM ?_); clear HM; intro g4 u4 HM) | (have hq : Hid (Mem _ [_, _, _, _] _) := HM; clear hq; (first | refine wl_box rfl _ _ rfl rfl HM ?_ | refine wl_alloc rfl _ rfl (by first | exact arrPcm | exact arrSpec | exact arrTail | exact arrWave | exact arrPair | exact arrRound) HM ?_); clear HM; intro g5 u5 HM) | (have hq : Hid (Mem _ [_, _, _, _, _] _) := HM; clear hq; (first | refine wl_box rfl _ _ rfl rfl HM ?_ | refine wl_alloc rfl _ rfl (by first | exact arrPcm | exact arrSpec | exact arrTail | exact arrWave | exact arrPair | exact arrRound) HM ?_); clear HM; intro g6 u6 HM) | (have hq : Hid (Mem _ [_, _, _, _, _, _] _) := HM; clear hq; (first | refine wl_box rfl _ _ rfl rfl HM ?_ | refine wl_alloc rfl _ rfl (by first | exact arrPcm | exact arrSpec | exact arrTail | exact arrWave | exact arrPair | exact arrRound) HM ?_); clear HM; intro g7 u7 HM) | (have hq : Hid (Mem _ [_, _, _, _, _, _, _] _) := HM; clear hq; (first | refine wl_box rfl _ _ rfl rfl HM ?_ | refine wl_alloc rfl _ rfl (by first | exact arrPcm | exact arrSpec | exact arrTail | exact arrWave | exact arrPair | exact arrRound) HM ?_); clear HM; intro g8 u8 HM) | (have hq : Hid (Mem _ [_, _, _, _, _, _, _, _] _) := HM; clear hq; (first | refine wl_box rfl _ _ rfl rfl HM ?_ | refine wl_alloc rfl _ rfl (by first | exact arrPcm | exact arrSpec | exact arrTail | exact arrWave | exact arrPair | exact arrRound) HM ?_); clear HM; intro g9 u9 HM) | (have hq : Hid (Mem _ [_, _, _, _, _, _, _, _, _] _) := HM; clear hq; (first | refine wl_box rfl _ _ rfl rfl HM ?_ | refine wl_alloc rfl _ rfl (by first | exact arrPcm | exact arrSpec | exact arrTail | exact arrWave | exact arrPair | exact arrRound) HM ?_); clear HM; intro g10 u10 HM) | (have hq : Hid (Mem _ [_, _, _, _, _, _, _, _, _, _] _) := HM; clear hq; (first | refine wl_box rfl _ _ rfl rfl HM ?_ | refine wl_alloc rfl _ rfl (by first | exact arrPcm | exact arrSpec | exact arrTail | exact arrWave | exact arrPair | exact arrRound) HM ?_); clear HM; intro g11 u11 HM) | (have hq : Hid (Mem _ [_, _, _, _, _, _, _, _, _, _, _] _) := HM; clear hq; (first | refine wl_box rfl _ _ rfl rfl HM ?_ | refine wl_alloc rfl _ rfl (by first | exact arrPcm | exact arrSpec | exact arrTail | exact arrWave | exact arrPair | exact arrRound) HM ?_); clear HM; intro g12 u12 HM)) | (refine wl_load rfl _ _ rfl rfl (by first | exact arrPcm | exact arrSpec | exact arrTail | exact arrWave | exact arrPair | exact arrRound) HM (by first | exact .head _ | exact .tail _ (.head _) | exact .tail _ (.tail _ (.head _)) | exact .tail _ (.tail _ (.tail _ (.head _))) | exact .tail _ (.tail _ (.tail _ (.tail _ (.head _)))) | exact .tail _ (.tail _ (.tail _ (.tail _ (.tail _ (.head _))))) | exact .tail _ (.tail _ (.tail _ (.tail _ (.tail _ (.tail _ (.head _)))))) | exact .tail _ (.tail _ (.tail _ (.tail _ (.tail _ (.tail _ (.tail _ (.head _))))))) | exact .tail _ (.tail _ (.tail _ (.tail _ (.tail _ (.tail _ (.tail _ (.tail _ (.head _)))))))) | exact .tail _ (.tail _ (.tail _ (.tail _ (.tail _ (.tail _ (.tail _ (.tail _ (.tail _ (.head _))))))))) | exact .tail _ (.tail _ (.tail _ (.tail _ (.tail _ (.tail _ (.tail _ (.tail _ (.tail _ (.tail _ (.head _)))))))))) | exact .tail _ (.tail _ (.tail _ (.tail _ (.tail _ (.tail _ (.tail _ (.tail _ (.tail _ (.tail _ (.tail _ (.head _)))))))))))) (by first | (with_reducible assumption) | (with_reducible exact Lib.hid (zr_length _)) | (with_reducible exact Lib.hid (tab_length _ _))) ?_) | (first | (refine wl_store rfl _ _ _ rfl rfl rfl (by first | exact arrPcm | exact arrSpec | exact arrTail | exact arrWave | exact arrPair | exact arrRound) HM 0 rfl (by first | (with_reducible assumption) | (with_reducible exact Lib.hid (zr_length _)) | (with_reducible exact Lib.hid (tab_length _ _))) (by first | (with_reducible assumption) | (with_reducible exact Lib.hid (zr_length _)) | (with_reducible exact Lib.hid (tab_length _ _))) ?_; clear HM; intro us HM; simp only [List.set_cons_zero] at HM) | (refine wl_store rfl _ _ _ rfl rfl rfl (by first | exact arrPcm | exact arrSpec | exact arrTail | exact arrWave | exact arrPair | exact arrRound) HM 1 rfl (by first | (with_reducible assumption) | (with_reducible exact Lib.hid (zr_length _)) | (with_reducible exact Lib.hid (tab_length _ _))) (by first | (with_reducible assumption) | (with_reducible exact Lib.hid (zr_length _)) | (with_reducible exact Lib.hid (tab_length _ _))) ?_; clear HM; intro us HM; simp only [List.set_cons_zero, List.set_cons_succ] at HM) | (refine wl_store rfl _ _ _ rfl rfl rfl (by first | exact arrPcm | exact arrSpec | exact arrTail | exact arrWave | exact arrPair | exact arrRound) HM 2 rfl (by first | (with_reducible assumption) | (with_reducible exact Lib.hid (zr_length _)) | (with_reducible exact Lib.hid (tab_length _ _))) (by first | (with_reducible assumption) | (with_reducible exact Lib.hid (zr_length _)) | (with_reducible exact Lib.hid (tab_length _ _))) ?_; clear HM; intro us HM; simp only [List.set_cons_zero, List.set_cons_succ] at HM) | (refine wl_store rfl _ _ _ rfl rfl rfl (by first | exact arrPcm | exact arrSpec | exact arrTail | exact arrWave | exact arrPair | exact arrRound) HM 3 rfl (by first | (with_reducible assumption) | (with_reducible exact Lib.hid (zr_length _)) | (with_reducible exact Lib.hid (tab_length _ _))) (by first | (with_reducible assumption) | (with_reducible exact Lib.hid (zr_length _)) | (with_reducible exact Lib.hid (tab_length _ _))) ?_; clear HM; intro us HM; simp only [List.set_cons_zero, List.set_cons_succ] at HM) | (refine wl_store rfl _ _ _ rfl rfl rfl (by first | exact arrPcm | exact arrSpec | exact arrTail | exact arrWave | exact arrPair | exact arrRound) HM 4 rfl (by first | (with_reducible assumption) | (with_reducible exact Lib.hid (zr_length _)) | (with_reducible exact Lib.hid (tab_length _ _))) (by first | (with_reducible assumption) | (with_reducible exact Lib.hid (zr_length _)) | (with_reducible exact Lib.hid (tab_length _ _))) ?_; clear HM; intro us HM; simp only [List.set_cons_zero, List.set_cons_succ] at HM) | (refine wl_store rfl _ _ _ rfl rfl rfl (by first | exact arrPcm | exact arrSpec | exact arrTail | exact arrWave | exact arrPair | exact arrRound) HM 5 rfl (by first | (with_reducible assumption) | (with_reducible exact Lib.hid (zr_length _)) | (with_reducible exact Lib.hid (tab_length _ _))) (by first | (with_reducible assumption) | (with_reducible exact Lib.hid (zr_length _)) | (with_reducible exact Lib.hid (tab_length _ _))) ?_; clear HM; intro us HM; simp only [List.set_cons_zero, List.set_cons_succ] at HM) | (refine wl_store rfl _ _ _ rfl rfl rfl (by first | exact arrPcm | exact arrSpec | exact arrTail | exact arrWave | exact arrPair | exact arrRound) HM 6 rfl (by first | (with_reducible assumption) | (with_reducible exact Lib.hid (zr_length _)) | (with_reducible exact Lib.hid (tab_length _ _))) (by first | (with_reducible assumption) | (with_reducible exact Lib.hid (zr_length _)) | (with_reducible exact Lib.hid (tab_length _ _))) ?_; clear HM; intro us HM; simp only [List.set_cons_zero, List.set_cons_succ] at HM) | (refine wl_store rfl _ _ _ rfl rfl rfl (by first | exact arrPcm | exact arrSpec | exact arrTail | exact arrWave | exact arrPair | exact arrRound) HM 7 rfl (by first | (with_reducible assumption) | (with_reducible exact Lib.hid (zr_length _)) | (with_reducible exact Lib.hid (tab_length _ _))) (by first | (with_reducible assumption) | (with_reducible exact Lib.hid (zr_length _)) | (with_reducible exact Lib.hid (tab_length _ _))) ?_; clear HM; intro us HM; simp only [List.set_cons_zero, List.set_cons_succ] at HM)) | (refine wl_zero rfl _ rfl (by first | exact arrPcm | exact arrSpec | exact arrTail | exact arrWave | exact arrPair | exact arrRound) (by kernel_rfl) ?_))
      refine bodyPost_ret (v := .agg (icells cAll)) (res_one rfl _ rfl arrRound HM (.tail _ (.head _)) HL) rfl ⟨rfl, HM.out.1⟩
end Go.Proofs.Ytplfcncibmgllaa.Lp
