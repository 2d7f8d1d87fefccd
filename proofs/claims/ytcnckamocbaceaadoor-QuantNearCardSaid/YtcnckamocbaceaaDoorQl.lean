/-
  Own texts, laid together: Ql.
-/
import Derived.Test.YtcnckamocbaceaaDoorQk
/- Ql -/
namespace Go.Proofs.YtcnckamocbaceaaDoor.Lp
open Go.RowKit Go.Proofs.YtcnckamocbaceaaDoor.Fx Go.Proofs.YtcnckamocbaceaaDoor.Fq Go.Proofs.YtcnckamocbaceaaDoor.Tb
/-- the greatest of the first k, and 0 -/
def topN (l : List Int) : Nat → Int
  | 0 => 0
  | k + 1 => max (topN l k) (l.getD k 0)
theorem topN_succ (l : List Int) (k : Nat) : topN l (k + 1) = max (topN l k) (l.getD k 0) := rfl
theorem topN_ge {l : List Int} : ∀ n k, k < n → l.getD k 0 ≤ topN l n
  | n + 1, k, hk => by
    rw [topN_succ]
    by_cases e : k = n
    · subst e; omega
    · have := topN_ge (l := l) n k (by omega); omega
theorem topN_bd {l : List Int} (h : chkL l = true) : ∀ n, 0 ≤ topN l n ∧ topN l n ≤ 255
  | 0 => by unfold topN; omega
  | n + 1 => by
    have h1 := topN_bd h n
    have h2 := inR_bd h (by omega) (by omega) n
    rw [topN_succ]; omega
set_option maxRecDepth 100000 in
set_option maxHeartbeats 4000000 in
theorem rloud_good (l : List Int) (w : World) (ll : l.length = 6) (hc : chkL l = true) : Calls Tryd.prog 29 #[.agg (icells l)] w (ValQ w (.int .i64 (topN l 6))) := by
  have LL := Lib.hid ll
  have HM := Lib.hid (Mem.start w)
  have HC := Lib.hid (fun u => rbcheck_any l true 0 u ll hc rfl)
  have HT := Lib.hid (topN_bd hc)
  have HL := Lib.hid (fun k => inR_bd hc (by omega) (by omega) k)
  clear ll hc
  go_enter Tryd.func29, Tryd.ntmps29
  go_wp2_with (first | ((first | refine wl_box rfl _ _ rfl rfl HM ?_ | refine wl_alloc rfl _ rfl (by exact arrOf) HM ?_); first | (have q : dL HM = 0 := rfl; clear q HM; intro g1 u1 HM) | (have q : dL HM = 1 := rfl; clear q HM; intro g2 u2 HM) | (have q : dL HM = 2 := rfl; clear q HM; intro g3 u3 HM) | (have q : dL HM = 3 := rfl; clear q HM; intro g4 u4 HM) | (have q : dL HM = 4 := rfl; clear q HM; intro g5 u5 HM) | (have q : dL HM = 5 := rfl; clear q HM; intro g6 u6 HM) | (have q : dL HM = 6 := rfl; clear q HM; intro g7 u7 HM) | (have q : dL HM = 7 := rfl; clear q HM; intro g8 u8 HM) | (have q : dL HM = 8 := rfl; clear q HM; intro g9 u9 HM) | (have q : dL HM = 9 := rfl; clear q HM; intro g10 u10 HM) | (have q : dL HM = 10 := rfl; clear q HM; intro g11 u11 HM) | (have q : dL HM = 11 := rfl; clear q HM; intro g12 u12 HM) | (have q : dL HM = 12 := rfl; clear q HM; intro g13 u13 HM) | (have q : dL HM = 13 := rfl; clear q HM; intro g14 u14 HM)) | (refine wl_load rfl _ _ rfl rfl (by exact arrOf) HM (by exact memOf) (by exact lenOf) ?_) | (refine wl_storeM rfl _ _ _ rfl rfl rfl (by exact arrOf) HM (by exact idxOf) (by exact lenOf) (by exact lenOf) ?_; clear HM; intro us HM; dsimp only [List.set] at HM) | (refine wl_zero rfl _ rfl (by exact arrOf) (by kernel_rfl) ?_))
  refine (HC.out _).mono ?_
  rintro e w2 ⟨rfl, h1⟩
  have HM2 := Lib.hid (HM.out.below h1)
  clear h1 HM HC
  have HM := HM2
  clear HM2
  go_wp2_with (first | ((first | refine wl_box rfl _ _ rfl rfl HM ?_ | refine wl_alloc rfl _ rfl (by exact arrOf) HM ?_); first | (have q : dL HM = 0 := rfl; clear q HM; intro g1 u1 HM) | (have q : dL HM = 1 := rfl; clear q HM; intro g2 u2 HM) | (have q : dL HM = 2 := rfl; clear q HM; intro g3 u3 HM) | (have q : dL HM = 3 := rfl; clear q HM; intro g4 u4 HM) | (have q : dL HM = 4 := rfl; clear q HM; intro g5 u5 HM) | (have q : dL HM = 5 := rfl; clear q HM; intro g6 u6 HM) | (have q : dL HM = 6 := rfl; clear q HM; intro g7 u7 HM) | (have q : dL HM = 7 := rfl; clear q HM; intro g8 u8 HM) | (have q : dL HM = 8 := rfl; clear q HM; intro g9 u9 HM) | (have q : dL HM = 9 := rfl; clear q HM; intro g10 u10 HM) | (have q : dL HM = 10 := rfl; clear q HM; intro g11 u11 HM) | (have q : dL HM = 11 := rfl; clear q HM; intro g12 u12 HM) | (have q : dL HM = 12 := rfl; clear q HM; intro g13 u13 HM) | (have q : dL HM = 13 := rfl; clear q HM; intro g14 u14 HM)) | (refine wl_load rfl _ _ rfl rfl (by exact arrOf) HM (by exact memOf) (by exact lenOf) ?_) | (refine wl_storeM rfl _ _ _ rfl rfl rfl (by exact arrOf) HM (by exact idxOf) (by exact lenOf) (by exact lenOf) ?_; clear HM; intro us HM; dsimp only [List.set] at HM) | (refine wl_zero rfl _ rfl (by exact arrOf) (by kernel_rfl) ?_))
  go_loop [3, 10] (fun vn vi => ∃ k : Nat, k ≤ 6 ∧ vi = .int .i64 (k : Int) ∧ vn = .int .i64 (topN l k)) (fun _ vi => 6 - (intOf vi).toNat)
  case atStart => exact ⟨0, by omega, rfl, rfl⟩
  case round =>
    obtain ⟨k, hk, rfl, rfl⟩ := hrel
    by_cases hlt : k < 6
    · have k6 : (k : Int) < 6 := by omega
      have hix := run_index 32 (n := 6) (by kernel_rfl) l LL.out k hlt
      have HS := Lib.hid (topN_succ l k)
      generalize l.getD k 0 = v at hix HS
      generalize topN l k = z at HS ⊢
      go_wp2
      go_round
      case rel => exact ⟨k + 1, by omega, by go_num, by rw [HS.out]⟩
      case measure => simp [intOf]; omega
    · obtain rfl : k = 6 := by omega
      go_wp2
      go_ret
      exact ⟨rfl, HM.out.1⟩
theorem stepN_most {l k : Nat} (_hk : 1 ≤ k) : mostN k * stepN l k ≤ peakN l + mostN k := by
  unfold stepN
  have := Nat.mul_div_le (peakN l + mostN k - 1) (mostN k)
  omega
theorem peak200 : ∀ l, l < 201 → peakN l ≤ 33554433 := by decide +kernel
theorem clampI_in {v b : Int} (h1 : -b ≤ v) (h2 : v ≤ b) : clampI v b = v := by unfold clampI; omega
/-- of a number with a step and a most: made great it is q * s; back it is q -/
theorem again_at {q l : List Int} (hc : chkL l = true) (ht : topN l 6 ≤ 200) (hm : mayB q l = true) {k : Nat} (hk : k < 16) :
    -67108864 ≤ q.getD k 0 * (ssL l).getD k 0 ∧ q.getD k 0 * (ssL l).getD k 0 ≤ 67108864 ∧ -((msL l).getD k 0) ≤ q.getD k 0 ∧ q.getD k 0 ≤ (msL l).getD k 0 ∧ (¬ 0 < (ssL l).getD k 0 → q.getD k 0 = 0) := by
  unfold mayB at hm
  rw [Bool.and_eq_true] at hm
  have h1 := mayN_at 16 k hk hm.2
  have hb := (bnd_all k hk).1
  have ha := (share_ok l (B := 120) (by decide)).1.2 (bnd k) hb
  have hl := inR_bd hc (by omega) (by omega) (bnd k)
  have hl2 := topN_ge (l := l) 6 (bnd k) hb
  have es : (ssL l).getD k 0 = stF l (shareL l 120) k := by unfold ssL; rw [if_pos hc]; exact tab_getD _ hk
  have em : (msL l).getD k 0 = moF (shareL l 120) k := by unfold msL; rw [if_pos hc]; exact tab_getD _ hk
  rw [stF_is] at es
  rw [moF_is] at em
  by_cases hp : 0 < (shareL l 120).getD (bnd k) 0
  · rw [if_pos hp] at es em
    have hk1 : 1 ≤ ((shareL l 120).getD (bnd k) 0).toNat := by omega
    have s1 := stepN_most (l := (l.getD (bnd k) 0).toNat) hk1
    have s2 := stepN_bd (l := (l.getD (bnd k) 0).toNat) (by omega) hk1 (by omega)
    have s3 := peak200 (l.getD (bnd k) 0).toNat (by omega)
    have s4 := mostN_bd _ (show ((shareL l 120).getD (bnd k) 0).toNat ≤ 7 by omega)
    generalize stepN _ _ = s at es s1 s2
    generalize mostN _ = m at em s1 s4
    generalize peakN _ = p at s1 s3
    rw [em] at h1
    rw [es, em]
    have h2 : q.getD k 0 * (s : Int) ≤ (m : Int) * (s : Int) := Int.mul_le_mul_of_nonneg_right h1.2 (by omega)
    have h3 : -(m : Int) * (s : Int) ≤ q.getD k 0 * (s : Int) := Int.mul_le_mul_of_nonneg_right h1.1 (by omega)
    rw [Int.neg_mul] at h3
    have h4 : ((m * s : Nat) : Int) = (m : Int) * (s : Int) := Int.natCast_mul m s
    refine ⟨by omega, by omega, by omega, by omega, fun h => ?_⟩
    omega
  · rw [if_neg hp] at es em
    rw [em] at h1
    have e0 : q.getD k 0 = 0 := by omega
    rw [es, em, e0]
    exact ⟨by decide, by decide, by decide, by decide, fun _ => rfl⟩
theorem great_at {q l : List Int} (hc : chkL l = true) (ht : topN l 6 ≤ 200) (hm : mayB q l = true) {k : Nat} (hk : k < 16) : (greatL q l).getD k 0 = q.getD k 0 * (ssL l).getD k 0 := by
  have h := again_at hc ht hm hk
  unfold greatL
  rw [tab_getD _ hk]
  exact clampI_in h.1 h.2.1
theorem great_okX (q l : List Int) : okX (greatL q l) = true :=
  (inR_iff (greatL_length q l)).2 fun k hk => by
    unfold greatL
    rw [tab_getD _ hk]
    unfold greatF clampI
    omega
theorem small_back {q l : List Int} (lq : q.length = 16) (hc : chkL l = true) (ht : topN l 6 ≤ 200) (hm : mayB q l = true) : smallL (greatL q l) l = q := by
  refine getD_ext (by rw [smallL_length, lq]) fun k hk => ?_
  rw [smallL_length] at hk
  have h := again_at hc ht hm hk
  unfold smallL
  rw [tab_getD _ hk]
  unfold smallF
  rw [great_at hc ht hm hk]
  by_cases hs : 0 < (ssL l).getD k 0
  · rw [if_pos hs, divI_mul _ (by omega)]
    exact clampI_in h.2.2.1 h.2.2.2.1
  · rw [if_neg hs, h.2.2.2.2 hs]
/-- turned over -/
def negL (q : List Int) : List Int := tab 16 (fun k => -(q.getD k 0))
theorem may_neg {q l : List Int} (hm : mayB q l = true) : mayB (negL q) l = true := by
  unfold mayB at hm ⊢
  rw [Bool.and_eq_true] at hm ⊢
  refine ⟨hm.1, ?_⟩
  have h1 := fun k hk => mayN_at (q := q) (m := msL l) 16 k hk hm.2
  have key : ∀ n, n ≤ 16 → mayN (negL q) (msL l) n = true := fun n => by
    induction n with
    | zero => intro _; rfl
    | succ n ih =>
      intro hn
      rw [mayN_succ, ih (by omega)]
      have e : (negL q).getD n 0 = -(q.getD n 0) := tab_getD _ (by omega)
      have := h1 n (by omega)
      rw [e, decide_eq_true (show -(msL l).getD n 0 ≤ -q.getD n 0 by omega), decide_eq_true (show -q.getD n 0 ≤ (msL l).getD n 0 by omega)]
      rfl
  exact key 16 (by omega)
theorem great_neg {q l : List Int} (hc : chkL l = true) (ht : topN l 6 ≤ 200) (hm : mayB q l = true) {k : Nat} (hk : k < 16) : (greatL (negL q) l).getD k 0 = -((greatL q l).getD k 0) := by
  rw [great_at hc ht hm hk, great_at hc ht (may_neg hm) hk, show (negL q).getD k 0 = -(q.getD k 0) from tab_getD _ hk, Int.neg_mul]
end Go.Proofs.YtcnckamocbaceaaDoor.Lp
