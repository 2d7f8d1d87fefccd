/-
  What New, Flush and Gaps answer.
-/
import Derived.Test.YtffapinabidkiaaUU
set_option linter.unusedSimpArgs false
set_option linter.unusedVariables false
/- UV -/
namespace Go.Proofs.Ytffapinabidkiaa.Lp
open Go.RowKit Go.Proofs.Ytffapinabidkiaa.Fq
theorem okJ_new (d : Int) : OkJ ⟨false, 0, d, 0, []⟩ ↔ 1 ≤ d ∧ d ≤ 16 := by
  constructor
  · intro h; exact ⟨h.1.1, h.1.2.1⟩
  · intro h
    exact ⟨⟨h.1, h.2, Int.le_refl _, Int.le_refl 0, Int.le_refl _, Int.le_refl 0⟩, fun p hp => (nomatch hp), .nil, fun p hp => (nomatch hp)⟩
def newV (d : Int) : Value := if 1 ≤ d ∧ d ≤ 16 then .tuple #[jtV false 0 d 0 none 0 0, .int .i64 0] else .tuple #[zeroJ, .int .i64 1]
set_option maxRecDepth 100000 in
set_option maxHeartbeats 4000000 in
theorem New_any (d : Int) (w : World) : Calls Try.prog 10 #[.int .i64 d] w (ValQ w (newV d)) := by
  have HM := Lib.hid (MV.start w)
  obtain ⟨ck, hck⟩ : ∃ ck, ck = ckE ⟨false, 0, d, 0, ([] : List Pk).map pl⟩ := ⟨_, rfl⟩
  have HCK := Lib.hid (fun u => check_any false 0 d 0 none 0 0 [] u (Lib.hid RdP.none_) (by omega))
  rw [← hck] at HCK
  have HCE := Lib.hid hck
  clear hck
  by_cases hd : 1 ≤ d ∧ d ≤ 16
  · obtain rfl : ck = 0 := by rw [HCE.out]; exact if_pos ((okJ_new d).2 hd)
    have HV := Lib.hid (show newV d = .tuple #[jtV false 0 d 0 none 0 0, .int .i64 0] from if_pos hd)
    clear hd
    go_enter Try.func10, Try.ntmps10
    go_wp2_with (first | (refine jL ?_) | (refine jS ?_; clear HM; intro us HM; simp only [List.set, List.setIfInBounds_toArray, List.set_cons_zero, List.set_cons_succ] at HM) | (refine jN ?_; first | (have q : dV HM = 0 := rfl; clear q HM; intro g1 u1 HG1 HM) | (have q : dV HM = 1 := rfl; clear q HM; intro g2 u2 HG2 HM) | (have q : dV HM = 2 := rfl; clear q HM; intro g3 u3 HG3 HM) | (have q : dV HM = 3 := rfl; clear q HM; intro g4 u4 HG4 HM) | (have q : dV HM = 4 := rfl; clear q HM; intro g5 u5 HG5 HM) | (have q : dV HM = 5 := rfl; clear q HM; intro g6 u6 HG6 HM) | (have q : dV HM = 6 := rfl; clear q HM; intro g7 u7 HG7 HM) | (have q : dV HM = 7 := rfl; clear q HM; intro g8 u8 HG8 HM) | (have q : dV HM = 8 := rfl; clear q HM; intro g9 u9 HG9 HM) | (have q : dV HM = 9 := rfl; clear q HM; intro g10 u10 HG10 HM) | (have q : dV HM = 10 := rfl; clear q HM; intro g11 u11 HG11 HM) | (have q : dV HM = 11 := rfl; clear q HM; intro g12 u12 HG12 HM) | (have q : dV HM = 12 := rfl; clear q HM; intro g13 u13 HG13 HM) | (have q : dV HM = 13 := rfl; clear q HM; intro g14 u14 HG14 HM)))
    refine (fresh_any d _).mono ?_
    rintro e u3 ⟨rfl, hb⟩
    have HM2 := Lib.hid (HM.out.below hb)
    clear hb HM
    have HM := HM2
    clear HM2
    go_wp2_with (first | (refine jL ?_) | (refine jS ?_; clear HM; intro us HM; simp only [List.set, List.setIfInBounds_toArray, List.set_cons_zero, List.set_cons_succ] at HM) | (refine jN ?_; first | (have q : dV HM = 0 := rfl; clear q HM; intro g1 u1 HG1 HM) | (have q : dV HM = 1 := rfl; clear q HM; intro g2 u2 HG2 HM) | (have q : dV HM = 2 := rfl; clear q HM; intro g3 u3 HG3 HM) | (have q : dV HM = 3 := rfl; clear q HM; intro g4 u4 HG4 HM) | (have q : dV HM = 4 := rfl; clear q HM; intro g5 u5 HG5 HM) | (have q : dV HM = 5 := rfl; clear q HM; intro g6 u6 HG6 HM) | (have q : dV HM = 6 := rfl; clear q HM; intro g7 u7 HG7 HM) | (have q : dV HM = 7 := rfl; clear q HM; intro g8 u8 HG8 HM) | (have q : dV HM = 8 := rfl; clear q HM; intro g9 u9 HG9 HM) | (have q : dV HM = 9 := rfl; clear q HM; intro g10 u10 HG10 HM) | (have q : dV HM = 10 := rfl; clear q HM; intro g11 u11 HG11 HM) | (have q : dV HM = 11 := rfl; clear q HM; intro g12 u12 HG12 HM) | (have q : dV HM = 12 := rfl; clear q HM; intro g13 u13 HG13 HM) | (have q : dV HM = 13 := rfl; clear q HM; intro g14 u14 HG14 HM)))
    refine (HCK.out _).mono ?_
    rintro e u4 ⟨rfl, hb⟩
    have HM2 := Lib.hid (HM.out.below hb)
    clear hb HM
    have HM := HM2
    clear HM2
    go_wp2_with (first | (refine jL ?_) | (refine jS ?_; clear HM; intro us HM; simp only [List.set, List.setIfInBounds_toArray, List.set_cons_zero, List.set_cons_succ] at HM) | (refine jN ?_; first | (have q : dV HM = 0 := rfl; clear q HM; intro g1 u1 HG1 HM) | (have q : dV HM = 1 := rfl; clear q HM; intro g2 u2 HG2 HM) | (have q : dV HM = 2 := rfl; clear q HM; intro g3 u3 HG3 HM) | (have q : dV HM = 3 := rfl; clear q HM; intro g4 u4 HG4 HM) | (have q : dV HM = 4 := rfl; clear q HM; intro g5 u5 HG5 HM) | (have q : dV HM = 5 := rfl; clear q HM; intro g6 u6 HG6 HM) | (have q : dV HM = 6 := rfl; clear q HM; intro g7 u7 HG7 HM) | (have q : dV HM = 7 := rfl; clear q HM; intro g8 u8 HG8 HM) | (have q : dV HM = 8 := rfl; clear q HM; intro g9 u9 HG9 HM) | (have q : dV HM = 9 := rfl; clear q HM; intro g10 u10 HG10 HM) | (have q : dV HM = 10 := rfl; clear q HM; intro g11 u11 HG11 HM) | (have q : dV HM = 11 := rfl; clear q HM; intro g12 u12 HG12 HM) | (have q : dV HM = 12 := rfl; clear q HM; intro g13 u13 HG13 HM) | (have q : dV HM = 13 := rfl; clear q HM; intro g14 u14 HG14 HM)))
    refine bodyPost_ret (v := .tuple #[jtV false 0 d 0 none 0 0, .int .i64 0]) (vres_two rfl _ rfl rfl rowJt HM (by exact vmemOf) rfl) rfl ⟨by rw [HV.out], HM.out.1⟩
  · obtain rfl : ck = 1 := by rw [HCE.out]; exact if_neg fun h => hd ((okJ_new d).1 h)
    have HV := Lib.hid (show newV d = .tuple #[zeroJ, .int .i64 1] from if_neg hd)
    clear hd
    go_enter Try.func10, Try.ntmps10
    go_wp2_with (first | (refine jL ?_) | (refine jS ?_; clear HM; intro us HM; simp only [List.set, List.setIfInBounds_toArray, List.set_cons_zero, List.set_cons_succ] at HM) | (refine jN ?_; first | (have q : dV HM = 0 := rfl; clear q HM; intro g1 u1 HG1 HM) | (have q : dV HM = 1 := rfl; clear q HM; intro g2 u2 HG2 HM) | (have q : dV HM = 2 := rfl; clear q HM; intro g3 u3 HG3 HM) | (have q : dV HM = 3 := rfl; clear q HM; intro g4 u4 HG4 HM) | (have q : dV HM = 4 := rfl; clear q HM; intro g5 u5 HG5 HM) | (have q : dV HM = 5 := rfl; clear q HM; intro g6 u6 HG6 HM) | (have q : dV HM = 6 := rfl; clear q HM; intro g7 u7 HG7 HM) | (have q : dV HM = 7 := rfl; clear q HM; intro g8 u8 HG8 HM) | (have q : dV HM = 8 := rfl; clear q HM; intro g9 u9 HG9 HM) | (have q : dV HM = 9 := rfl; clear q HM; intro g10 u10 HG10 HM) | (have q : dV HM = 10 := rfl; clear q HM; intro g11 u11 HG11 HM) | (have q : dV HM = 11 := rfl; clear q HM; intro g12 u12 HG12 HM) | (have q : dV HM = 12 := rfl; clear q HM; intro g13 u13 HG13 HM) | (have q : dV HM = 13 := rfl; clear q HM; intro g14 u14 HG14 HM)))
    refine (fresh_any d _).mono ?_
    rintro e u3 ⟨rfl, hb⟩
    have HM2 := Lib.hid (HM.out.below hb)
    clear hb HM
    have HM := HM2
    clear HM2
    go_wp2_with (first | (refine jL ?_) | (refine jS ?_; clear HM; intro us HM; simp only [List.set, List.setIfInBounds_toArray, List.set_cons_zero, List.set_cons_succ] at HM) | (refine jN ?_; first | (have q : dV HM = 0 := rfl; clear q HM; intro g1 u1 HG1 HM) | (have q : dV HM = 1 := rfl; clear q HM; intro g2 u2 HG2 HM) | (have q : dV HM = 2 := rfl; clear q HM; intro g3 u3 HG3 HM) | (have q : dV HM = 3 := rfl; clear q HM; intro g4 u4 HG4 HM) | (have q : dV HM = 4 := rfl; clear q HM; intro g5 u5 HG5 HM) | (have q : dV HM = 5 := rfl; clear q HM; intro g6 u6 HG6 HM) | (have q : dV HM = 6 := rfl; clear q HM; intro g7 u7 HG7 HM) | (have q : dV HM = 7 := rfl; clear q HM; intro g8 u8 HG8 HM) | (have q : dV HM = 8 := rfl; clear q HM; intro g9 u9 HG9 HM) | (have q : dV HM = 9 := rfl; clear q HM; intro g10 u10 HG10 HM) | (have q : dV HM = 10 := rfl; clear q HM; intro g11 u11 HG11 HM) | (have q : dV HM = 11 := rfl; clear q HM; intro g12 u12 HG12 HM) | (have q : dV HM = 12 := rfl; clear q HM; intro g13 u13 HG13 HM) | (have q : dV HM = 13 := rfl; clear q HM; intro g14 u14 HG14 HM)))
    refine (HCK.out _).mono ?_
    rintro e u4 ⟨rfl, hb⟩
    have HM2 := Lib.hid (HM.out.below hb)
    clear hb HM
    have HM := HM2
    clear HM2
    go_wp2_with (first | (refine wv_zeroJ (by rfl) rfl ?_) | (first | (refine jL ?_) | (refine jS ?_; clear HM; intro us HM; simp only [List.set, List.setIfInBounds_toArray, List.set_cons_zero, List.set_cons_succ] at HM) | (refine jN ?_; first | (have q : dV HM = 0 := rfl; clear q HM; intro g1 u1 HG1 HM) | (have q : dV HM = 1 := rfl; clear q HM; intro g2 u2 HG2 HM) | (have q : dV HM = 2 := rfl; clear q HM; intro g3 u3 HG3 HM) | (have q : dV HM = 3 := rfl; clear q HM; intro g4 u4 HG4 HM) | (have q : dV HM = 4 := rfl; clear q HM; intro g5 u5 HG5 HM) | (have q : dV HM = 5 := rfl; clear q HM; intro g6 u6 HG6 HM) | (have q : dV HM = 6 := rfl; clear q HM; intro g7 u7 HG7 HM) | (have q : dV HM = 7 := rfl; clear q HM; intro g8 u8 HG8 HM) | (have q : dV HM = 8 := rfl; clear q HM; intro g9 u9 HG9 HM) | (have q : dV HM = 9 := rfl; clear q HM; intro g10 u10 HG10 HM) | (have q : dV HM = 10 := rfl; clear q HM; intro g11 u11 HG11 HM) | (have q : dV HM = 11 := rfl; clear q HM; intro g12 u12 HG12 HM) | (have q : dV HM = 12 := rfl; clear q HM; intro g13 u13 HG13 HM) | (have q : dV HM = 13 := rfl; clear q HM; intro g14 u14 HG14 HM))))
    refine bodyPost_ret (v := .tuple #[zeroJ, .int .i64 1]) (vres_two rfl _ rfl rfl rowJt HM (by exact vmemOf) rfl) rfl ⟨by rw [HV.out], HM.out.1⟩
/-- numbers, one behind the other -/
def irange (a : Int) (m : Nat) : List Int := (List.range m).map fun (i : Nat) => a + (i : Int)
theorem irange_snoc (a : Int) (m : Nat) : irange a (m + 1) = irange a m ++ [a + (m : Int)] := by unfold irange; rw [List.range_succ, List.map_append]; rfl
theorem irange_length (a : Int) (m : Nat) : (irange a m).length = m := by unfold irange; rw [List.length_map, List.length_range]
def gstep (s : Int × List Int) (p : Pq) : Int × List Int := (p.1 + 1, s.2 ++ irange s.1 (p.1 - s.1).toNat)
def firstJ (j : Jp) : Int := if j.on then j.nx else (j.q.headD (0, [])).1
def gst (f : Int) (q : List Pq) : Int × List Int := q.foldl gstep (f, [])
def gapsJ (j : Jp) : List Int := if OkJ j ∧ j.q ≠ [] then (gst (firstJ j) j.q).2 else []
theorem gst_snoc (f : Int) (q : List Pq) (p : Pq) : gst f (q ++ [p]) = gstep (gst f q) p := by unfold gst; rw [List.foldl_append]; rfl
theorem first_le {j : Jp} (h : OkJ j) {p : Pq} (hp : p ∈ j.q) : firstJ j ≤ p.1 ∧ p.1 < firstJ j + 64 := by
  have h1 := h.2.2.2 p hp
  have h2 := head_le h.2.2.1 hp
  unfold firstJ
  cases hon : j.on
  · rw [hon] at h1
    simp only [Bool.false_eq_true, if_false] at h1 ⊢
    omega
  · rw [hon] at h1
    simp only [if_true] at h1 ⊢
    omega
theorem gst_inv {j : Jp} (h : OkJ j) : ∀ k, k ≤ j.q.length → firstJ j ≤ (gst (firstJ j) (j.q.take k)).1 ∧ ((gst (firstJ j) (j.q.take k)).2.length : Int) ≤ (gst (firstJ j) (j.q.take k)).1 - firstJ j ∧ (gst (firstJ j) (j.q.take k)).1 ≤ firstJ j + 64 ∧ (∀ p, j.q[k]? = some p → (gst (firstJ j) (j.q.take k)).1 ≤ p.1) := by
  intro k
  induction k with
  | zero =>
    intro _
    refine ⟨Int.le_refl _, by simp [gst], by simp [gst]; omega, fun p hp => ?_⟩
    exact (first_le h (List.mem_of_getElem? hp)).1
  | succ k ih =>
    intro hk
    obtain ⟨i1, i2, i3, i4⟩ := ih (by omega)
    have hx := List.getElem?_eq_getElem (show k < j.q.length by omega)
    have i5 := i4 _ hx
    have i6 := first_le h (List.mem_of_getElem? hx)
    rw [take_snocP _ _ hx, gst_snoc]
    unfold gstep
    refine ⟨by show _ ≤ _ + 1; omega, ?_, by show _ + 1 ≤ _; omega, fun p hp => ?_⟩
    · show (((gst (firstJ j) (j.q.take k)).2 ++ irange _ _).length : Int) ≤ _ + 1 - _
      rw [List.length_append, irange_length]
      omega
    · have := rise_at h.2.2.1 hx hp (by omega)
      show _ + 1 ≤ _
      omega
end Go.Proofs.Ytffapinabidkiaa.Lp
