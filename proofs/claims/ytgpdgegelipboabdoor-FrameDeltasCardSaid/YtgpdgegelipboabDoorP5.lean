/-
  Own texts, laid together: Yu, Zb, Zc, Open, Zo.
-/
import Derived.Test.YtgpdgegelipboabDoorP4
set_option maxRecDepth 8000
namespace Go.Proofs.YtgpdgegelipboabDoor.Lp
open Go.RowKit Go.Proofs.YtgpdgegelipboabDoor.Fx Go.Proofs.YtgpdgegelipboabDoor.Fq Go.Proofs.YtgpdgegelipboabDoor.Tb
open Go.Proofs.YtgpdgegelipboabDoor.Yr (chkB chkB_iff wrB rdR rd_back rd_one wrB_len Fr)
theorem frL_zeroA : zr 23 = frL 0 (zr 6) (zr 16) := by decide
theorem frS_zero : FrS (zr 23) 0 (zr 6) (zr 16) := by rw [frL_zeroA]; exact frS_mk (zr_length 6) (zr_length 16)
theorem zero_may : chkB 0 (zr 6) (zr 16) (zr 6) = true := by decide +kernel
theorem zero_len : (wrB 0 (zr 6) (zr 16) (zr 6)).length ≤ 8 := by decide +kernel
theorem zero_rd : rdV (wrB 0 (zr 6) (zr 16) (zr 6)) (zr 6) = .tuple #[.agg (icells (zr 23)), .int .i64 0] := by
  unfold rdV
  rw [if_pos (by decide), rd_back ((chkB_iff _ _ _ _).1 zero_may) (zr_length 6) (zr_length 16), frL_zeroA]
theorem none_rd (p : List Int) : rdR [] p = none := by
  cases h : rdR [] p with
  | none => rfl
  | some x =>
    obtain ⟨K, l, q⟩ := x
    obtain ⟨h1, h2, -⟩ := rd_one h
    have := (wrB_len ((chkB_iff _ _ _ _).1 h1)).2
    rw [h2] at this
    exact absurd this (by decide)
theorem none_rdV : rdV [] (zr 6) = .tuple #[.agg (icells (zr 23)), .int .i64 21] := by
  unfold rdV
  rw [if_pos (by decide), none_rd]
set_option maxRecDepth 100000 in
set_option maxHeartbeats 4000000 in
theorem flive_any (w : World) (he : Edg w) : Calls Tryd.prog 4 #[] w fun e w' => e = .returned (.bool true) ∧ Below w.heap.size w w' := by
  have HM := Lib.hid (MV.start w)
  have HE := Lib.hid he
  have LZ := Lib.hid (show (zr 23).length = 23 from zr_length 23)
  have hgd := grdFrame
  have heq := fun u => run_eq_fr frS_zero frS_zero u
  simp only [decide_true, Bool.and_self] at heq
  clear he
  go_enter Tryd.func4, Tryd.ntmps4
  go_wp2_with (first | (refine wv_zeroF rfl rfl ?_) | (first | ((first | refine wv_box rfl _ _ rfl rfl HM ?_ | refine wv_alloc rfl _ rfl (by exact rowOf) HM ?_); first | (have q : dV HM = 0 := rfl; clear q HM; intro g1 u1 HG1 HM) | (have q : dV HM = 1 := rfl; clear q HM; intro g2 u2 HG2 HM) | (have q : dV HM = 2 := rfl; clear q HM; intro g3 u3 HG3 HM) | (have q : dV HM = 3 := rfl; clear q HM; intro g4 u4 HG4 HM) | (have q : dV HM = 4 := rfl; clear q HM; intro g5 u5 HG5 HM) | (have q : dV HM = 5 := rfl; clear q HM; intro g6 u6 HG6 HM) | (have q : dV HM = 6 := rfl; clear q HM; intro g7 u7 HG7 HM) | (have q : dV HM = 7 := rfl; clear q HM; intro g8 u8 HG8 HM) | (have q : dV HM = 8 := rfl; clear q HM; intro g9 u9 HG9 HM) | (have q : dV HM = 9 := rfl; clear q HM; intro g10 u10 HG10 HM) | (have q : dV HM = 10 := rfl; clear q HM; intro g11 u11 HG11 HM) | (have q : dV HM = 11 := rfl; clear q HM; intro g12 u12 HG12 HM) | (have q : dV HM = 12 := rfl; clear q HM; intro g13 u13 HG13 HM) | (have q : dV HM = 13 := rfl; clear q HM; intro g14 u14 HG14 HM)) | (refine wv_load rfl _ _ rfl rfl (by exact rowOf) HM (by exact vmemOf) (by exact vsizOf) ?_) | (refine wv_store rfl _ _ _ rfl rfl rfl (by exact rowOf) HM (by exact vidxOf) (by exact vsizOf) (by exact vsizOf) (by exact voneOf) ?_; clear HM; intro us HM; dsimp only [List.set] at HM) | (refine wl_zero rfl _ rfl (by exact arrOf) (by kernel_rfl) ?_)) | (refine wv_elem rfl _ rfl rfl HM (by exact vmemOf) (by exact velOf) ?_) | (refine wv_put rfl _ _ rfl rfl rfl HM (by exact vidxOf) (by exact vltOf) ?_; clear HM; intro us HM; dsimp only [List.set] at HM) | (refine wv_loadS rfl _ _ rfl rfl (by exact arrOf) HM (by exact vmemOf) (by exact vsubF) (by exact lenOf) ?_))
  refine (fwrite_any (zr 23) 0 (zr 6) (zr 16) (zr 6) _ frS_zero (zr_length 6) (HE.out.below HM.out.1)).mono ?_
  intro e w2 ho
  unfold WrOut at ho
  rw [if_pos zero_may] at ho
  obtain ⟨A, n, c, rfl, hr, hb⟩ := ho
  have HR := Lib.hid hr
  have HM2 := Lib.hid (HM.out.below hb)
  have hn8 : n ≤ 8 := by rw [← hr.1]; exact zero_len
  have hn0 : 0 < n := by rw [← hr.1]; exact (wrB_len ((chkB_iff _ _ _ _).1 zero_may)).2
  clear hr hb HM
  have HM := HM2
  clear HM2
  go_wp2_with (first | (refine wv_zeroF rfl rfl ?_) | (first | ((first | refine wv_box rfl _ _ rfl rfl HM ?_ | refine wv_alloc rfl _ rfl (by exact rowOf) HM ?_); first | (have q : dV HM = 0 := rfl; clear q HM; intro g1 u1 HG1 HM) | (have q : dV HM = 1 := rfl; clear q HM; intro g2 u2 HG2 HM) | (have q : dV HM = 2 := rfl; clear q HM; intro g3 u3 HG3 HM) | (have q : dV HM = 3 := rfl; clear q HM; intro g4 u4 HG4 HM) | (have q : dV HM = 4 := rfl; clear q HM; intro g5 u5 HG5 HM) | (have q : dV HM = 5 := rfl; clear q HM; intro g6 u6 HG6 HM) | (have q : dV HM = 6 := rfl; clear q HM; intro g7 u7 HG7 HM) | (have q : dV HM = 7 := rfl; clear q HM; intro g8 u8 HG8 HM) | (have q : dV HM = 8 := rfl; clear q HM; intro g9 u9 HG9 HM) | (have q : dV HM = 9 := rfl; clear q HM; intro g10 u10 HG10 HM) | (have q : dV HM = 10 := rfl; clear q HM; intro g11 u11 HG11 HM) | (have q : dV HM = 11 := rfl; clear q HM; intro g12 u12 HG12 HM) | (have q : dV HM = 12 := rfl; clear q HM; intro g13 u13 HG13 HM) | (have q : dV HM = 13 := rfl; clear q HM; intro g14 u14 HG14 HM)) | (refine wv_load rfl _ _ rfl rfl (by exact rowOf) HM (by exact vmemOf) (by exact vsizOf) ?_) | (refine wv_store rfl _ _ _ rfl rfl rfl (by exact rowOf) HM (by exact vidxOf) (by exact vsizOf) (by exact vsizOf) (by exact voneOf) ?_; clear HM; intro us HM; dsimp only [List.set] at HM) | (refine wl_zero rfl _ rfl (by exact arrOf) (by kernel_rfl) ?_)) | (refine wv_elem rfl _ rfl rfl HM (by exact vmemOf) (by exact velOf) ?_) | (refine wv_put rfl _ _ rfl rfl rfl HM (by exact vidxOf) (by exact vltOf) ?_; clear HM; intro us HM; dsimp only [List.set] at HM) | (refine wv_loadS rfl _ _ rfl rfl (by exact arrOf) HM (by exact vmemOf) (by exact vsubF) (by exact lenOf) ?_))
  refine (fread_any A n c _ (zr 6) w2 HR (zr_length 6) (HE.out.below HM.out.1)).mono ?_
  rw [zero_rd]
  rintro e w3 ⟨rfl, hb⟩
  have HM2 := Lib.hid (HM.out.below hb)
  clear hb HM
  have HM := HM2
  clear HM2
  go_wp2_with (first | (refine wv_zeroF rfl rfl ?_) | (first | ((first | refine wv_box rfl _ _ rfl rfl HM ?_ | refine wv_alloc rfl _ rfl (by exact rowOf) HM ?_); first | (have q : dV HM = 0 := rfl; clear q HM; intro g1 u1 HG1 HM) | (have q : dV HM = 1 := rfl; clear q HM; intro g2 u2 HG2 HM) | (have q : dV HM = 2 := rfl; clear q HM; intro g3 u3 HG3 HM) | (have q : dV HM = 3 := rfl; clear q HM; intro g4 u4 HG4 HM) | (have q : dV HM = 4 := rfl; clear q HM; intro g5 u5 HG5 HM) | (have q : dV HM = 5 := rfl; clear q HM; intro g6 u6 HG6 HM) | (have q : dV HM = 6 := rfl; clear q HM; intro g7 u7 HG7 HM) | (have q : dV HM = 7 := rfl; clear q HM; intro g8 u8 HG8 HM) | (have q : dV HM = 8 := rfl; clear q HM; intro g9 u9 HG9 HM) | (have q : dV HM = 9 := rfl; clear q HM; intro g10 u10 HG10 HM) | (have q : dV HM = 10 := rfl; clear q HM; intro g11 u11 HG11 HM) | (have q : dV HM = 11 := rfl; clear q HM; intro g12 u12 HG12 HM) | (have q : dV HM = 12 := rfl; clear q HM; intro g13 u13 HG13 HM) | (have q : dV HM = 13 := rfl; clear q HM; intro g14 u14 HG14 HM)) | (refine wv_load rfl _ _ rfl rfl (by exact rowOf) HM (by exact vmemOf) (by exact vsizOf) ?_) | (refine wv_store rfl _ _ _ rfl rfl rfl (by exact rowOf) HM (by exact vidxOf) (by exact vsizOf) (by exact vsizOf) (by exact voneOf) ?_; clear HM; intro us HM; dsimp only [List.set] at HM) | (refine wl_zero rfl _ rfl (by exact arrOf) (by kernel_rfl) ?_)) | (refine wv_elem rfl _ rfl rfl HM (by exact vmemOf) (by exact velOf) ?_) | (refine wv_put rfl _ _ rfl rfl rfl HM (by exact vidxOf) (by exact vltOf) ?_; clear HM; intro us HM; dsimp only [List.set] at HM) | (refine wv_loadS rfl _ _ rfl rfl (by exact arrOf) HM (by exact vmemOf) (by exact vsubF) (by exact lenOf) ?_))
  refine (fread_any none 0 0 [] (zr 6) _ (Lib.hid Rd.none_) (zr_length 6) (HE.out.below HM.out.1)).mono ?_
  rw [none_rdV]
  rintro e w4 ⟨rfl, hb⟩
  have HM2 := Lib.hid (HM.out.below hb)
  clear hb HM
  have HM := HM2
  clear HM2
  have m1 : (0 : Int) < (n : Int) := by omega
  have m2 : (n : Int) ≤ 8 := by omega
  go_wp2_with (first | (refine wv_zeroF rfl rfl ?_) | (first | ((first | refine wv_box rfl _ _ rfl rfl HM ?_ | refine wv_alloc rfl _ rfl (by exact rowOf) HM ?_); first | (have q : dV HM = 0 := rfl; clear q HM; intro g1 u1 HG1 HM) | (have q : dV HM = 1 := rfl; clear q HM; intro g2 u2 HG2 HM) | (have q : dV HM = 2 := rfl; clear q HM; intro g3 u3 HG3 HM) | (have q : dV HM = 3 := rfl; clear q HM; intro g4 u4 HG4 HM) | (have q : dV HM = 4 := rfl; clear q HM; intro g5 u5 HG5 HM) | (have q : dV HM = 5 := rfl; clear q HM; intro g6 u6 HG6 HM) | (have q : dV HM = 6 := rfl; clear q HM; intro g7 u7 HG7 HM) | (have q : dV HM = 7 := rfl; clear q HM; intro g8 u8 HG8 HM) | (have q : dV HM = 8 := rfl; clear q HM; intro g9 u9 HG9 HM) | (have q : dV HM = 9 := rfl; clear q HM; intro g10 u10 HG10 HM) | (have q : dV HM = 10 := rfl; clear q HM; intro g11 u11 HG11 HM) | (have q : dV HM = 11 := rfl; clear q HM; intro g12 u12 HG12 HM) | (have q : dV HM = 12 := rfl; clear q HM; intro g13 u13 HG13 HM) | (have q : dV HM = 13 := rfl; clear q HM; intro g14 u14 HG14 HM)) | (refine wv_load rfl _ _ rfl rfl (by exact rowOf) HM (by exact vmemOf) (by exact vsizOf) ?_) | (refine wv_store rfl _ _ _ rfl rfl rfl (by exact rowOf) HM (by exact vidxOf) (by exact vsizOf) (by exact vsizOf) (by exact voneOf) ?_; clear HM; intro us HM; dsimp only [List.set] at HM) | (refine wl_zero rfl _ rfl (by exact arrOf) (by kernel_rfl) ?_)) | (refine wv_elem rfl _ rfl rfl HM (by exact vmemOf) (by exact velOf) ?_) | (refine wv_put rfl _ _ rfl rfl rfl HM (by exact vidxOf) (by exact vltOf) ?_; clear HM; intro us HM; dsimp only [List.set] at HM) | (refine wv_loadS rfl _ _ rfl rfl (by exact arrOf) HM (by exact vmemOf) (by exact vsubF) (by exact lenOf) ?_))
  go_ret
  exact ⟨rfl, HM.out.1⟩
end Go.Proofs.YtgpdgegelipboabDoor.Lp
namespace Go.Proofs.YtgpdgegelipboabDoor.Lp
open Go.RowKit Go.Proofs.YtgpdgegelipboabDoor.Fx Go.Proofs.YtgpdgegelipboabDoor.Fq Go.Proofs.YtgpdgegelipboabDoor.Tb
open Go.Proofs.YtgpdgegelipboabDoor.Yr (chkB chkB_iff wrB rdR rd_one Fr gsR_len rdR_gs)
theorem rd_lens {bs : List Nat} {p : List Int} {K : Int} {l q : List Int} (h : rdR bs p = some (K, l, q)) : l.length = 6 ∧ q.length = 16 := gsR_len (rdR_gs h)
/-- what Read answers, told by its error -/
theorem rd_cases (bs : List Nat) (p : List Int) : (∃ K l q, rdR bs p = some (K, l, q) ∧ rdV bs p = .tuple #[.agg (icells (frL K l q)), .int .i64 0] ∧ chkB K l q p = true ∧ wrB K l q p = bs ∧ l.length = 6 ∧ q.length = 16) ∨ (∃ er : Int, (er = 1 ∨ er = 21) ∧ rdV bs p = .tuple #[.agg (icells (zr 23)), .int .i64 er] ∧ (chkL p = true → rdR bs p = none)) := by
  unfold rdV
  by_cases hp : chkL p = true
  · rw [if_pos hp]
    cases h : rdR bs p with
    | none => exact .inr ⟨21, .inr rfl, rfl, fun _ => rfl⟩
    | some x =>
      obtain ⟨K, l, q⟩ := x
      obtain ⟨h1, h2, -⟩ := rd_one h
      obtain ⟨h3, h4⟩ := rd_lens h
      exact .inl ⟨K, l, q, rfl, rfl, h1, h2, h3, h4⟩
  · rw [if_neg hp]
    exact .inr ⟨1, .inl rfl, rfl, fun h => absurd h hp⟩
end Go.Proofs.YtgpdgegelipboabDoor.Lp
namespace Go.Proofs.YtgpdgegelipboabDoor.Lp
open Go.RowKit Go.Proofs.YtgpdgegelipboabDoor.Fx Go.Proofs.YtgpdgegelipboabDoor.Fq Go.Proofs.YtgpdgegelipboabDoor.Tb
open Go.Proofs.YtgpdgegelipboabDoor.Yr (chkB chkB_iff wrB rdR rd_one Fr fr_deltas near_self nearB nearN)
def DltP (gF gP gO gG : Nat) (F p o G : List Int) (u : World) : Prop :=
  Blk u gF 26 (icells F) ∧ Blk u gP 23 (icells p) ∧ Blk u gO 23 (icells o) ∧ Blk u gG 26 (icells G)
theorem frS_set {F : List Int} {K v : Int} {l q : List Int} (h : FrS F K l q) : FrS (F.set 0 v) v l q := by
  refine ⟨by rw [List.length_set]; exact h.len, h.ll, h.lq, ?_, ?_, ?_⟩
  · rw [List.getD_eq_getElem?_getD, List.getElem?_set_self (by rw [h.len]; decide)]; rfl
  · rw [List.drop_set_of_lt (by decide)]; exact h.lev
  · rw [List.drop_set_of_lt (by decide)]; exact h.num
theorem frS_levG {F : List Int} {K : Int} {l q : List Int} (h : FrS F K l q) {k : Nat} (hk : k < 6) : F.getD (1 + k) 0 = l.getD k 0 := by
  rw [← h.lev]
  simp only [List.getD_eq_getElem?_getD, List.getElem?_take, hk, if_true, List.getElem?_drop]
theorem c1w {a b : Int} (h : a = b) : some (Value.int .i64 a) = some (Value.int .i64 b) := by rw [h]
set_option maxRecDepth 100000 in
set_option maxHeartbeats 8000000 in
theorem deltas_law (F p o : List Int) (K : Int) (l q : List Int) (w : World) (hF : FrS F K l q) (lp : p.length = 6) (lo : o.length = 6) (he : Edg w) :
    Calls Tryd.prog 3 #[.agg (icells F), .agg (icells p), .agg (icells o)] w (ValQ w (.bool true)) := by
  have HM := Lib.hid (MV.start w)
  have HE := Lib.hid he
  have LP := Lib.hid lp
  have LO := Lib.hid lo
  have LF := Lib.hid hF.len
  have HS0 := Lib.hid (show 0 < F.length by rw [hF.len]; decide)
  have hF1 := frS_set (v := 1) hF
  have HF1 := Lib.hid hF1
  have LF1 := Lib.hid hF1.len
  have LL := Lib.hid hF1.ll
  have SL := Lib.hid hF1.lev
  clear he lp lo hF hF1
  go_enter Tryd.func3, Tryd.ntmps3
  go_wp2_with (first | (refine wv_zeroF rfl rfl ?_) | (first | ((first | refine wv_box rfl _ _ rfl rfl HM ?_ | refine wv_alloc rfl _ rfl (by exact rowOf) HM ?_); first | (have q : dV HM = 0 := rfl; clear q HM; intro g1 u1 HG1 HM) | (have q : dV HM = 1 := rfl; clear q HM; intro g2 u2 HG2 HM) | (have q : dV HM = 2 := rfl; clear q HM; intro g3 u3 HG3 HM) | (have q : dV HM = 3 := rfl; clear q HM; intro g4 u4 HG4 HM) | (have q : dV HM = 4 := rfl; clear q HM; intro g5 u5 HG5 HM) | (have q : dV HM = 5 := rfl; clear q HM; intro g6 u6 HG6 HM) | (have q : dV HM = 6 := rfl; clear q HM; intro g7 u7 HG7 HM) | (have q : dV HM = 7 := rfl; clear q HM; intro g8 u8 HG8 HM) | (have q : dV HM = 8 := rfl; clear q HM; intro g9 u9 HG9 HM) | (have q : dV HM = 9 := rfl; clear q HM; intro g10 u10 HG10 HM) | (have q : dV HM = 10 := rfl; clear q HM; intro g11 u11 HG11 HM) | (have q : dV HM = 11 := rfl; clear q HM; intro g12 u12 HG12 HM) | (have q : dV HM = 12 := rfl; clear q HM; intro g13 u13 HG13 HM) | (have q : dV HM = 13 := rfl; clear q HM; intro g14 u14 HG14 HM)) | (refine wv_load rfl _ _ rfl rfl (by exact rowOf) HM (by exact vmemOf) (by exact vsizOf) ?_) | (refine wv_store rfl _ _ _ rfl rfl rfl (by exact rowOf) HM (by exact vidxOf) (by exact vsizOf) (by exact vsizOf) (by exact voneOf) ?_; clear HM; intro us HM; dsimp only [List.set] at HM) | (refine wl_zero rfl _ rfl (by exact arrOf) (by kernel_rfl) ?_)) | (refine wv_elem rfl _ rfl rfl HM (by exact vmemOf) (by exact velOf) ?_) | (refine wv_put rfl _ _ rfl rfl rfl HM (by exact vidxOf) (by exact vltOf) ?_; clear HM; intro us HM; dsimp only [List.set] at HM) | (refine wv_loadS rfl _ _ rfl rfl (by exact arrOf) HM (by exact vmemOf) (by exact vsubF) (by exact lenOf) ?_))
  refine (flive_any _ (HE.out.below HM.out.1)).mono ?_
  rintro e w2 ⟨rfl, hb⟩
  have HM2 := Lib.hid (HM.out.below hb)
  clear hb HM
  have HM := HM2
  clear HM2
  go_wp2_with (first | (refine wv_zeroF rfl rfl ?_) | (first | ((first | refine wv_box rfl _ _ rfl rfl HM ?_ | refine wv_alloc rfl _ rfl (by exact rowOf) HM ?_); first | (have q : dV HM = 0 := rfl; clear q HM; intro g1 u1 HG1 HM) | (have q : dV HM = 1 := rfl; clear q HM; intro g2 u2 HG2 HM) | (have q : dV HM = 2 := rfl; clear q HM; intro g3 u3 HG3 HM) | (have q : dV HM = 3 := rfl; clear q HM; intro g4 u4 HG4 HM) | (have q : dV HM = 4 := rfl; clear q HM; intro g5 u5 HG5 HM) | (have q : dV HM = 5 := rfl; clear q HM; intro g6 u6 HG6 HM) | (have q : dV HM = 6 := rfl; clear q HM; intro g7 u7 HG7 HM) | (have q : dV HM = 7 := rfl; clear q HM; intro g8 u8 HG8 HM) | (have q : dV HM = 8 := rfl; clear q HM; intro g9 u9 HG9 HM) | (have q : dV HM = 9 := rfl; clear q HM; intro g10 u10 HG10 HM) | (have q : dV HM = 10 := rfl; clear q HM; intro g11 u11 HG11 HM) | (have q : dV HM = 11 := rfl; clear q HM; intro g12 u12 HG12 HM) | (have q : dV HM = 12 := rfl; clear q HM; intro g13 u13 HG13 HM) | (have q : dV HM = 13 := rfl; clear q HM; intro g14 u14 HG14 HM)) | (refine wv_load rfl _ _ rfl rfl (by exact rowOf) HM (by exact vmemOf) (by exact vsizOf) ?_) | (refine wv_store rfl _ _ _ rfl rfl rfl (by exact rowOf) HM (by exact vidxOf) (by exact vsizOf) (by exact vsizOf) (by exact voneOf) ?_; clear HM; intro us HM; dsimp only [List.set] at HM) | (refine wl_zero rfl _ rfl (by exact arrOf) (by kernel_rfl) ?_)) | (refine wv_elem rfl _ rfl rfl HM (by exact vmemOf) (by exact velOf) ?_) | (refine wv_put rfl _ _ rfl rfl rfl HM (by exact vidxOf) (by exact vltOf) ?_; clear HM; intro us HM; dsimp only [List.set] at HM) | (refine wv_loadS rfl _ _ rfl rfl (by exact arrOf) HM (by exact vmemOf) (by exact vsubF) (by exact lenOf) ?_))
  refine (fwrite_any (F.set 0 1) 1 l q p _ HF1.out LP.out (HE.out.below HM.out.1)).mono ?_
  intro e w3 ho
  unfold WrOut at ho
  cases hc : chkB 1 l q p with
  | false =>
    rw [hc, if_neg Bool.false_ne_true] at ho
    obtain ⟨rfl, hb⟩ := ho
    have HM2 := Lib.hid (HM.out.below hb)
    clear hb HM hc
    have HM := HM2
    clear HM2
    go_wp2_with (first | (refine wv_zeroF rfl rfl ?_) | (first | ((first | refine wv_box rfl _ _ rfl rfl HM ?_ | refine wv_alloc rfl _ rfl (by exact rowOf) HM ?_); first | (have q : dV HM = 0 := rfl; clear q HM; intro g1 u1 HG1 HM) | (have q : dV HM = 1 := rfl; clear q HM; intro g2 u2 HG2 HM) | (have q : dV HM = 2 := rfl; clear q HM; intro g3 u3 HG3 HM) | (have q : dV HM = 3 := rfl; clear q HM; intro g4 u4 HG4 HM) | (have q : dV HM = 4 := rfl; clear q HM; intro g5 u5 HG5 HM) | (have q : dV HM = 5 := rfl; clear q HM; intro g6 u6 HG6 HM) | (have q : dV HM = 6 := rfl; clear q HM; intro g7 u7 HG7 HM) | (have q : dV HM = 7 := rfl; clear q HM; intro g8 u8 HG8 HM) | (have q : dV HM = 8 := rfl; clear q HM; intro g9 u9 HG9 HM) | (have q : dV HM = 9 := rfl; clear q HM; intro g10 u10 HG10 HM) | (have q : dV HM = 10 := rfl; clear q HM; intro g11 u11 HG11 HM) | (have q : dV HM = 11 := rfl; clear q HM; intro g12 u12 HG12 HM) | (have q : dV HM = 12 := rfl; clear q HM; intro g13 u13 HG13 HM) | (have q : dV HM = 13 := rfl; clear q HM; intro g14 u14 HG14 HM)) | (refine wv_load rfl _ _ rfl rfl (by exact rowOf) HM (by exact vmemOf) (by exact vsizOf) ?_) | (refine wv_store rfl _ _ _ rfl rfl rfl (by exact rowOf) HM (by exact vidxOf) (by exact vsizOf) (by exact vsizOf) (by exact voneOf) ?_; clear HM; intro us HM; dsimp only [List.set] at HM) | (refine wl_zero rfl _ rfl (by exact arrOf) (by kernel_rfl) ?_)) | (refine wv_elem rfl _ rfl rfl HM (by exact vmemOf) (by exact velOf) ?_) | (refine wv_put rfl _ _ rfl rfl rfl HM (by exact vidxOf) (by exact vltOf) ?_; clear HM; intro us HM; dsimp only [List.set] at HM) | (refine wv_loadS rfl _ _ rfl rfl (by exact arrOf) HM (by exact vmemOf) (by exact vsubF) (by exact lenOf) ?_))
    go_ret
    exact ⟨rfl, HM.out.1⟩
  | true =>
    rw [hc, if_pos rfl] at ho
    obtain ⟨A, n, c, rfl, hr, hb⟩ := ho
    have hfr := (chkB_iff _ _ _ _).1 hc
    have HFR := Lib.hid hfr
    have HN1 := Lib.hid (fun u => fnear_any l p u HF1.out.ll LP.out)
    have HN2 := Lib.hid (fun u => fnear_any p p u LP.out LP.out)
    rw [show nearB l p = true by unfold nearB; rw [hfr.lev, hfr.ahead, hfr.near rfl]; rfl] at HN1
    rw [show nearB p p = true by unfold nearB; rw [hfr.ahead, near_self]; rfl] at HN2
    have HR := Lib.hid hr
    have HM2 := Lib.hid (HM.out.below hb).base
    clear hb HM hc hr hfr
    have HM := HM2
    clear HM2
    go_wp2_with (first | (refine wv_zeroF rfl rfl ?_) | (first | ((first | refine wv_box rfl _ _ rfl rfl HM ?_ | refine wv_alloc rfl _ rfl (by exact rowOf) HM ?_); first | (have q : dV HM = 0 := rfl; clear q HM; intro g1 u1 HG1 HM) | (have q : dV HM = 1 := rfl; clear q HM; intro g2 u2 HG2 HM) | (have q : dV HM = 2 := rfl; clear q HM; intro g3 u3 HG3 HM) | (have q : dV HM = 3 := rfl; clear q HM; intro g4 u4 HG4 HM) | (have q : dV HM = 4 := rfl; clear q HM; intro g5 u5 HG5 HM) | (have q : dV HM = 5 := rfl; clear q HM; intro g6 u6 HG6 HM) | (have q : dV HM = 6 := rfl; clear q HM; intro g7 u7 HG7 HM) | (have q : dV HM = 7 := rfl; clear q HM; intro g8 u8 HG8 HM) | (have q : dV HM = 8 := rfl; clear q HM; intro g9 u9 HG9 HM) | (have q : dV HM = 9 := rfl; clear q HM; intro g10 u10 HG10 HM) | (have q : dV HM = 10 := rfl; clear q HM; intro g11 u11 HG11 HM) | (have q : dV HM = 11 := rfl; clear q HM; intro g12 u12 HG12 HM) | (have q : dV HM = 12 := rfl; clear q HM; intro g13 u13 HG13 HM) | (have q : dV HM = 13 := rfl; clear q HM; intro g14 u14 HG14 HM)) | (refine wv_load rfl _ _ rfl rfl (by exact rowOf) HM (by exact vmemOf) (by exact vsizOf) ?_) | (refine wv_store rfl _ _ _ rfl rfl rfl (by exact rowOf) HM (by exact vidxOf) (by exact vsizOf) (by exact vsizOf) (by exact voneOf) ?_; clear HM; intro us HM; dsimp only [List.set] at HM) | (refine wl_zero rfl _ rfl (by exact arrOf) (by kernel_rfl) ?_)) | (refine wv_elem rfl _ rfl rfl HM (by exact vmemOf) (by exact velOf) ?_) | (refine wv_put rfl _ _ rfl rfl rfl HM (by exact vidxOf) (by exact vltOf) ?_; clear HM; intro us HM; dsimp only [List.set] at HM) | (refine wv_loadS rfl _ _ rfl rfl (by exact arrOf) HM (by exact vmemOf) (by exact vsubF) (by exact lenOf) ?_))
    refine (HN1.out _).mono ?_
    rintro e w4 ⟨rfl, hb⟩
    have HR2 := Lib.hid (HR.out.below hb)
    have HM2 := Lib.hid (HM.out.below hb)
    clear hb HM HN1 HR
    have HM := HM2
    clear HM2
    go_wp2_with (first | (refine wv_zeroF rfl rfl ?_) | (first | ((first | refine wv_box rfl _ _ rfl rfl HM ?_ | refine wv_alloc rfl _ rfl (by exact rowOf) HM ?_); first | (have q : dV HM = 0 := rfl; clear q HM; intro g1 u1 HG1 HM) | (have q : dV HM = 1 := rfl; clear q HM; intro g2 u2 HG2 HM) | (have q : dV HM = 2 := rfl; clear q HM; intro g3 u3 HG3 HM) | (have q : dV HM = 3 := rfl; clear q HM; intro g4 u4 HG4 HM) | (have q : dV HM = 4 := rfl; clear q HM; intro g5 u5 HG5 HM) | (have q : dV HM = 5 := rfl; clear q HM; intro g6 u6 HG6 HM) | (have q : dV HM = 6 := rfl; clear q HM; intro g7 u7 HG7 HM) | (have q : dV HM = 7 := rfl; clear q HM; intro g8 u8 HG8 HM) | (have q : dV HM = 8 := rfl; clear q HM; intro g9 u9 HG9 HM) | (have q : dV HM = 9 := rfl; clear q HM; intro g10 u10 HG10 HM) | (have q : dV HM = 10 := rfl; clear q HM; intro g11 u11 HG11 HM) | (have q : dV HM = 11 := rfl; clear q HM; intro g12 u12 HG12 HM) | (have q : dV HM = 12 := rfl; clear q HM; intro g13 u13 HG13 HM) | (have q : dV HM = 13 := rfl; clear q HM; intro g14 u14 HG14 HM)) | (refine wv_load rfl _ _ rfl rfl (by exact rowOf) HM (by exact vmemOf) (by exact vsizOf) ?_) | (refine wv_store rfl _ _ _ rfl rfl rfl (by exact rowOf) HM (by exact vidxOf) (by exact vsizOf) (by exact vsizOf) (by exact voneOf) ?_; clear HM; intro us HM; dsimp only [List.set] at HM) | (refine wl_zero rfl _ rfl (by exact arrOf) (by kernel_rfl) ?_)) | (refine wv_elem rfl _ rfl rfl HM (by exact vmemOf) (by exact velOf) ?_) | (refine wv_put rfl _ _ rfl rfl rfl HM (by exact vidxOf) (by exact vltOf) ?_; clear HM; intro us HM; dsimp only [List.set] at HM) | (refine wv_loadS rfl _ _ rfl rfl (by exact arrOf) HM (by exact vmemOf) (by exact vsubF) (by exact lenOf) ?_))
    refine (HN2.out _).mono ?_
    rintro e w5 ⟨rfl, hb⟩
    have HR := Lib.hid (HR2.out.below hb)
    have HM2 := Lib.hid (HM.out.below hb)
    clear hb HM HN2 HR2
    have HM := HM2
    clear HM2
    go_wp2_with (first | (refine wv_zeroF rfl rfl ?_) | (first | ((first | refine wv_box rfl _ _ rfl rfl HM ?_ | refine wv_alloc rfl _ rfl (by exact rowOf) HM ?_); first | (have q : dV HM = 0 := rfl; clear q HM; intro g1 u1 HG1 HM) | (have q : dV HM = 1 := rfl; clear q HM; intro g2 u2 HG2 HM) | (have q : dV HM = 2 := rfl; clear q HM; intro g3 u3 HG3 HM) | (have q : dV HM = 3 := rfl; clear q HM; intro g4 u4 HG4 HM) | (have q : dV HM = 4 := rfl; clear q HM; intro g5 u5 HG5 HM) | (have q : dV HM = 5 := rfl; clear q HM; intro g6 u6 HG6 HM) | (have q : dV HM = 6 := rfl; clear q HM; intro g7 u7 HG7 HM) | (have q : dV HM = 7 := rfl; clear q HM; intro g8 u8 HG8 HM) | (have q : dV HM = 8 := rfl; clear q HM; intro g9 u9 HG9 HM) | (have q : dV HM = 9 := rfl; clear q HM; intro g10 u10 HG10 HM) | (have q : dV HM = 10 := rfl; clear q HM; intro g11 u11 HG11 HM) | (have q : dV HM = 11 := rfl; clear q HM; intro g12 u12 HG12 HM) | (have q : dV HM = 12 := rfl; clear q HM; intro g13 u13 HG13 HM) | (have q : dV HM = 13 := rfl; clear q HM; intro g14 u14 HG14 HM)) | (refine wv_load rfl _ _ rfl rfl (by exact rowOf) HM (by exact vmemOf) (by exact vsizOf) ?_) | (refine wv_store rfl _ _ _ rfl rfl rfl (by exact rowOf) HM (by exact vidxOf) (by exact vsizOf) (by exact vsizOf) (by exact voneOf) ?_; clear HM; intro us HM; dsimp only [List.set] at HM) | (refine wl_zero rfl _ rfl (by exact arrOf) (by kernel_rfl) ?_)) | (refine wv_elem rfl _ rfl rfl HM (by exact vmemOf) (by exact velOf) ?_) | (refine wv_put rfl _ _ rfl rfl rfl HM (by exact vidxOf) (by exact vltOf) ?_; clear HM; intro us HM; dsimp only [List.set] at HM) | (refine wv_loadS rfl _ _ rfl rfl (by exact arrOf) HM (by exact vmemOf) (by exact vsubF) (by exact lenOf) ?_))
    refine (fread_any A n c (wrB 1 l q p) o _ HR LO.out (HE.out.below HM.out.1)).mono ?_
    rintro e w6 ⟨rfl, hb⟩
    have HM2 := Lib.hid (HM.out.below hb)
    clear hb HM HR
    have HM := HM2
    clear HM2
    rcases rd_cases (wrB 1 l q p) o with ⟨K', l', q', hrd, hv, hc', -, ll', lq'⟩ | ⟨er, her, hv, -⟩
    rotate_left
    · rw [hv]
      have LZ := Lib.hid (show (zr 23).length = 23 from zr_length 23)
      have hgd := grdFrame
      have heq := fun u => run_eq_fr frS_zero frS_zero u
      simp only [decide_true, Bool.and_self] at heq
      clear hv
      rcases her with rfl | rfl
      all_goals
        go_wp2_with (first | (refine wv_zeroF rfl rfl ?_) | (first | ((first | refine wv_box rfl _ _ rfl rfl HM ?_ | refine wv_alloc rfl _ rfl (by exact rowOf) HM ?_); first | (have q : dV HM = 0 := rfl; clear q HM; intro g1 u1 HG1 HM) | (have q : dV HM = 1 := rfl; clear q HM; intro g2 u2 HG2 HM) | (have q : dV HM = 2 := rfl; clear q HM; intro g3 u3 HG3 HM) | (have q : dV HM = 3 := rfl; clear q HM; intro g4 u4 HG4 HM) | (have q : dV HM = 4 := rfl; clear q HM; intro g5 u5 HG5 HM) | (have q : dV HM = 5 := rfl; clear q HM; intro g6 u6 HG6 HM) | (have q : dV HM = 6 := rfl; clear q HM; intro g7 u7 HG7 HM) | (have q : dV HM = 7 := rfl; clear q HM; intro g8 u8 HG8 HM) | (have q : dV HM = 8 := rfl; clear q HM; intro g9 u9 HG9 HM) | (have q : dV HM = 9 := rfl; clear q HM; intro g10 u10 HG10 HM) | (have q : dV HM = 10 := rfl; clear q HM; intro g11 u11 HG11 HM) | (have q : dV HM = 11 := rfl; clear q HM; intro g12 u12 HG12 HM) | (have q : dV HM = 12 := rfl; clear q HM; intro g13 u13 HG13 HM) | (have q : dV HM = 13 := rfl; clear q HM; intro g14 u14 HG14 HM)) | (refine wv_load rfl _ _ rfl rfl (by exact rowOf) HM (by exact vmemOf) (by exact vsizOf) ?_) | (refine wv_store rfl _ _ _ rfl rfl rfl (by exact rowOf) HM (by exact vidxOf) (by exact vsizOf) (by exact vsizOf) (by exact voneOf) ?_; clear HM; intro us HM; dsimp only [List.set] at HM) | (refine wl_zero rfl _ rfl (by exact arrOf) (by kernel_rfl) ?_)) | (refine wv_elem rfl _ rfl rfl HM (by exact vmemOf) (by exact velOf) ?_) | (refine wv_put rfl _ _ rfl rfl rfl HM (by exact vidxOf) (by exact vltOf) ?_; clear HM; intro us HM; dsimp only [List.set] at HM) | (refine wv_loadS rfl _ _ rfl rfl (by exact arrOf) HM (by exact vmemOf) (by exact vsubF) (by exact lenOf) ?_))
        go_ret
        exact ⟨rfl, HM.out.1⟩
    rw [hv]
    obtain ⟨hk', hdl⟩ := fr_deltas HFR.out HF1.out.ll HF1.out.lq hrd
    have hfr' := (chkB_iff _ _ _ _).1 hc'
    have HFR' := Lib.hid hfr'
    have HDL := Lib.hid hdl
    have hGS := frS_mk (K := K') ll' lq'
    obtain ⟨G, hG⟩ : ∃ G, G = frL K' l' q' := ⟨_, rfl⟩
    rw [← hG] at hGS ⊢
    have HGS := Lib.hid hGS
    have LG := Lib.hid hGS.len
    have HCG := Lib.hid (show 0 < G.length ∧ G.getD 0 0 = 1 from ⟨by rw [hGS.len]; decide, by rw [hGS.k0, hk']⟩)
    clear hdl hrd hv hc' hfr' ll' lq' hG hGS hk'
    go_wp2_with (first | (refine wv_zeroF rfl rfl ?_) | (first | ((first | refine wv_box rfl _ _ rfl rfl HM ?_ | refine wv_alloc rfl _ rfl (by exact rowOf) HM ?_); first | (have q : dV HM = 0 := rfl; clear q HM; intro g1 u1 HG1 HM) | (have q : dV HM = 1 := rfl; clear q HM; intro g2 u2 HG2 HM) | (have q : dV HM = 2 := rfl; clear q HM; intro g3 u3 HG3 HM) | (have q : dV HM = 3 := rfl; clear q HM; intro g4 u4 HG4 HM) | (have q : dV HM = 4 := rfl; clear q HM; intro g5 u5 HG5 HM) | (have q : dV HM = 5 := rfl; clear q HM; intro g6 u6 HG6 HM) | (have q : dV HM = 6 := rfl; clear q HM; intro g7 u7 HG7 HM) | (have q : dV HM = 7 := rfl; clear q HM; intro g8 u8 HG8 HM) | (have q : dV HM = 8 := rfl; clear q HM; intro g9 u9 HG9 HM) | (have q : dV HM = 9 := rfl; clear q HM; intro g10 u10 HG10 HM) | (have q : dV HM = 10 := rfl; clear q HM; intro g11 u11 HG11 HM) | (have q : dV HM = 11 := rfl; clear q HM; intro g12 u12 HG12 HM) | (have q : dV HM = 12 := rfl; clear q HM; intro g13 u13 HG13 HM) | (have q : dV HM = 13 := rfl; clear q HM; intro g14 u14 HG14 HM)) | (refine wv_load rfl _ _ rfl rfl (by exact rowOf) HM (by exact vmemOf) (by exact vsizOf) ?_) | (refine wv_store rfl _ _ _ rfl rfl rfl (by exact rowOf) HM (by exact vidxOf) (by exact vsizOf) (by exact vsizOf) (by exact voneOf) ?_; clear HM; intro us HM; dsimp only [List.set] at HM) | (refine wl_zero rfl _ rfl (by exact arrOf) (by kernel_rfl) ?_)) | (refine wv_elem rfl _ rfl rfl HM (by exact vmemOf) (by exact velOf) ?_) | (refine wv_put rfl _ _ rfl rfl rfl HM (by exact vidxOf) (by exact vltOf) ?_; clear HM; intro us HM; dsimp only [List.set] at HM) | (refine wv_loadS rfl _ _ rfl rfl (by exact arrOf) HM (by exact vmemOf) (by exact vsubF) (by exact lenOf) ?_))
    go_loopw [12, 51] (fun _ vi wr => ∃ k : Nat, vi = .int .i64 (k : Int) ∧ k ≤ 6 ∧ Hid (MV w wr [(g4, 26, icells G), (g3, 23, icells o), (g2, 23, icells p), (g1, 26, icells (F.set 0 1))] wr)) (fun _ vi _ => 6 - (intOf vi).toNat)
    case atStart => exact ⟨0, rfl, by omega, Lib.hid HM.out.base⟩
    case round =>
      clear HM
      obtain ⟨k, rfl, hk, HM⟩ := hrel
      by_cases hlt : k < 6
      · have k6 : (k : Int) < 6 := by omega
        obtain ⟨x1, x2⟩ := inR_bd HFR'.out.lev (by omega) (by omega) k
        obtain ⟨y1, y2⟩ := inR_bd HFR'.out.ahead (by omega) (by omega) k
        obtain ⟨z1, z2⟩ := inR_bd HFR.out.lev (by omega) (by omega) k
        obtain ⟨t1, t2⟩ := inR_bd HFR.out.ahead (by omega) (by omega) k
        have hd := HDL.out k hlt
        have c1 := frS_levG HGS.out hlt
        have c3 := frS_levG HF1.out hlt
        obtain ⟨x, hx⟩ : ∃ x, l'.getD k 0 = x := ⟨_, rfl⟩
        obtain ⟨y, hy⟩ : ∃ y, o.getD k 0 = y := ⟨_, rfl⟩
        obtain ⟨z, hz⟩ : ∃ z, l.getD k 0 = z := ⟨_, rfl⟩
        obtain ⟨t, ht⟩ : ∃ t, p.getD k 0 = t := ⟨_, rfl⟩
        have HC1 := Lib.hid (fun u (hu : DltP g1 g2 g3 g4 (F.set 0 1) p o G u) => (blk_at hu.2.2.2 (i := 1 + k) (by rw [LG.out]; omega)).trans (c1w (c1.trans hx)))
        have HC2 := Lib.hid (fun u (hu : DltP g1 g2 g3 g4 (F.set 0 1) p o G u) => (blk_at hu.2.2.1 (i := k) (by rw [LO.out]; omega)).trans (c1w hy))
        have HC3 := Lib.hid (fun u (hu : DltP g1 g2 g3 g4 (F.set 0 1) p o G u) => (blk_at hu.1 (i := 1 + k) (by rw [LF1.out]; omega)).trans (c1w (c3.trans hz)))
        have HC4 := Lib.hid (fun u (hu : DltP g1 g2 g3 g4 (F.set 0 1) p o G u) => (blk_at hu.2.1 (i := k) (by rw [LP.out]; omega)).trans (c1w ht))
        rw [hx] at x1 x2 hd
        rw [hy] at y1 y2 hd
        rw [hz] at z1 z2 hd
        rw [ht] at t1 t2 hd
        have w1 : IntKind.i64.wrap (x - y) = x - y := i64_w (by omega) (by omega)
        have w2 : IntKind.i64.wrap (z - t) = z - t := i64_w (by omega) (by omega)
        have q1 : ((x - y) != (z - t)) = false := by rw [hd]; simp
        clear hx hy hz ht c1 c3 hd
        go_wp2_with fail
        refine wp_region_held_drew (S := DltP g1 g2 g3 g4 (F.set 0 1) p o G) (by kernel_rfl) ⟨HM.out.get (by exact vmemOf), HM.out.get (by exact vmemOf), HM.out.get (by exact vmemOf), HM.out.get (by exact vmemOf)⟩ (fun hHeld => ?_)
        (refine wa_take (i := 0) (v := .int .i64 (k : Int)) rfl (by kernel_rfl) (by kernel_rfl) (by kernel_rfl) (fun _ _ _ h => h) (yi_free rfl (fun u => rfl)) hHeld rfl ?_; (try simp only [Act.put, List.setIfInBounds_toArray, List.set_cons_zero, List.set_cons_succ]))
        (refine wa_take (i := 1) (v := .pointer (some ⟨g4, 1, none⟩)) rfl (by kernel_rfl) (by kernel_rfl) (by kernel_rfl) (fun _ _ _ h => h) (yi_free rfl (fun u => by go_simp)) hHeld rfl ?_; (try simp only [Act.put, List.setIfInBounds_toArray, List.set_cons_zero, List.set_cons_succ]))
        (refine wa_take (i := 2) (v := .pointer (some ⟨g4, 1 + k, none⟩)) rfl (by kernel_rfl) (by kernel_rfl) (by kernel_rfl) (fun _ _ _ h => h) (yi_free rfl (fun u => by go_simp)) hHeld rfl ?_; (try simp only [Act.put, List.setIfInBounds_toArray, List.set_cons_zero, List.set_cons_succ]))
        (refine wa_take (i := 3) rfl (by kernel_rfl) (by kernel_rfl) (by kernel_rfl) (fun _ _ _ h => h) (yi_cell rfl _ rfl rfl (HC1).out) hHeld rfl ?_; (try simp only [Act.put, List.setIfInBounds_toArray, List.set_cons_zero, List.set_cons_succ]))
        (refine wa_take (i := 4) (v := .int .i64 (k : Int)) rfl (by kernel_rfl) (by kernel_rfl) (by kernel_rfl) (fun _ _ _ h => h) (yi_free rfl (fun u => rfl)) hHeld rfl ?_; (try simp only [Act.put, List.setIfInBounds_toArray, List.set_cons_zero, List.set_cons_succ]))
        (refine wa_take (i := 5) (v := .pointer (some ⟨g3, k, none⟩)) rfl (by kernel_rfl) (by kernel_rfl) (by kernel_rfl) (fun _ _ _ h => h) (yi_free rfl (fun u => by go_simp)) hHeld rfl ?_; (try simp only [Act.put, List.setIfInBounds_toArray, List.set_cons_zero, List.set_cons_succ]))
        (refine wa_take (i := 6) rfl (by kernel_rfl) (by kernel_rfl) (by kernel_rfl) (fun _ _ _ h => h) (yi_cell rfl _ rfl rfl (HC2).out) hHeld rfl ?_; (try simp only [Act.put, List.setIfInBounds_toArray, List.set_cons_zero, List.set_cons_succ]))
        (refine wa_take (i := 7) (v := .int .i64 (x - y)) rfl (by kernel_rfl) (by kernel_rfl) (by kernel_rfl) (fun _ _ _ h => h) (yi_free rfl (fun u => by go_simp)) hHeld rfl ?_; (try simp only [Act.put, List.setIfInBounds_toArray, List.set_cons_zero, List.set_cons_succ]))
        (refine wa_take (i := 8) (v := .int .i64 (k : Int)) rfl (by kernel_rfl) (by kernel_rfl) (by kernel_rfl) (fun _ _ _ h => h) (yi_free rfl (fun u => rfl)) hHeld rfl ?_; (try simp only [Act.put, List.setIfInBounds_toArray, List.set_cons_zero, List.set_cons_succ]))
        (refine wa_take (i := 9) (v := .pointer (some ⟨g1, 1, none⟩)) rfl (by kernel_rfl) (by kernel_rfl) (by kernel_rfl) (fun _ _ _ h => h) (yi_free rfl (fun u => by go_simp)) hHeld rfl ?_; (try simp only [Act.put, List.setIfInBounds_toArray, List.set_cons_zero, List.set_cons_succ]))
        (refine wa_take (i := 10) (v := .pointer (some ⟨g1, 1 + k, none⟩)) rfl (by kernel_rfl) (by kernel_rfl) (by kernel_rfl) (fun _ _ _ h => h) (yi_free rfl (fun u => by go_simp)) hHeld rfl ?_; (try simp only [Act.put, List.setIfInBounds_toArray, List.set_cons_zero, List.set_cons_succ]))
        (refine wa_take (i := 11) rfl (by kernel_rfl) (by kernel_rfl) (by kernel_rfl) (fun _ _ _ h => h) (yi_cell rfl _ rfl rfl (HC3).out) hHeld rfl ?_; (try simp only [Act.put, List.setIfInBounds_toArray, List.set_cons_zero, List.set_cons_succ]))
        (refine wa_take (i := 12) (v := .int .i64 (k : Int)) rfl (by kernel_rfl) (by kernel_rfl) (by kernel_rfl) (fun _ _ _ h => h) (yi_free rfl (fun u => rfl)) hHeld rfl ?_; (try simp only [Act.put, List.setIfInBounds_toArray, List.set_cons_zero, List.set_cons_succ]))
        (refine wa_take (i := 13) (v := .pointer (some ⟨g2, k, none⟩)) rfl (by kernel_rfl) (by kernel_rfl) (by kernel_rfl) (fun _ _ _ h => h) (yi_free rfl (fun u => by go_simp)) hHeld rfl ?_; (try simp only [Act.put, List.setIfInBounds_toArray, List.set_cons_zero, List.set_cons_succ]))
        (refine wa_take (i := 14) rfl (by kernel_rfl) (by kernel_rfl) (by kernel_rfl) (fun _ _ _ h => h) (yi_cell rfl _ rfl rfl (HC4).out) hHeld rfl ?_; (try simp only [Act.put, List.setIfInBounds_toArray, List.set_cons_zero, List.set_cons_succ]))
        (refine wa_take (i := 15) (v := .int .i64 (z - t)) rfl (by kernel_rfl) (by kernel_rfl) (by kernel_rfl) (fun _ _ _ h => h) (yi_free rfl (fun u => by go_simp)) hHeld rfl ?_; (try simp only [Act.put, List.setIfInBounds_toArray, List.set_cons_zero, List.set_cons_succ]))
        (refine wa_take (i := 16) (v := .bool false) rfl (by kernel_rfl) (by kernel_rfl) (by kernel_rfl) (fun _ _ _ h => h) (yi_free rfl (fun u => by go_simp)) hHeld rfl ?_; (try simp only [Act.put, List.setIfInBounds_toArray, List.set_cons_zero, List.set_cons_succ]))
        refine wpAnyH_done (by kernel_rfl) ?_ _
        go_wp2_with fail
        go_roundw
        case rel => exact ⟨k + 1, by go_num, by omega, Lib.hid HM.out.drew.base⟩
        case measure => simp [intOf]; omega
      · obtain rfl : k = 6 := by omega
        go_wp2_with (first | (refine wv_zeroF rfl rfl ?_) | (first | ((first | refine wv_box rfl _ _ rfl rfl HM ?_ | refine wv_alloc rfl _ rfl (by exact rowOf) HM ?_); first | (have q : dV HM = 0 := rfl; clear q HM; intro g1 u1 HG1 HM) | (have q : dV HM = 1 := rfl; clear q HM; intro g2 u2 HG2 HM) | (have q : dV HM = 2 := rfl; clear q HM; intro g3 u3 HG3 HM) | (have q : dV HM = 3 := rfl; clear q HM; intro g4 u4 HG4 HM) | (have q : dV HM = 4 := rfl; clear q HM; intro g5 u5 HG5 HM) | (have q : dV HM = 5 := rfl; clear q HM; intro g6 u6 HG6 HM) | (have q : dV HM = 6 := rfl; clear q HM; intro g7 u7 HG7 HM) | (have q : dV HM = 7 := rfl; clear q HM; intro g8 u8 HG8 HM) | (have q : dV HM = 8 := rfl; clear q HM; intro g9 u9 HG9 HM) | (have q : dV HM = 9 := rfl; clear q HM; intro g10 u10 HG10 HM) | (have q : dV HM = 10 := rfl; clear q HM; intro g11 u11 HG11 HM) | (have q : dV HM = 11 := rfl; clear q HM; intro g12 u12 HG12 HM) | (have q : dV HM = 12 := rfl; clear q HM; intro g13 u13 HG13 HM) | (have q : dV HM = 13 := rfl; clear q HM; intro g14 u14 HG14 HM)) | (refine wv_load rfl _ _ rfl rfl (by exact rowOf) HM (by exact vmemOf) (by exact vsizOf) ?_) | (refine wv_store rfl _ _ _ rfl rfl rfl (by exact rowOf) HM (by exact vidxOf) (by exact vsizOf) (by exact vsizOf) (by exact voneOf) ?_; clear HM; intro us HM; dsimp only [List.set] at HM) | (refine wl_zero rfl _ rfl (by exact arrOf) (by kernel_rfl) ?_)) | (refine wv_elem rfl _ rfl rfl HM (by exact vmemOf) (by exact velOf) ?_) | (refine wv_put rfl _ _ rfl rfl rfl HM (by exact vidxOf) (by exact vltOf) ?_; clear HM; intro us HM; dsimp only [List.set] at HM) | (refine wv_loadS rfl _ _ rfl rfl (by exact arrOf) HM (by exact vmemOf) (by exact vsubF) (by exact lenOf) ?_))
        go_ret
        exact ⟨rfl, HM.out.1⟩
end Go.Proofs.YtgpdgegelipboabDoor.Lp
namespace Go.Proofs.YtgpdgegelipboabDoor
open Go.ChangeShapes Go.WideShapes Go.ChangeAt Go.RowKit Go.Joins Go.Deep
theorem laidOut : laidOutB Tryd.prog = true := by kernel_rfl
theorem own : ownKnob Tryd.prog.godebug = none := by kernel_rfl
section
variable {H : Type} {enc : TypeId × Value → H} {W : World} {base : Nat} {spare : Nat → Bool} {held : Bool}
end
end Go.Proofs.YtgpdgegelipboabDoor
namespace Go.Proofs.YtgpdgegelipboabDoor.Lp
open Go.ChangeShapes Go.WideShapes Go.ChangeAt Go.RowKit Go.Joins Go.Deep Go.Proofs.YtgpdgegelipboabDoor.Fq
section
variable {H : Type} {enc : TypeId × Value → H} {W : World} {base : Nat} {spare : Nat → Bool} {held : Bool}
theorem trod_ints {T : TypeId} {n fuel : Nat} {l : List Value} {x : DataW H × List MemPlace} (hT : Tryd.prog.underlying T = some (.array n 3)) (h : DataW.trod enc Tryd.prog W base spare held fuel T l = some x) (hl : l.length = n) : ∃ zs : List Int, zs.length = n ∧ l = zs.map fun x => Value.int .i64 x := by
  obtain ⟨xs, m, rfl, _, _, hn, hel⟩ := DataW.trod_array hT h
  exact ints_of n l hl fun i hi => by
    have hi' := hel i hi
    rw [cells_int, Nat.mul_one] at hi'
    have hx : xs[i]? = some xs[i] := List.getElem?_eq_getElem (by omega)
    rw [hx] at hi'
    obtain ⟨z, hz, _⟩ := DataW.trod_int Tryd.underlying3 hi'
    exact ⟨z, by simpa [Value.cells] using hz⟩
theorem cells_lev : Tryd.prog.cellsOf 23 = 6 := by kernel_rfl
theorem cells_hop : Tryd.prog.cellsOf 24 = 16 := by kernel_rfl
theorem cells_frame : Tryd.prog.cellsOf 26 = 23 := by kernel_rfl
set_option maxRecDepth 20000 in
theorem open_fr {b0 : Nat} {r : Reach} {v : Value} {d : DataW H} {p : List MemPlace} (hv : Value.okWide Tryd.prog W r b0 26 v) (h : DataW.Trod enc Tryd.prog W base spare held 26 v d p) : ∃ zs : List Int, v = .agg (icells zs) ∧ zs.length = 23 := by
  obtain ⟨cs, rfl, hsz⟩ : ∃ cs, v = .agg cs ∧ cs.size = 23 := by
    simp only [Value.okWide, und_frame] at hv
    obtain ⟨cs, h1, h2, _⟩ := hv
    exact ⟨cs, h1, by rw [h2, cells_frame]⟩
  obtain ⟨fuel, hf⟩ := h
  obtain ⟨xs, m, rfl, _, _, hn, hel⟩ := DataW.trod_struct und_frame hf
  have hfl := flds_frame
  generalize Tryd.prog.fieldsOf 26 = fs at hel hn hfl
  obtain ⟨f1, s1, e0, e1, hfl⟩ := List.map_eq_cons_iff.1 hfl
  obtain ⟨f2, s2, rfl, e2, hfl⟩ := List.map_eq_cons_iff.1 hfl
  obtain ⟨f3, s3, rfl, e3, hfl⟩ := List.map_eq_cons_iff.1 hfl
  obtain rfl := List.map_eq_nil_iff.1 hfl
  simp only [Prod.mk.injEq] at e1 e2 e3
  have hl3 : fs.size = 3 := by rw [← Array.length_toList, e0]; rfl
  have g1 : fs[0]? = some f1 := by rw [← Array.getElem?_toList, e0]; rfl
  have g2 : fs[1]? = some f2 := by rw [← Array.getElem?_toList, e0]; rfl
  have g3 : fs[2]? = some f3 := by rw [← Array.getElem?_toList, e0]; rfl
  have h1 := hel 0 f1 g1
  have h2 := hel 1 f2 g2
  have h3 := hel 2 f3 g3
  rw [e1.2.1, e1.2.2, cells_int, List.getElem?_eq_getElem (by omega)] at h1
  rw [e2.2.1, e2.2.2, cells_lev, List.getElem?_eq_getElem (by omega)] at h2
  rw [e3.2.1, e3.2.2, cells_hop, List.getElem?_eq_getElem (by omega)] at h3
  simp only [Value.cells] at h1 h2 h3
  have hcl : cs.toList.length = 23 := by rw [Array.length_toList, hsz]
  obtain ⟨z, hz, _⟩ := DataW.trod_int Tryd.underlying3 h1
  obtain ⟨l2, hl2, q2⟩ := trod_ints (n := 6) (by kernel_rfl) h2 (by rw [List.length_take, List.length_drop, hcl]; rfl)
  obtain ⟨l3, hl3', q3⟩ := trod_ints (n := 16) (by kernel_rfl) h3 (by rw [List.length_take, List.length_drop, hcl]; rfl)
  refine ⟨z :: (l2 ++ l3), ?_, by rw [List.length_cons, List.length_append, hl2, hl3']⟩
  have e : cs.toList = (z :: (l2 ++ l3)).map fun x => Value.int .i64 x := by
    rw [List.map_cons, List.map_append, ← q2, ← q3]
    have a1 : cs.toList = cs.toList.take 1 ++ cs.toList.drop 1 := (List.take_append_drop 1 _).symm
    have a2 : cs.toList.drop 1 = (cs.toList.drop 1).take 6 ++ (cs.toList.drop 1).drop 6 := (List.take_append_drop 6 _).symm
    have a3 : (cs.toList.drop 7).take 16 = cs.toList.drop 7 := List.take_of_length_le (by rw [List.length_drop, hcl]; omega)
    rw [List.drop_drop] at a2
    have a4 : cs.toList.take 1 = [.int .i64 z] := by simpa using hz
    rw [a3]
    conv => lhs; rw [a1, a4, a2]
    rfl
  unfold icells
  rw [← e]
end
end Go.Proofs.YtgpdgegelipboabDoor.Lp
