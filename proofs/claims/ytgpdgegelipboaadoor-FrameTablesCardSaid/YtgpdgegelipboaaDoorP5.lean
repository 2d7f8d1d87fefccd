/-
  Own texts, laid together: Eu, Yq, Yu, Zb, Zf, Ze, Open, Zo, Za, Zd.
-/
import Derived.Test.YtgpdgegelipboaaDoorP4
set_option linter.unusedSimpArgs false
set_option linter.unusedVariables false
set_option maxRecDepth 8000
namespace Go.Proofs.YtgpdgegelipboaaDoor.Lp
open Go.RowKit Go.Proofs.YtgpdgegelipboaaDoor.Fx Go.Proofs.YtgpdgegelipboaaDoor.Fq Go.Proofs.YtgpdgegelipboaaDoor.Tb
open Go.Proofs.YtgpdgegelipboaaDoor.Cd (De FineD fineD0 d0 nxE nxK decV dcC isB_parts)
open Go.Proofs.YtgpdgegelipboaaDoor.Yr (stR inB rdR rd_thru thru kT kindR lvO nmO chkB wrB rd_one wrB_len chkB_iff lvO_length row_ext lvO_get)
theorem rdR_far {bs : List Nat} {p : List Int} (h : ¬ (1 ≤ bs.length ∧ bs.length ≤ 40)) : rdR bs p = none := by
  cases e : rdR bs p with
  | none => rfl
  | some x =>
    obtain ⟨K, l, q⟩ := x
    obtain ⟨c1, c2, c3⟩ := rd_one e
    have := wrB_len ((chkB_iff K l q p).1 c1)
    rw [c2] at this
    omega
theorem frL_O {F : List Int} (h : F.length = 23) : frL (F.getD 0 0) (lvO F) (nmO F) = F := by
  match F, h with
  | x :: t, h =>
    have ht : t.length = 22 := by simpa using h
    unfold frL lvO nmO
    show x :: (((x :: t).drop 1).take 6 ++ ((x :: t).drop 7).take 16) = x :: t
    rw [List.drop_succ_cons, List.drop_zero, List.drop_succ_cons, List.take_of_length_le (l := t.drop 6) (by rw [List.length_drop]; omega), List.take_append_drop]
/-- what Read answers, by one who reads -/
theorem rdV_some {bs : List Nat} {p : List Int} {d : De} {F : List Int} (hp : chkL p = true) (LF : F.length = 23) (h : thru (stR (inB bs)) (fun s => s.2) p (d0 (inB bs), zr 23) = some (d, F)) : rdV bs p = if hjB F p bs = true then .tuple #[.agg (icells F), .int .i64 0] else .tuple #[.agg (icells (zr 23)), .int .i64 21] := by
  have h2 := rd_thru (bs := bs) (p := p)
  rw [h] at h2
  have h3 := h2 LF
  unfold rdV
  rw [if_pos hp]
  by_cases hc : chkB (F.getD 0 0) (lvO F) (nmO F) p = true ∧ wrB (F.getD 0 0) (lvO F) (nmO F) p = bs
  · rw [if_pos hc] at h3
    rw [h3, if_pos (by unfold hjB; exact decide_eq_true hc)]
    show Value.tuple #[.agg (icells (frL (F.getD 0 0) (lvO F) (nmO F))), .int .i64 0] = _
    rw [frL_O LF]
  · rw [if_neg hc] at h3
    rw [h3, if_neg (by unfold hjB; rw [decide_eq_false hc]; exact Bool.false_ne_true)]
theorem rdV_none {bs : List Nat} {p : List Int} (hp : chkL p = true) (h : thru (stR (inB bs)) (fun s => s.2) p (d0 (inB bs), zr 23) = none) : rdV bs p = .tuple #[.agg (icells (zr 23)), .int .i64 21] := by
  have h2 := rd_thru (bs := bs) (p := p)
  rw [h] at h2
  have h3 : rdR bs p = none := h2
  unfold rdV
  rw [if_pos hp, h3]
set_option maxRecDepth 100000 in
set_option maxHeartbeats 4000000 in
theorem fread_arg (A : Option Addr) (n c : Nat) (bs : List Nat) (p : List Int) (w : World) (lp : p.length = 6) (hp : chkL p = false) :
    Calls Tryd.prog 9 #[.slice A n c, .agg (icells p)] w (ValQ w (rdV bs p)) := by
  have HV := Lib.hid (show rdV bs p = .tuple #[.agg (icells (zr 23)), .int .i64 1] by unfold rdV; rw [if_neg (by rw [hp]; exact Bool.false_ne_true)])
  have HC := Lib.hid (fun u => bcheck_any p false 1 u lp hp rfl)
  have LP := Lib.hid lp
  have HM := Lib.hid (MV.start w)
  clear lp hp
  go_enter Tryd.func9, Tryd.ntmps9
  go_wp2_with (first | (refine wv_zeroF rfl rfl ?_) | (first | ((first | refine wv_box rfl _ _ rfl rfl HM ?_ | refine wv_alloc rfl _ rfl (by exact rowOf) HM ?_); first | (have q : dV HM = 0 := rfl; clear q HM; intro g1 u1 HG1 HM) | (have q : dV HM = 1 := rfl; clear q HM; intro g2 u2 HG2 HM) | (have q : dV HM = 2 := rfl; clear q HM; intro g3 u3 HG3 HM) | (have q : dV HM = 3 := rfl; clear q HM; intro g4 u4 HG4 HM) | (have q : dV HM = 4 := rfl; clear q HM; intro g5 u5 HG5 HM) | (have q : dV HM = 5 := rfl; clear q HM; intro g6 u6 HG6 HM) | (have q : dV HM = 6 := rfl; clear q HM; intro g7 u7 HG7 HM) | (have q : dV HM = 7 := rfl; clear q HM; intro g8 u8 HG8 HM) | (have q : dV HM = 8 := rfl; clear q HM; intro g9 u9 HG9 HM) | (have q : dV HM = 9 := rfl; clear q HM; intro g10 u10 HG10 HM) | (have q : dV HM = 10 := rfl; clear q HM; intro g11 u11 HG11 HM) | (have q : dV HM = 11 := rfl; clear q HM; intro g12 u12 HG12 HM) | (have q : dV HM = 12 := rfl; clear q HM; intro g13 u13 HG13 HM) | (have q : dV HM = 13 := rfl; clear q HM; intro g14 u14 HG14 HM)) | (refine wv_load rfl _ _ rfl rfl (by exact rowOf) HM (by exact vmemOf) (by exact vsizOf) ?_) | (refine wv_store rfl _ _ _ rfl rfl rfl (by exact rowOf) HM (by exact vidxOf) (by exact vsizOf) (by exact vsizOf) (by exact voneOf) ?_; clear HM; intro us HM; dsimp only [List.set] at HM) | (refine wl_zero rfl _ rfl (by exact arrOf) (by kernel_rfl) ?_)) | (refine wv_elem rfl _ rfl rfl HM (by exact vmemOf) (by exact velOf) ?_) | (refine wv_put rfl _ _ rfl rfl rfl HM (by exact vidxOf) (by exact vltOf) ?_; clear HM; intro us HM; dsimp only [List.set] at HM) | (refine wv_loadS rfl _ _ rfl rfl (by exact arrOf) HM (by exact vmemOf) (by exact vsubF) (by exact lenOf) ?_))
  refine (HC.out _).mono ?_
  rintro e w2 ⟨rfl, h1⟩
  have HM2 := Lib.hid (HM.out.below h1).base
  clear h1 HM HC
  have HM := HM2
  clear HM2
  go_wp2_with (first | (refine wv_zeroF rfl rfl ?_) | (first | ((first | refine wv_box rfl _ _ rfl rfl HM ?_ | refine wv_alloc rfl _ rfl (by exact rowOf) HM ?_); first | (have q : dV HM = 0 := rfl; clear q HM; intro g1 u1 HG1 HM) | (have q : dV HM = 1 := rfl; clear q HM; intro g2 u2 HG2 HM) | (have q : dV HM = 2 := rfl; clear q HM; intro g3 u3 HG3 HM) | (have q : dV HM = 3 := rfl; clear q HM; intro g4 u4 HG4 HM) | (have q : dV HM = 4 := rfl; clear q HM; intro g5 u5 HG5 HM) | (have q : dV HM = 5 := rfl; clear q HM; intro g6 u6 HG6 HM) | (have q : dV HM = 6 := rfl; clear q HM; intro g7 u7 HG7 HM) | (have q : dV HM = 7 := rfl; clear q HM; intro g8 u8 HG8 HM) | (have q : dV HM = 8 := rfl; clear q HM; intro g9 u9 HG9 HM) | (have q : dV HM = 9 := rfl; clear q HM; intro g10 u10 HG10 HM) | (have q : dV HM = 10 := rfl; clear q HM; intro g11 u11 HG11 HM) | (have q : dV HM = 11 := rfl; clear q HM; intro g12 u12 HG12 HM) | (have q : dV HM = 12 := rfl; clear q HM; intro g13 u13 HG13 HM) | (have q : dV HM = 13 := rfl; clear q HM; intro g14 u14 HG14 HM)) | (refine wv_load rfl _ _ rfl rfl (by exact rowOf) HM (by exact vmemOf) (by exact vsizOf) ?_) | (refine wv_store rfl _ _ _ rfl rfl rfl (by exact rowOf) HM (by exact vidxOf) (by exact vsizOf) (by exact vsizOf) (by exact voneOf) ?_; clear HM; intro us HM; dsimp only [List.set] at HM) | (refine wl_zero rfl _ rfl (by exact arrOf) (by kernel_rfl) ?_)) | (refine wv_elem rfl _ rfl rfl HM (by exact vmemOf) (by exact velOf) ?_) | (refine wv_put rfl _ _ rfl rfl rfl HM (by exact vidxOf) (by exact vltOf) ?_; clear HM; intro us HM; dsimp only [List.set] at HM) | (refine wv_loadS rfl _ _ rfl rfl (by exact arrOf) HM (by exact vmemOf) (by exact vsubF) (by exact lenOf) ?_))
  exact bodyPost_ret (v := .tuple #[.agg (icells (zr 23)), .int .i64 1]) (vres_two rfl _ rfl rfl rowFr HM (by exact vmemOf) (by exact vsizOf)) rfl ⟨by rw [HV.out], HM.out.1⟩
set_option maxRecDepth 100000 in
set_option maxHeartbeats 4000000 in
theorem fread_far (A : Option Addr) (n c : Nat) (bs : List Nat) (p : List Int) (w : World) (hr : Hid (Rd w A n bs)) (lp : p.length = 6) (hp : chkL p = true) (h : ¬ (1 ≤ n ∧ n ≤ 40)) :
    Calls Tryd.prog 9 #[.slice A n c, .agg (icells p)] w (ValQ w (rdV bs p)) := by
  have HV := Lib.hid (show rdV bs p = .tuple #[.agg (icells (zr 23)), .int .i64 21] by unfold rdV; rw [if_pos hp, rdR_far (by rw [hr.out.1]; exact h)])
  have HC := Lib.hid (fun u => bcheck_any p true 0 u lp hp rfl)
  have HO := Lib.hid (fun u => open_no A n c u h)
  have LP := Lib.hid lp
  have HM := Lib.hid (MV.start w)
  clear lp hp h
  go_enter Tryd.func9, Tryd.ntmps9
  go_wp2_with (first | (refine wv_zeroF rfl rfl ?_) | (first | ((first | refine wv_box rfl _ _ rfl rfl HM ?_ | refine wv_alloc rfl _ rfl (by exact rowOf) HM ?_); first | (have q : dV HM = 0 := rfl; clear q HM; intro g1 u1 HG1 HM) | (have q : dV HM = 1 := rfl; clear q HM; intro g2 u2 HG2 HM) | (have q : dV HM = 2 := rfl; clear q HM; intro g3 u3 HG3 HM) | (have q : dV HM = 3 := rfl; clear q HM; intro g4 u4 HG4 HM) | (have q : dV HM = 4 := rfl; clear q HM; intro g5 u5 HG5 HM) | (have q : dV HM = 5 := rfl; clear q HM; intro g6 u6 HG6 HM) | (have q : dV HM = 6 := rfl; clear q HM; intro g7 u7 HG7 HM) | (have q : dV HM = 7 := rfl; clear q HM; intro g8 u8 HG8 HM) | (have q : dV HM = 8 := rfl; clear q HM; intro g9 u9 HG9 HM) | (have q : dV HM = 9 := rfl; clear q HM; intro g10 u10 HG10 HM) | (have q : dV HM = 10 := rfl; clear q HM; intro g11 u11 HG11 HM) | (have q : dV HM = 11 := rfl; clear q HM; intro g12 u12 HG12 HM) | (have q : dV HM = 12 := rfl; clear q HM; intro g13 u13 HG13 HM) | (have q : dV HM = 13 := rfl; clear q HM; intro g14 u14 HG14 HM)) | (refine wv_load rfl _ _ rfl rfl (by exact rowOf) HM (by exact vmemOf) (by exact vsizOf) ?_) | (refine wv_store rfl _ _ _ rfl rfl rfl (by exact rowOf) HM (by exact vidxOf) (by exact vsizOf) (by exact vsizOf) (by exact voneOf) ?_; clear HM; intro us HM; dsimp only [List.set] at HM) | (refine wl_zero rfl _ rfl (by exact arrOf) (by kernel_rfl) ?_)) | (refine wv_elem rfl _ rfl rfl HM (by exact vmemOf) (by exact velOf) ?_) | (refine wv_put rfl _ _ rfl rfl rfl HM (by exact vidxOf) (by exact vltOf) ?_; clear HM; intro us HM; dsimp only [List.set] at HM) | (refine wv_loadS rfl _ _ rfl rfl (by exact arrOf) HM (by exact vmemOf) (by exact vsubF) (by exact lenOf) ?_))
  refine (HC.out _).mono ?_
  rintro e w2 ⟨rfl, h1⟩
  have HM2 := Lib.hid (HM.out.below h1).base
  clear h1 HM HC
  have HM := HM2
  clear HM2
  go_wp2_with (first | (refine wv_zeroF rfl rfl ?_) | (first | ((first | refine wv_box rfl _ _ rfl rfl HM ?_ | refine wv_alloc rfl _ rfl (by exact rowOf) HM ?_); first | (have q : dV HM = 0 := rfl; clear q HM; intro g1 u1 HG1 HM) | (have q : dV HM = 1 := rfl; clear q HM; intro g2 u2 HG2 HM) | (have q : dV HM = 2 := rfl; clear q HM; intro g3 u3 HG3 HM) | (have q : dV HM = 3 := rfl; clear q HM; intro g4 u4 HG4 HM) | (have q : dV HM = 4 := rfl; clear q HM; intro g5 u5 HG5 HM) | (have q : dV HM = 5 := rfl; clear q HM; intro g6 u6 HG6 HM) | (have q : dV HM = 6 := rfl; clear q HM; intro g7 u7 HG7 HM) | (have q : dV HM = 7 := rfl; clear q HM; intro g8 u8 HG8 HM) | (have q : dV HM = 8 := rfl; clear q HM; intro g9 u9 HG9 HM) | (have q : dV HM = 9 := rfl; clear q HM; intro g10 u10 HG10 HM) | (have q : dV HM = 10 := rfl; clear q HM; intro g11 u11 HG11 HM) | (have q : dV HM = 11 := rfl; clear q HM; intro g12 u12 HG12 HM) | (have q : dV HM = 12 := rfl; clear q HM; intro g13 u13 HG13 HM) | (have q : dV HM = 13 := rfl; clear q HM; intro g14 u14 HG14 HM)) | (refine wv_load rfl _ _ rfl rfl (by exact rowOf) HM (by exact vmemOf) (by exact vsizOf) ?_) | (refine wv_store rfl _ _ _ rfl rfl rfl (by exact rowOf) HM (by exact vidxOf) (by exact vsizOf) (by exact vsizOf) (by exact voneOf) ?_; clear HM; intro us HM; dsimp only [List.set] at HM) | (refine wl_zero rfl _ rfl (by exact arrOf) (by kernel_rfl) ?_)) | (refine wv_elem rfl _ rfl rfl HM (by exact vmemOf) (by exact velOf) ?_) | (refine wv_put rfl _ _ rfl rfl rfl HM (by exact vidxOf) (by exact vltOf) ?_; clear HM; intro us HM; dsimp only [List.set] at HM) | (refine wv_loadS rfl _ _ rfl rfl (by exact arrOf) HM (by exact vmemOf) (by exact vsubF) (by exact lenOf) ?_))
  refine (HO.out _).mono ?_
  rintro e w3 ⟨rfl, h1⟩
  have HM2 := Lib.hid (HM.out.below h1).base
  clear h1 HM HO
  have HM := HM2
  clear HM2
  go_wp2_with (first | (refine wv_zeroF rfl rfl ?_) | (first | ((first | refine wv_box rfl _ _ rfl rfl HM ?_ | refine wv_alloc rfl _ rfl (by exact rowOf) HM ?_); first | (have q : dV HM = 0 := rfl; clear q HM; intro g1 u1 HG1 HM) | (have q : dV HM = 1 := rfl; clear q HM; intro g2 u2 HG2 HM) | (have q : dV HM = 2 := rfl; clear q HM; intro g3 u3 HG3 HM) | (have q : dV HM = 3 := rfl; clear q HM; intro g4 u4 HG4 HM) | (have q : dV HM = 4 := rfl; clear q HM; intro g5 u5 HG5 HM) | (have q : dV HM = 5 := rfl; clear q HM; intro g6 u6 HG6 HM) | (have q : dV HM = 6 := rfl; clear q HM; intro g7 u7 HG7 HM) | (have q : dV HM = 7 := rfl; clear q HM; intro g8 u8 HG8 HM) | (have q : dV HM = 8 := rfl; clear q HM; intro g9 u9 HG9 HM) | (have q : dV HM = 9 := rfl; clear q HM; intro g10 u10 HG10 HM) | (have q : dV HM = 10 := rfl; clear q HM; intro g11 u11 HG11 HM) | (have q : dV HM = 11 := rfl; clear q HM; intro g12 u12 HG12 HM) | (have q : dV HM = 12 := rfl; clear q HM; intro g13 u13 HG13 HM) | (have q : dV HM = 13 := rfl; clear q HM; intro g14 u14 HG14 HM)) | (refine wv_load rfl _ _ rfl rfl (by exact rowOf) HM (by exact vmemOf) (by exact vsizOf) ?_) | (refine wv_store rfl _ _ _ rfl rfl rfl (by exact rowOf) HM (by exact vidxOf) (by exact vsizOf) (by exact vsizOf) (by exact voneOf) ?_; clear HM; intro us HM; dsimp only [List.set] at HM) | (refine wl_zero rfl _ rfl (by exact arrOf) (by kernel_rfl) ?_)) | (refine wv_elem rfl _ rfl rfl HM (by exact vmemOf) (by exact velOf) ?_) | (refine wv_put rfl _ _ rfl rfl rfl HM (by exact vidxOf) (by exact vltOf) ?_; clear HM; intro us HM; dsimp only [List.set] at HM) | (refine wv_loadS rfl _ _ rfl rfl (by exact arrOf) HM (by exact vmemOf) (by exact vsubF) (by exact lenOf) ?_))
  exact bodyPost_ret (v := .tuple #[.agg (icells (zr 23)), .int .i64 21]) (vres_two rfl _ rfl rfl rowFr HM (by exact vmemOf) (by exact vsizOf)) rfl ⟨by rw [HV.out], HM.out.1⟩
set_option maxRecDepth 100000 in
set_option maxHeartbeats 8000000 in
theorem fread_yes (A : Option Addr) (n c : Nat) (bs : List Nat) (p : List Int) (w : World) (hr : Hid (Rd w A n bs)) (lp : p.length = 6) (he : Edg w) (hp : chkL p = true) (h1 : 1 ≤ n) (h2 : n ≤ 40) :
    Calls Tryd.prog 9 #[.slice A n c, .agg (icells p)] w (ValQ w (rdV bs p)) := by
  have HC := Lib.hid (fun u => bcheck_any p true 0 u lp hp rfl)
  have HO := Lib.hid (fun u (h : Rd u A n bs) => open_yes A n c bs u (Lib.hid h) h1 h2)
  have HP := Lib.hid hp
  have LP := Lib.hid lp
  have HE := Lib.hid he
  have HLb := Lib.hid (show (inB bs).length ≤ 60000 by rw [inB_len, hr.out.1]; omega)
  have HPK := Lib.hid (show pack (inB bs) = bs from pack_bitsIn_whole bs hr.out.2.1)
  have HM := Lib.hid (MV.start w)
  have hmf : ∀ (fn : Fn) (first cap : Array Value) (w : World), (Instr.makeFunc fn first cap).run Tryd.prog w = .ok (.func fn first cap) w := fun _ _ _ _ => rfl
  clear lp hp he h1 h2
  go_enter Tryd.func9, Tryd.ntmps9
  go_wp2_with (first | (refine wv_zeroF rfl rfl ?_) | (first | ((first | refine wv_box rfl _ _ rfl rfl HM ?_ | refine wv_alloc rfl _ rfl (by exact rowOf) HM ?_); first | (have q : dV HM = 0 := rfl; clear q HM; intro g1 u1 HG1 HM) | (have q : dV HM = 1 := rfl; clear q HM; intro g2 u2 HG2 HM) | (have q : dV HM = 2 := rfl; clear q HM; intro g3 u3 HG3 HM) | (have q : dV HM = 3 := rfl; clear q HM; intro g4 u4 HG4 HM) | (have q : dV HM = 4 := rfl; clear q HM; intro g5 u5 HG5 HM) | (have q : dV HM = 5 := rfl; clear q HM; intro g6 u6 HG6 HM) | (have q : dV HM = 6 := rfl; clear q HM; intro g7 u7 HG7 HM) | (have q : dV HM = 7 := rfl; clear q HM; intro g8 u8 HG8 HM) | (have q : dV HM = 8 := rfl; clear q HM; intro g9 u9 HG9 HM) | (have q : dV HM = 9 := rfl; clear q HM; intro g10 u10 HG10 HM) | (have q : dV HM = 10 := rfl; clear q HM; intro g11 u11 HG11 HM) | (have q : dV HM = 11 := rfl; clear q HM; intro g12 u12 HG12 HM) | (have q : dV HM = 12 := rfl; clear q HM; intro g13 u13 HG13 HM) | (have q : dV HM = 13 := rfl; clear q HM; intro g14 u14 HG14 HM)) | (refine wv_load rfl _ _ rfl rfl (by exact rowOf) HM (by exact vmemOf) (by exact vsizOf) ?_) | (refine wv_store rfl _ _ _ rfl rfl rfl (by exact rowOf) HM (by exact vidxOf) (by exact vsizOf) (by exact vsizOf) (by exact voneOf) ?_; clear HM; intro us HM; dsimp only [List.set] at HM) | (refine wl_zero rfl _ rfl (by exact arrOf) (by kernel_rfl) ?_)) | (refine wv_elem rfl _ rfl rfl HM (by exact vmemOf) (by exact velOf) ?_) | (refine wv_put rfl _ _ rfl rfl rfl HM (by exact vidxOf) (by exact vltOf) ?_; clear HM; intro us HM; dsimp only [List.set] at HM) | (refine wv_loadS rfl _ _ rfl rfl (by exact arrOf) HM (by exact vmemOf) (by exact vsubF) (by exact lenOf) ?_))
  refine (HC.out _).mono ?_
  rintro e w2 ⟨rfl, h1⟩
  have HM2 := Lib.hid (HM.out.below h1).base
  clear h1 HM HC
  have HM := HM2
  clear HM2
  go_wp2_with (first | (refine wv_zeroF rfl rfl ?_) | (first | ((first | refine wv_box rfl _ _ rfl rfl HM ?_ | refine wv_alloc rfl _ rfl (by exact rowOf) HM ?_); first | (have q : dV HM = 0 := rfl; clear q HM; intro g1 u1 HG1 HM) | (have q : dV HM = 1 := rfl; clear q HM; intro g2 u2 HG2 HM) | (have q : dV HM = 2 := rfl; clear q HM; intro g3 u3 HG3 HM) | (have q : dV HM = 3 := rfl; clear q HM; intro g4 u4 HG4 HM) | (have q : dV HM = 4 := rfl; clear q HM; intro g5 u5 HG5 HM) | (have q : dV HM = 5 := rfl; clear q HM; intro g6 u6 HG6 HM) | (have q : dV HM = 6 := rfl; clear q HM; intro g7 u7 HG7 HM) | (have q : dV HM = 7 := rfl; clear q HM; intro g8 u8 HG8 HM) | (have q : dV HM = 8 := rfl; clear q HM; intro g9 u9 HG9 HM) | (have q : dV HM = 9 := rfl; clear q HM; intro g10 u10 HG10 HM) | (have q : dV HM = 10 := rfl; clear q HM; intro g11 u11 HG11 HM) | (have q : dV HM = 11 := rfl; clear q HM; intro g12 u12 HG12 HM) | (have q : dV HM = 12 := rfl; clear q HM; intro g13 u13 HG13 HM) | (have q : dV HM = 13 := rfl; clear q HM; intro g14 u14 HG14 HM)) | (refine wv_load rfl _ _ rfl rfl (by exact rowOf) HM (by exact vmemOf) (by exact vsizOf) ?_) | (refine wv_store rfl _ _ _ rfl rfl rfl (by exact rowOf) HM (by exact vidxOf) (by exact vsizOf) (by exact vsizOf) (by exact voneOf) ?_; clear HM; intro us HM; dsimp only [List.set] at HM) | (refine wl_zero rfl _ rfl (by exact arrOf) (by kernel_rfl) ?_)) | (refine wv_elem rfl _ rfl rfl HM (by exact vmemOf) (by exact velOf) ?_) | (refine wv_put rfl _ _ rfl rfl rfl HM (by exact vidxOf) (by exact vltOf) ?_; clear HM; intro us HM; dsimp only [List.set] at HM) | (refine wv_loadS rfl _ _ rfl rfl (by exact arrOf) HM (by exact vmemOf) (by exact vsubF) (by exact lenOf) ?_))
  refine (HO.out _ (hr.out.below HM.out.1)).mono ?_
  rintro e w3 ⟨gR, rfl, hg, ⟨A3, n3, c3, hB, hR⟩, hb⟩
  have HM0 := HM
  have hA3 := rd_lt hR
  have l2 := (HM.out.get (by exact vmemOf (e := (g2, 26, icells (zr 23))))).lt
  have b1 := HM.out.get (by exact vmemOf (e := (g1, 23, icells p)))
  have HLD := Lib.hid (fun (u : World) (hu : Below w2.heap.size w2 u) => run_load_blk arrLev.row (b1.below hu b1.lt) ((icells_size p).trans LP.out))
  have HE2 := Lib.hid (HE.out.below HM.out.1)
  have HBR := Lib.hid hB
  have HRR := Lib.hid hR
  have HGR := Lib.hid hg
  have HB3 := Lib.hid hb
  obtain ⟨gP, hgP⟩ : ∃ gP, gP = g1 := ⟨_, rfl⟩
  obtain ⟨gO, hgO⟩ : ∃ gO, gO = g2 := ⟨_, rfl⟩
  subst hgP hgO
  clear HM HO hg hB hR hb b1
  have HM := Lib.hid (((MV.start w2).below HB3.out).base)
  go_wp2_with (first | (refine wv_loadE rfl _ _ rfl rfl (Lib.hid (HLD.out _ HM.out.1)) ?_) | (first | (refine wv_zeroF rfl rfl ?_) | (first | ((first | refine wv_box rfl _ _ rfl rfl HM ?_ | refine wv_alloc rfl _ rfl (by exact rowOf) HM ?_); first | (have q : dV HM = 0 := rfl; clear q HM; intro g1 u1 HG1 HM) | (have q : dV HM = 1 := rfl; clear q HM; intro g2 u2 HG2 HM) | (have q : dV HM = 2 := rfl; clear q HM; intro g3 u3 HG3 HM) | (have q : dV HM = 3 := rfl; clear q HM; intro g4 u4 HG4 HM) | (have q : dV HM = 4 := rfl; clear q HM; intro g5 u5 HG5 HM) | (have q : dV HM = 5 := rfl; clear q HM; intro g6 u6 HG6 HM) | (have q : dV HM = 6 := rfl; clear q HM; intro g7 u7 HG7 HM) | (have q : dV HM = 7 := rfl; clear q HM; intro g8 u8 HG8 HM) | (have q : dV HM = 8 := rfl; clear q HM; intro g9 u9 HG9 HM) | (have q : dV HM = 9 := rfl; clear q HM; intro g10 u10 HG10 HM) | (have q : dV HM = 10 := rfl; clear q HM; intro g11 u11 HG11 HM) | (have q : dV HM = 11 := rfl; clear q HM; intro g12 u12 HG12 HM) | (have q : dV HM = 12 := rfl; clear q HM; intro g13 u13 HG13 HM) | (have q : dV HM = 13 := rfl; clear q HM; intro g14 u14 HG14 HM)) | (refine wv_load rfl _ _ rfl rfl (by exact rowOf) HM (by exact vmemOf) (by exact vsizOf) ?_) | (refine wv_store rfl _ _ _ rfl rfl rfl (by exact rowOf) HM (by exact vidxOf) (by exact vsizOf) (by exact vsizOf) (by exact voneOf) ?_; clear HM; intro us HM; dsimp only [List.set] at HM) | (refine wl_zero rfl _ rfl (by exact arrOf) (by kernel_rfl) ?_)) | (refine wv_elem rfl _ rfl rfl HM (by exact vmemOf) (by exact velOf) ?_) | (refine wv_put rfl _ _ rfl rfl rfl HM (by exact vidxOf) (by exact vltOf) ?_; clear HM; intro us HM; dsimp only [List.set] at HM) | (refine wv_loadS rfl _ _ rfl rfl (by exact arrOf) HM (by exact vmemOf) (by exact vsubF) (by exact lenOf) ?_)))
  have n2 := HBR.out.lt
  have HI := Lib.hid (show RsI w2 g1 gR 23 26 (inB bs) (d0 (inB bs), zr 23) [] u1 from RsI.start (K := []) (HM.out.keep HBR.out (fun e he => by rw [List.mem_singleton] at he; subst he; have := HG1.out; show g1 ≠ gR; omega)) (HM.out.rdA HRR.out (Apt.cons (apt0 _ _) hA3 HG1.out)) (HM.out.get (by exact vmemOf)) (zr_length 23) HM.out.1 (fun e he => nomatch he))
  have HT := Lib.hid (telRead (N := 23) (TF := 26) (inp := inB bs) (⟨by have := HG1.out; omega, by have := HG1.out; have := HB3.out.size; omega, HGR.out⟩ : RsG w2 g1 gR) HLb.out)
  have HC := Lib.hid (thru_any (d0 (inB bs), zr 23) [] u1 p HT HI HE2 LP.out HP.out rfl)
  have HLT := Lib.hid (show w2.heap.size ≤ g1 by have := HG1.out; have := HB3.out.size; omega)
  clear HI HT HM HLD
  cases ho : thru (stR (inB bs)) (fun s => s.2) p (d0 (inB bs), zr 23) with
  | none =>
    have HV := Lib.hid (rdV_none HP.out ho)
    rw [ho] at HC
    clear ho
    refine HC.out.mono ?_
    rintro e w4 ⟨E, hE, rfl, hb⟩
    have hE2 : ¬ E = 0 := by simpa using hE
    have HM := Lib.hid (HM0.out.below hb).base
    clear hb HC HM0
    go_wp2_with (first | (refine wv_zeroF rfl rfl ?_) | (first | ((first | refine wv_box rfl _ _ rfl rfl HM ?_ | refine wv_alloc rfl _ rfl (by exact rowOf) HM ?_); first | (have q : dV HM = 0 := rfl; clear q HM; intro g1 u1 HG1 HM) | (have q : dV HM = 1 := rfl; clear q HM; intro g2 u2 HG2 HM) | (have q : dV HM = 2 := rfl; clear q HM; intro g3 u3 HG3 HM) | (have q : dV HM = 3 := rfl; clear q HM; intro g4 u4 HG4 HM) | (have q : dV HM = 4 := rfl; clear q HM; intro g5 u5 HG5 HM) | (have q : dV HM = 5 := rfl; clear q HM; intro g6 u6 HG6 HM) | (have q : dV HM = 6 := rfl; clear q HM; intro g7 u7 HG7 HM) | (have q : dV HM = 7 := rfl; clear q HM; intro g8 u8 HG8 HM) | (have q : dV HM = 8 := rfl; clear q HM; intro g9 u9 HG9 HM) | (have q : dV HM = 9 := rfl; clear q HM; intro g10 u10 HG10 HM) | (have q : dV HM = 10 := rfl; clear q HM; intro g11 u11 HG11 HM) | (have q : dV HM = 11 := rfl; clear q HM; intro g12 u12 HG12 HM) | (have q : dV HM = 12 := rfl; clear q HM; intro g13 u13 HG13 HM) | (have q : dV HM = 13 := rfl; clear q HM; intro g14 u14 HG14 HM)) | (refine wv_load rfl _ _ rfl rfl (by exact rowOf) HM (by exact vmemOf) (by exact vsizOf) ?_) | (refine wv_store rfl _ _ _ rfl rfl rfl (by exact rowOf) HM (by exact vidxOf) (by exact vsizOf) (by exact vsizOf) (by exact voneOf) ?_; clear HM; intro us HM; dsimp only [List.set] at HM) | (refine wl_zero rfl _ rfl (by exact arrOf) (by kernel_rfl) ?_)) | (refine wv_elem rfl _ rfl rfl HM (by exact vmemOf) (by exact velOf) ?_) | (refine wv_put rfl _ _ rfl rfl rfl HM (by exact vidxOf) (by exact vltOf) ?_; clear HM; intro us HM; dsimp only [List.set] at HM) | (refine wv_loadS rfl _ _ rfl rfl (by exact arrOf) HM (by exact vmemOf) (by exact vsubF) (by exact lenOf) ?_))
    exact bodyPost_ret (v := .tuple #[.agg (icells (zr 23)), .int .i64 21]) (vres_two rfl _ rfl rfl rowFr HM (by exact vmemOf) (by exact vsizOf)) rfl ⟨by rw [HV.out], HM.out.1⟩
  | some x =>
    obtain ⟨d, F⟩ := x
    rw [ho] at HC
    refine HC.out.mono ?_
    rintro e w4 ⟨rfl, hi⟩
    have lf : F.length = 23 := hi.len
    have HV := Lib.hid (rdV_some HP.out lf ho)
    have LF := Lib.hid lf
    obtain ⟨A4, n4, c4, hB4, hR4⟩ := hi.bR
    rw [HPK.out] at hR4
    have HM := Lib.hid ((HM0.out.below hi.blw).addF hi.bF (Nat.le_trans HM0.out.1.size HLT.out) (fun e he => Nat.lt_of_lt_of_le (HM0.out.2.1 e he).lt HLT.out))
    have HJ := Lib.hid (hj_any F p bs gR d A4 n4 c4 _ w4 lf LP.out (HE.out.below HM.out.1) (Lib.hid hB4) (Lib.hid hR4))
    clear ho hi lf hB4 hR4 HC HM0
    generalize hjB F p bs = v at HV HJ
    dsimp only at HM
    cases v with
    | true =>
      go_wp2_with (first | (refine wv_zeroF rfl rfl ?_) | (first | ((first | refine wv_box rfl _ _ rfl rfl HM ?_ | refine wv_alloc rfl _ rfl (by exact rowOf) HM ?_); first | (have q : dV HM = 0 := rfl; clear q HM; intro g1 u1 HG1 HM) | (have q : dV HM = 1 := rfl; clear q HM; intro g2 u2 HG2 HM) | (have q : dV HM = 2 := rfl; clear q HM; intro g3 u3 HG3 HM) | (have q : dV HM = 3 := rfl; clear q HM; intro g4 u4 HG4 HM) | (have q : dV HM = 4 := rfl; clear q HM; intro g5 u5 HG5 HM) | (have q : dV HM = 5 := rfl; clear q HM; intro g6 u6 HG6 HM) | (have q : dV HM = 6 := rfl; clear q HM; intro g7 u7 HG7 HM) | (have q : dV HM = 7 := rfl; clear q HM; intro g8 u8 HG8 HM) | (have q : dV HM = 8 := rfl; clear q HM; intro g9 u9 HG9 HM) | (have q : dV HM = 9 := rfl; clear q HM; intro g10 u10 HG10 HM) | (have q : dV HM = 10 := rfl; clear q HM; intro g11 u11 HG11 HM) | (have q : dV HM = 11 := rfl; clear q HM; intro g12 u12 HG12 HM) | (have q : dV HM = 12 := rfl; clear q HM; intro g13 u13 HG13 HM) | (have q : dV HM = 13 := rfl; clear q HM; intro g14 u14 HG14 HM)) | (refine wv_load rfl _ _ rfl rfl (by exact rowOf) HM (by exact vmemOf) (by exact vsizOf) ?_) | (refine wv_store rfl _ _ _ rfl rfl rfl (by exact rowOf) HM (by exact vidxOf) (by exact vsizOf) (by exact vsizOf) (by exact voneOf) ?_; clear HM; intro us HM; dsimp only [List.set] at HM) | (refine wl_zero rfl _ rfl (by exact arrOf) (by kernel_rfl) ?_)) | (refine wv_elem rfl _ rfl rfl HM (by exact vmemOf) (by exact velOf) ?_) | (refine wv_put rfl _ _ rfl rfl rfl HM (by exact vidxOf) (by exact vltOf) ?_; clear HM; intro us HM; dsimp only [List.set] at HM) | (refine wv_loadS rfl _ _ rfl rfl (by exact arrOf) HM (by exact vmemOf) (by exact vsubF) (by exact lenOf) ?_))
      refine HJ.out.mono ?_
      rintro e w5 ⟨rfl, h1⟩
      have HM2 := Lib.hid (HM.out.below h1).base
      clear h1 HM HJ
      have HM := HM2
      clear HM2
      go_wp2_with (first | (refine wv_zeroF rfl rfl ?_) | (first | ((first | refine wv_box rfl _ _ rfl rfl HM ?_ | refine wv_alloc rfl _ rfl (by exact rowOf) HM ?_); first | (have q : dV HM = 0 := rfl; clear q HM; intro g1 u1 HG1 HM) | (have q : dV HM = 1 := rfl; clear q HM; intro g2 u2 HG2 HM) | (have q : dV HM = 2 := rfl; clear q HM; intro g3 u3 HG3 HM) | (have q : dV HM = 3 := rfl; clear q HM; intro g4 u4 HG4 HM) | (have q : dV HM = 4 := rfl; clear q HM; intro g5 u5 HG5 HM) | (have q : dV HM = 5 := rfl; clear q HM; intro g6 u6 HG6 HM) | (have q : dV HM = 6 := rfl; clear q HM; intro g7 u7 HG7 HM) | (have q : dV HM = 7 := rfl; clear q HM; intro g8 u8 HG8 HM) | (have q : dV HM = 8 := rfl; clear q HM; intro g9 u9 HG9 HM) | (have q : dV HM = 9 := rfl; clear q HM; intro g10 u10 HG10 HM) | (have q : dV HM = 10 := rfl; clear q HM; intro g11 u11 HG11 HM) | (have q : dV HM = 11 := rfl; clear q HM; intro g12 u12 HG12 HM) | (have q : dV HM = 12 := rfl; clear q HM; intro g13 u13 HG13 HM) | (have q : dV HM = 13 := rfl; clear q HM; intro g14 u14 HG14 HM)) | (refine wv_load rfl _ _ rfl rfl (by exact rowOf) HM (by exact vmemOf) (by exact vsizOf) ?_) | (refine wv_store rfl _ _ _ rfl rfl rfl (by exact rowOf) HM (by exact vidxOf) (by exact vsizOf) (by exact vsizOf) (by exact voneOf) ?_; clear HM; intro us HM; dsimp only [List.set] at HM) | (refine wl_zero rfl _ rfl (by exact arrOf) (by kernel_rfl) ?_)) | (refine wv_elem rfl _ rfl rfl HM (by exact vmemOf) (by exact velOf) ?_) | (refine wv_put rfl _ _ rfl rfl rfl HM (by exact vidxOf) (by exact vltOf) ?_; clear HM; intro us HM; dsimp only [List.set] at HM) | (refine wv_loadS rfl _ _ rfl rfl (by exact arrOf) HM (by exact vmemOf) (by exact vsubF) (by exact lenOf) ?_))
      exact bodyPost_ret (v := .tuple #[.agg (icells F), .int .i64 0]) (vres_two rfl _ rfl rfl rowFr HM (by exact vmemOf) (by exact vsizOf)) rfl ⟨by rw [HV.out]; simp, HM.out.1⟩
    | false =>
      go_wp2_with (first | (refine wv_zeroF rfl rfl ?_) | (first | ((first | refine wv_box rfl _ _ rfl rfl HM ?_ | refine wv_alloc rfl _ rfl (by exact rowOf) HM ?_); first | (have q : dV HM = 0 := rfl; clear q HM; intro g1 u1 HG1 HM) | (have q : dV HM = 1 := rfl; clear q HM; intro g2 u2 HG2 HM) | (have q : dV HM = 2 := rfl; clear q HM; intro g3 u3 HG3 HM) | (have q : dV HM = 3 := rfl; clear q HM; intro g4 u4 HG4 HM) | (have q : dV HM = 4 := rfl; clear q HM; intro g5 u5 HG5 HM) | (have q : dV HM = 5 := rfl; clear q HM; intro g6 u6 HG6 HM) | (have q : dV HM = 6 := rfl; clear q HM; intro g7 u7 HG7 HM) | (have q : dV HM = 7 := rfl; clear q HM; intro g8 u8 HG8 HM) | (have q : dV HM = 8 := rfl; clear q HM; intro g9 u9 HG9 HM) | (have q : dV HM = 9 := rfl; clear q HM; intro g10 u10 HG10 HM) | (have q : dV HM = 10 := rfl; clear q HM; intro g11 u11 HG11 HM) | (have q : dV HM = 11 := rfl; clear q HM; intro g12 u12 HG12 HM) | (have q : dV HM = 12 := rfl; clear q HM; intro g13 u13 HG13 HM) | (have q : dV HM = 13 := rfl; clear q HM; intro g14 u14 HG14 HM)) | (refine wv_load rfl _ _ rfl rfl (by exact rowOf) HM (by exact vmemOf) (by exact vsizOf) ?_) | (refine wv_store rfl _ _ _ rfl rfl rfl (by exact rowOf) HM (by exact vidxOf) (by exact vsizOf) (by exact vsizOf) (by exact voneOf) ?_; clear HM; intro us HM; dsimp only [List.set] at HM) | (refine wl_zero rfl _ rfl (by exact arrOf) (by kernel_rfl) ?_)) | (refine wv_elem rfl _ rfl rfl HM (by exact vmemOf) (by exact velOf) ?_) | (refine wv_put rfl _ _ rfl rfl rfl HM (by exact vidxOf) (by exact vltOf) ?_; clear HM; intro us HM; dsimp only [List.set] at HM) | (refine wv_loadS rfl _ _ rfl rfl (by exact arrOf) HM (by exact vmemOf) (by exact vsubF) (by exact lenOf) ?_))
      refine HJ.out.mono ?_
      rintro e w5 ⟨rfl, h1⟩
      have HM2 := Lib.hid (HM.out.below h1).base
      clear h1 HM HJ
      have HM := HM2
      clear HM2
      go_wp2_with (first | (refine wv_zeroF rfl rfl ?_) | (first | ((first | refine wv_box rfl _ _ rfl rfl HM ?_ | refine wv_alloc rfl _ rfl (by exact rowOf) HM ?_); first | (have q : dV HM = 0 := rfl; clear q HM; intro g1 u1 HG1 HM) | (have q : dV HM = 1 := rfl; clear q HM; intro g2 u2 HG2 HM) | (have q : dV HM = 2 := rfl; clear q HM; intro g3 u3 HG3 HM) | (have q : dV HM = 3 := rfl; clear q HM; intro g4 u4 HG4 HM) | (have q : dV HM = 4 := rfl; clear q HM; intro g5 u5 HG5 HM) | (have q : dV HM = 5 := rfl; clear q HM; intro g6 u6 HG6 HM) | (have q : dV HM = 6 := rfl; clear q HM; intro g7 u7 HG7 HM) | (have q : dV HM = 7 := rfl; clear q HM; intro g8 u8 HG8 HM) | (have q : dV HM = 8 := rfl; clear q HM; intro g9 u9 HG9 HM) | (have q : dV HM = 9 := rfl; clear q HM; intro g10 u10 HG10 HM) | (have q : dV HM = 10 := rfl; clear q HM; intro g11 u11 HG11 HM) | (have q : dV HM = 11 := rfl; clear q HM; intro g12 u12 HG12 HM) | (have q : dV HM = 12 := rfl; clear q HM; intro g13 u13 HG13 HM) | (have q : dV HM = 13 := rfl; clear q HM; intro g14 u14 HG14 HM)) | (refine wv_load rfl _ _ rfl rfl (by exact rowOf) HM (by exact vmemOf) (by exact vsizOf) ?_) | (refine wv_store rfl _ _ _ rfl rfl rfl (by exact rowOf) HM (by exact vidxOf) (by exact vsizOf) (by exact vsizOf) (by exact voneOf) ?_; clear HM; intro us HM; dsimp only [List.set] at HM) | (refine wl_zero rfl _ rfl (by exact arrOf) (by kernel_rfl) ?_)) | (refine wv_elem rfl _ rfl rfl HM (by exact vmemOf) (by exact velOf) ?_) | (refine wv_put rfl _ _ rfl rfl rfl HM (by exact vidxOf) (by exact vltOf) ?_; clear HM; intro us HM; dsimp only [List.set] at HM) | (refine wv_loadS rfl _ _ rfl rfl (by exact arrOf) HM (by exact vmemOf) (by exact vsubF) (by exact lenOf) ?_))
      exact bodyPost_ret (v := .tuple #[.agg (icells (zr 23)), .int .i64 21]) (vres_two rfl _ rfl rfl rowFr HM (by exact vmemOf) (by exact vsizOf)) rfl ⟨by rw [HV.out]; simp, HM.out.1⟩
theorem fread_any (A : Option Addr) (n c : Nat) (bs : List Nat) (p : List Int) (w : World) (hr : Hid (Rd w A n bs)) (lp : p.length = 6) (he : Edg w) :
    Calls Tryd.prog 9 #[.slice A n c, .agg (icells p)] w (ValQ w (rdV bs p)) := by
  cases hp : chkL p with
  | false => exact fread_arg A n c bs p w lp hp
  | true =>
    by_cases h : 1 ≤ n ∧ n ≤ 40
    · exact fread_yes A n c bs p w hr lp he hp h.1 h.2
    · exact fread_far A n c bs p w hr lp hp h
end Go.Proofs.YtgpdgegelipboaaDoor.Lp
namespace Go.Proofs.YtgpdgegelipboaaDoor.Lp
open Go.RowKit Go.Proofs.YtgpdgegelipboaaDoor.Fx Go.Proofs.YtgpdgegelipboaaDoor.Fq Go.Proofs.YtgpdgegelipboaaDoor.Tb
theorem run_eqL (d : Nat) (T : TypeId) {n : Nat} (hT : Tryd.prog.underlying T = some (.array n 3)) (xs ys : List Int) (hl : xs.length = n) (hl' : ys.length = n) (w : World) :
    (Op.equalIn (d + 2) T (.agg (icells xs)) (.agg (icells ys))).run Tryd.prog w = .ok (decide (xs = ys)) w := by
  have hc : Tryd.prog.cellsOf 3 = 1 := by kernel_rfl
  obtain ⟨i, hi⟩ : ∃ i, Tryd.prog.info? 3 = some i := Option.isSome_iff_exists.1 (by kernel_rfl)
  rw [run_equalIn_array w (d + 1) (icells xs) (icells ys) hT hi, hc, run_items_any d xs ys w _ fun j hj => ⟨by rw [hl]; exact List.mem_range.1 hj, by rw [hl']; exact List.mem_range.1 hj⟩]
  refine congrArg (fun b => Result.ok b w) ?_
  by_cases h : xs = ys
  · subst h
    rw [decide_eq_true rfl, List.all_eq_true]
    exact fun _ _ => beq_self_eq_true _
  · rw [decide_eq_false h, Bool.eq_false_iff]
    intro hall
    refine h (getD_ext (by rw [hl, hl']) fun k hk => ?_)
    rw [List.all_eq_true] at hall
    simpa using hall k (List.mem_range.2 (by omega))
theorem eq_three {d : Nat} {xs ys : Array Value} {t1 t2 t3 : TypeId} {o1 o2 o3 : Nat} {fs : List Field} {w : World} {x1 x2 x3 y1 y2 y3 : Value} {b1 b2 b3 : Bool} (h : fs.map (fun f => (f.name, f.type, f.offset)) = [("Kind", t1, o1), ("L", t2, o2), ("Q", t3, o3)])
    (p1 : (part t1 xs o1).run Tryd.prog w = .ok x1 w) (q1 : (part t1 ys o1).run Tryd.prog w = .ok y1 w) (r1 : (Op.equalIn d t1 x1 y1).run Tryd.prog w = .ok b1 w)
    (p2 : (part t2 xs o2).run Tryd.prog w = .ok x2 w) (q2 : (part t2 ys o2).run Tryd.prog w = .ok y2 w) (r2 : (Op.equalIn d t2 x2 y2).run Tryd.prog w = .ok b2 w)
    (p3 : (part t3 xs o3).run Tryd.prog w = .ok x3 w) (q3 : (part t3 ys o3).run Tryd.prog w = .ok y3 w) (r3 : (Op.equalIn d t3 x3 y3).run Tryd.prog w = .ok b3 w) :
    (Op.eqFields d xs ys fs).run Tryd.prog w = .ok (b1 && (b2 && b3)) w := by
  obtain ⟨f1, s1, rfl, e1, h⟩ := List.map_eq_cons_iff.1 h
  obtain ⟨f2, s2, rfl, e2, h⟩ := List.map_eq_cons_iff.1 h
  obtain ⟨f3, s3, rfl, e3, h⟩ := List.map_eq_cons_iff.1 h
  obtain rfl := List.map_eq_nil_iff.1 h
  simp only [Prod.mk.injEq] at e1 e2 e3
  obtain ⟨a1, rfl, rfl⟩ := e1
  obtain ⟨a2, rfl, rfl⟩ := e2
  obtain ⟨a3, rfl, rfl⟩ := e3
  cases b1 with
  | false => simp [Op.eqFields, a1, Sem.run_bind, p1, q1, r1]
  | true =>
    cases b2 with
    | false => simp [Op.eqFields, a1, a2, Sem.run_bind, p1, q1, r1, p2, q2, r2]
    | true => cases b3 <;> simp [Op.eqFields, a1, a2, a3, Sem.run_bind, p1, q1, r1, p2, q2, r2, p3, q3, r3]
theorem part_int {xs : List Int} {o : Nat} {v : Int} {w : World} (h : o < xs.length ∧ xs.getD o 0 = v) : (part 3 (icells xs) o).run Tryd.prog w = .ok (.int .i64 v) w := by
  have ha : (isAgg 3).run Tryd.prog w = .ok false w := by kernel_rfl
  have hc : (icells xs)[o]? = some (.int .i64 v) := by rw [← h.2]; exact icells_get h.1
  simp only [part, Sem.run_bind, ha, Result.andThen_ok, Bool.false_eq_true, if_false, hc, Sem.run_pure]
theorem part_row {T : TypeId} {n : Nat} (hT : Arr T n) {xs ys : List Int} {o : Nat} {w : World} (h : (xs.drop o).take n = ys) : (part T (icells xs) o).run Tryd.prog w = .ok (.agg (icells ys)) w := by
  obtain ⟨d, h1, h2⟩ := hT.1
  have ha : (isAgg T).run Tryd.prog w = .ok true w := by
    simp only [isAgg, Sem.run_bind, run_underlying h1, Result.andThen_ok]
    cases d <;> first | rfl | cases h2
  have hs : (sizeOf T).run Tryd.prog w = .ok n w := by
    have hz := hT.size
    cases hq : Tryd.prog.info? T with
    | none => rw [hq] at hz; cases hz
    | some i =>
      rw [hq] at hz
      injection hz with hz
      rw [run_sizeOf w hq]
      unfold Program.cellsOf
      rw [hq]
      simp [hz]
  have he : (icells xs).extract o (o + n) = icells ys := by
    unfold icells
    rw [List.extract_toArray, List.extract_eq_take_drop, Nat.add_sub_cancel_left, ← List.map_drop, ← List.map_take, h]
  simp only [part, Sem.run_bind, ha, Result.andThen_ok, if_true, hs, Sem.run_pure, he]
theorem flds_frame : (Tryd.prog.fieldsOf 26).toList.map (fun f => (f.name, f.type, f.offset)) = [("Kind", 3, 0), ("L", 23, 1), ("Q", 24, 7)] := by kernel_rfl
theorem und_frame : Tryd.prog.underlying 26 = some (.struct (Tryd.prog.fieldsOf 26)) := by kernel_rfl
theorem held_frame : Tryd.prog.stoodInHeld 26 = false := by kernel_rfl
theorem grdFrame : Tryd.prog.eqGuardType Tryd.prog.depth 26 = false := by kernel_rfl
/-- two frames, compared -/
theorem run_eq_fr {F G : List Int} {K K' : Int} {l l' q q' : List Int} (hF : FrS F K l q) (hG : FrS G K' l' q') (w : World) :
    (Op.equalIn 10000 26 (.agg (icells F)) (.agg (icells G))).run Tryd.prog w = .ok (decide (K = K') && (decide (l = l') && decide (q = q'))) w := by
  have hI : Tryd.prog.underlying 3 = some (.int .i64) := by kernel_rfl
  have h1 := run_equalIn_int (P := Tryd.prog) w 9998 3 .i64 .i64 K K' hI
  rw [show (K == K') = decide (K = K') from rfl] at h1
  rw [run_equalIn_struct w 9999 26 (icells F) (icells G) und_frame held_frame]
  exact eq_three flds_frame (part_int ⟨by rw [hF.len]; decide, hF.k0⟩) (part_int ⟨by rw [hG.len]; decide, hG.k0⟩) h1
    (part_row arrLev hF.lev) (part_row arrLev hG.lev) (run_eqL 9997 23 (n := 6) (by kernel_rfl) l l' hF.ll hG.ll w)
    (part_row arrHop hF.num) (part_row arrHop hG.num) (run_eqL 9997 24 (n := 16) (by kernel_rfl) q q' hF.lq hG.lq w)
end Go.Proofs.YtgpdgegelipboaaDoor.Lp
namespace Go.Proofs.YtgpdgegelipboaaDoor.Lp
open Go.RowKit Go.Proofs.YtgpdgegelipboaaDoor.Fx Go.Proofs.YtgpdgegelipboaaDoor.Fq Go.Proofs.YtgpdgegelipboaaDoor.Tb
open Go.Proofs.YtgpdgegelipboaaDoor.Yr (chkB chkB_iff wrB rdR rd_back rd_one wrB_len Fr)
theorem yv_str {ops : Array Oper} {o : Oper} {a : Act} {S : World → Prop} (hw : Region.wanted o (yielded ops a.tmps) = true) (x : Operand) (ho : o.op = .convert 28 9 x) {A : Option Addr} {n c : Nat} (hx : a.eval x = .slice A n c) {bs : List Nat}
    (hS : ∀ u, S u → Rd u A n bs) : YieldsIf Tryd.prog ops S o (.string (strOf bs)) a :=
  .inl ⟨hw, fun u hu => by
    unfold execOp
    simp only [ho, hx, Sem.run_bind, Sem.run_pure, Result.andThen_ok, run_str c (hS u hu)]⟩
theorem frL_zeroA : zr 23 = frL 0 (zr 6) (zr 16) := by decide
theorem frS_zero : FrS (zr 23) 0 (zr 6) (zr 16) := by rw [frL_zeroA]; exact frS_mk (zr_length 6) (zr_length 16)
theorem zero_may : chkB 0 (zr 6) (zr 16) (zr 6) = true := by decide +kernel
theorem zero_len : (wrB 0 (zr 6) (zr 16) (zr 6)).length ≤ 8 := by decide +kernel
theorem zero_rd : rdV (wrB 0 (zr 6) (zr 16) (zr 6)) (zr 6) = .tuple #[.agg (icells (zr 23)), .int .i64 0] := by
  unfold rdV
  rw [if_pos (by decide), rd_back ((chkB_iff _ _ _ _).1 zero_may) (zr_length 6) (zr_length 16), frL_zeroA]
theorem none_rd (p : List Int) : rdR [] p = none := by
  cases h : rdR [] p with
  | none => rfl
  | some x =>
    obtain ⟨K, l, q⟩ := x
    obtain ⟨h1, h2, -⟩ := rd_one h
    have := (wrB_len ((chkB_iff _ _ _ _).1 h1)).2
    rw [h2] at this
    exact absurd this (by decide)
theorem none_rdV : rdV [] (zr 6) = .tuple #[.agg (icells (zr 23)), .int .i64 21] := by
  unfold rdV
  rw [if_pos (by decide), none_rd]
set_option maxRecDepth 100000 in
set_option maxHeartbeats 4000000 in
theorem flive_any (w : World) (he : Edg w) : Calls Tryd.prog 7 #[] w fun e w' => e = .returned (.bool true) ∧ Below w.heap.size w w' := by
  have HM := Lib.hid (MV.start w)
  have HE := Lib.hid he
  have LZ := Lib.hid (show (zr 23).length = 23 from zr_length 23)
  have hgd := grdFrame
  have heq := fun u => run_eq_fr frS_zero frS_zero u
  simp only [decide_true, Bool.and_self] at heq
  clear he
  go_enter Tryd.func7, Tryd.ntmps7
  go_wp2_with (first | (refine wv_zeroF rfl rfl ?_) | (first | ((first | refine wv_box rfl _ _ rfl rfl HM ?_ | refine wv_alloc rfl _ rfl (by exact rowOf) HM ?_); first | (have q : dV HM = 0 := rfl; clear q HM; intro g1 u1 HG1 HM) | (have q : dV HM = 1 := rfl; clear q HM; intro g2 u2 HG2 HM) | (have q : dV HM = 2 := rfl; clear q HM; intro g3 u3 HG3 HM) | (have q : dV HM = 3 := rfl; clear q HM; intro g4 u4 HG4 HM) | (have q : dV HM = 4 := rfl; clear q HM; intro g5 u5 HG5 HM) | (have q : dV HM = 5 := rfl; clear q HM; intro g6 u6 HG6 HM) | (have q : dV HM = 6 := rfl; clear q HM; intro g7 u7 HG7 HM) | (have q : dV HM = 7 := rfl; clear q HM; intro g8 u8 HG8 HM) | (have q : dV HM = 8 := rfl; clear q HM; intro g9 u9 HG9 HM) | (have q : dV HM = 9 := rfl; clear q HM; intro g10 u10 HG10 HM) | (have q : dV HM = 10 := rfl; clear q HM; intro g11 u11 HG11 HM) | (have q : dV HM = 11 := rfl; clear q HM; intro g12 u12 HG12 HM) | (have q : dV HM = 12 := rfl; clear q HM; intro g13 u13 HG13 HM) | (have q : dV HM = 13 := rfl; clear q HM; intro g14 u14 HG14 HM)) | (refine wv_load rfl _ _ rfl rfl (by exact rowOf) HM (by exact vmemOf) (by exact vsizOf) ?_) | (refine wv_store rfl _ _ _ rfl rfl rfl (by exact rowOf) HM (by exact vidxOf) (by exact vsizOf) (by exact vsizOf) (by exact voneOf) ?_; clear HM; intro us HM; dsimp only [List.set] at HM) | (refine wl_zero rfl _ rfl (by exact arrOf) (by kernel_rfl) ?_)) | (refine wv_elem rfl _ rfl rfl HM (by exact vmemOf) (by exact velOf) ?_) | (refine wv_put rfl _ _ rfl rfl rfl HM (by exact vidxOf) (by exact vltOf) ?_; clear HM; intro us HM; dsimp only [List.set] at HM) | (refine wv_loadS rfl _ _ rfl rfl (by exact arrOf) HM (by exact vmemOf) (by exact vsubF) (by exact lenOf) ?_))
  refine (fwrite_any (zr 23) 0 (zr 6) (zr 16) (zr 6) _ frS_zero (zr_length 6) (HE.out.below HM.out.1)).mono ?_
  intro e w2 ho
  unfold WrOut at ho
  rw [if_pos zero_may] at ho
  obtain ⟨A, n, c, rfl, hr, hb⟩ := ho
  have HR := Lib.hid hr
  have HM2 := Lib.hid (HM.out.below hb)
  have hn8 : n ≤ 8 := by rw [← hr.1]; exact zero_len
  have hn0 : 0 < n := by rw [← hr.1]; exact (wrB_len ((chkB_iff _ _ _ _).1 zero_may)).2
  clear hr hb HM
  have HM := HM2
  clear HM2
  go_wp2_with (first | (refine wv_zeroF rfl rfl ?_) | (first | ((first | refine wv_box rfl _ _ rfl rfl HM ?_ | refine wv_alloc rfl _ rfl (by exact rowOf) HM ?_); first | (have q : dV HM = 0 := rfl; clear q HM; intro g1 u1 HG1 HM) | (have q : dV HM = 1 := rfl; clear q HM; intro g2 u2 HG2 HM) | (have q : dV HM = 2 := rfl; clear q HM; intro g3 u3 HG3 HM) | (have q : dV HM = 3 := rfl; clear q HM; intro g4 u4 HG4 HM) | (have q : dV HM = 4 := rfl; clear q HM; intro g5 u5 HG5 HM) | (have q : dV HM = 5 := rfl; clear q HM; intro g6 u6 HG6 HM) | (have q : dV HM = 6 := rfl; clear q HM; intro g7 u7 HG7 HM) | (have q : dV HM = 7 := rfl; clear q HM; intro g8 u8 HG8 HM) | (have q : dV HM = 8 := rfl; clear q HM; intro g9 u9 HG9 HM) | (have q : dV HM = 9 := rfl; clear q HM; intro g10 u10 HG10 HM) | (have q : dV HM = 10 := rfl; clear q HM; intro g11 u11 HG11 HM) | (have q : dV HM = 11 := rfl; clear q HM; intro g12 u12 HG12 HM) | (have q : dV HM = 12 := rfl; clear q HM; intro g13 u13 HG13 HM) | (have q : dV HM = 13 := rfl; clear q HM; intro g14 u14 HG14 HM)) | (refine wv_load rfl _ _ rfl rfl (by exact rowOf) HM (by exact vmemOf) (by exact vsizOf) ?_) | (refine wv_store rfl _ _ _ rfl rfl rfl (by exact rowOf) HM (by exact vidxOf) (by exact vsizOf) (by exact vsizOf) (by exact voneOf) ?_; clear HM; intro us HM; dsimp only [List.set] at HM) | (refine wl_zero rfl _ rfl (by exact arrOf) (by kernel_rfl) ?_)) | (refine wv_elem rfl _ rfl rfl HM (by exact vmemOf) (by exact velOf) ?_) | (refine wv_put rfl _ _ rfl rfl rfl HM (by exact vidxOf) (by exact vltOf) ?_; clear HM; intro us HM; dsimp only [List.set] at HM) | (refine wv_loadS rfl _ _ rfl rfl (by exact arrOf) HM (by exact vmemOf) (by exact vsubF) (by exact lenOf) ?_))
  refine (fread_any A n c _ (zr 6) w2 HR (zr_length 6) (HE.out.below HM.out.1)).mono ?_
  rw [zero_rd]
  rintro e w3 ⟨rfl, hb⟩
  have HM2 := Lib.hid (HM.out.below hb)
  clear hb HM
  have HM := HM2
  clear HM2
  go_wp2_with (first | (refine wv_zeroF rfl rfl ?_) | (first | ((first | refine wv_box rfl _ _ rfl rfl HM ?_ | refine wv_alloc rfl _ rfl (by exact rowOf) HM ?_); first | (have q : dV HM = 0 := rfl; clear q HM; intro g1 u1 HG1 HM) | (have q : dV HM = 1 := rfl; clear q HM; intro g2 u2 HG2 HM) | (have q : dV HM = 2 := rfl; clear q HM; intro g3 u3 HG3 HM) | (have q : dV HM = 3 := rfl; clear q HM; intro g4 u4 HG4 HM) | (have q : dV HM = 4 := rfl; clear q HM; intro g5 u5 HG5 HM) | (have q : dV HM = 5 := rfl; clear q HM; intro g6 u6 HG6 HM) | (have q : dV HM = 6 := rfl; clear q HM; intro g7 u7 HG7 HM) | (have q : dV HM = 7 := rfl; clear q HM; intro g8 u8 HG8 HM) | (have q : dV HM = 8 := rfl; clear q HM; intro g9 u9 HG9 HM) | (have q : dV HM = 9 := rfl; clear q HM; intro g10 u10 HG10 HM) | (have q : dV HM = 10 := rfl; clear q HM; intro g11 u11 HG11 HM) | (have q : dV HM = 11 := rfl; clear q HM; intro g12 u12 HG12 HM) | (have q : dV HM = 12 := rfl; clear q HM; intro g13 u13 HG13 HM) | (have q : dV HM = 13 := rfl; clear q HM; intro g14 u14 HG14 HM)) | (refine wv_load rfl _ _ rfl rfl (by exact rowOf) HM (by exact vmemOf) (by exact vsizOf) ?_) | (refine wv_store rfl _ _ _ rfl rfl rfl (by exact rowOf) HM (by exact vidxOf) (by exact vsizOf) (by exact vsizOf) (by exact voneOf) ?_; clear HM; intro us HM; dsimp only [List.set] at HM) | (refine wl_zero rfl _ rfl (by exact arrOf) (by kernel_rfl) ?_)) | (refine wv_elem rfl _ rfl rfl HM (by exact vmemOf) (by exact velOf) ?_) | (refine wv_put rfl _ _ rfl rfl rfl HM (by exact vidxOf) (by exact vltOf) ?_; clear HM; intro us HM; dsimp only [List.set] at HM) | (refine wv_loadS rfl _ _ rfl rfl (by exact arrOf) HM (by exact vmemOf) (by exact vsubF) (by exact lenOf) ?_))
  refine (fread_any none 0 0 [] (zr 6) _ (Lib.hid Rd.none_) (zr_length 6) (HE.out.below HM.out.1)).mono ?_
  rw [none_rdV]
  rintro e w4 ⟨rfl, hb⟩
  have HM2 := Lib.hid (HM.out.below hb)
  clear hb HM
  have HM := HM2
  clear HM2
  have m1 : (0 : Int) < (n : Int) := by omega
  have m2 : (n : Int) ≤ 8 := by omega
  go_wp2_with (first | (refine wv_zeroF rfl rfl ?_) | (first | ((first | refine wv_box rfl _ _ rfl rfl HM ?_ | refine wv_alloc rfl _ rfl (by exact rowOf) HM ?_); first | (have q : dV HM = 0 := rfl; clear q HM; intro g1 u1 HG1 HM) | (have q : dV HM = 1 := rfl; clear q HM; intro g2 u2 HG2 HM) | (have q : dV HM = 2 := rfl; clear q HM; intro g3 u3 HG3 HM) | (have q : dV HM = 3 := rfl; clear q HM; intro g4 u4 HG4 HM) | (have q : dV HM = 4 := rfl; clear q HM; intro g5 u5 HG5 HM) | (have q : dV HM = 5 := rfl; clear q HM; intro g6 u6 HG6 HM) | (have q : dV HM = 6 := rfl; clear q HM; intro g7 u7 HG7 HM) | (have q : dV HM = 7 := rfl; clear q HM; intro g8 u8 HG8 HM) | (have q : dV HM = 8 := rfl; clear q HM; intro g9 u9 HG9 HM) | (have q : dV HM = 9 := rfl; clear q HM; intro g10 u10 HG10 HM) | (have q : dV HM = 10 := rfl; clear q HM; intro g11 u11 HG11 HM) | (have q : dV HM = 11 := rfl; clear q HM; intro g12 u12 HG12 HM) | (have q : dV HM = 12 := rfl; clear q HM; intro g13 u13 HG13 HM) | (have q : dV HM = 13 := rfl; clear q HM; intro g14 u14 HG14 HM)) | (refine wv_load rfl _ _ rfl rfl (by exact rowOf) HM (by exact vmemOf) (by exact vsizOf) ?_) | (refine wv_store rfl _ _ _ rfl rfl rfl (by exact rowOf) HM (by exact vidxOf) (by exact vsizOf) (by exact vsizOf) (by exact voneOf) ?_; clear HM; intro us HM; dsimp only [List.set] at HM) | (refine wl_zero rfl _ rfl (by exact arrOf) (by kernel_rfl) ?_)) | (refine wv_elem rfl _ rfl rfl HM (by exact vmemOf) (by exact velOf) ?_) | (refine wv_put rfl _ _ rfl rfl rfl HM (by exact vidxOf) (by exact vltOf) ?_; clear HM; intro us HM; dsimp only [List.set] at HM) | (refine wv_loadS rfl _ _ rfl rfl (by exact arrOf) HM (by exact vmemOf) (by exact vsubF) (by exact lenOf) ?_))
  go_ret
  exact ⟨rfl, HM.out.1⟩
end Go.Proofs.YtgpdgegelipboaaDoor.Lp
namespace Go.Proofs.YtgpdgegelipboaaDoor.Lp
open Go.RowKit Go.Proofs.YtgpdgegelipboaaDoor.Fx Go.Proofs.YtgpdgegelipboaaDoor.Fq Go.Proofs.YtgpdgegelipboaaDoor.Tb
open Go.Proofs.YtgpdgegelipboaaDoor.Yr (chkB chkB_iff wrB rdR rd_one Fr gsR_len rdR_gs)
theorem rd_lens {bs : List Nat} {p : List Int} {K : Int} {l q : List Int} (h : rdR bs p = some (K, l, q)) : l.length = 6 ∧ q.length = 16 := gsR_len (rdR_gs h)
/-- what Read answers, told by its error -/
theorem rd_cases (bs : List Nat) (p : List Int) : (∃ K l q, rdR bs p = some (K, l, q) ∧ rdV bs p = .tuple #[.agg (icells (frL K l q)), .int .i64 0] ∧ chkB K l q p = true ∧ wrB K l q p = bs ∧ l.length = 6 ∧ q.length = 16) ∨ (∃ er : Int, (er = 1 ∨ er = 21) ∧ rdV bs p = .tuple #[.agg (icells (zr 23)), .int .i64 er] ∧ (chkL p = true → rdR bs p = none)) := by
  unfold rdV
  by_cases hp : chkL p = true
  · rw [if_pos hp]
    cases h : rdR bs p with
    | none => exact .inr ⟨21, .inr rfl, rfl, fun _ => rfl⟩
    | some x =>
      obtain ⟨K, l, q⟩ := x
      obtain ⟨h1, h2, -⟩ := rd_one h
      obtain ⟨h3, h4⟩ := rd_lens h
      exact .inl ⟨K, l, q, rfl, rfl, h1, h2, h3, h4⟩
  · rw [if_neg hp]
    exact .inr ⟨1, .inl rfl, rfl, fun h => absurd h hp⟩
set_option maxRecDepth 100000 in
set_option maxHeartbeats 8000000 in
theorem one_law (A : Option Addr) (n c : Nat) (bs : List Nat) (p : List Int) (w : World) (hr : Hid (Rd w A n bs)) (hn : n ≤ maxLen) (lp : p.length = 6) (he : Edg w) :
    Calls Tryd.prog 4 #[.slice A n c, .agg (icells p)] w (ValQ w (.bool true)) := by
  have HM := Lib.hid (MV.start w)
  have HE := Lib.hid he
  have LP := Lib.hid lp
  have b1 : n ≤ 9223372036854775807 := by unfold maxLen at hn; omega
  clear he lp
  go_enter Tryd.func4, Tryd.ntmps4
  go_wp2_with (first | (refine wv_zeroF rfl rfl ?_) | (first | ((first | refine wv_box rfl _ _ rfl rfl HM ?_ | refine wv_alloc rfl _ rfl (by exact rowOf) HM ?_); first | (have q : dV HM = 0 := rfl; clear q HM; intro g1 u1 HG1 HM) | (have q : dV HM = 1 := rfl; clear q HM; intro g2 u2 HG2 HM) | (have q : dV HM = 2 := rfl; clear q HM; intro g3 u3 HG3 HM) | (have q : dV HM = 3 := rfl; clear q HM; intro g4 u4 HG4 HM) | (have q : dV HM = 4 := rfl; clear q HM; intro g5 u5 HG5 HM) | (have q : dV HM = 5 := rfl; clear q HM; intro g6 u6 HG6 HM) | (have q : dV HM = 6 := rfl; clear q HM; intro g7 u7 HG7 HM) | (have q : dV HM = 7 := rfl; clear q HM; intro g8 u8 HG8 HM) | (have q : dV HM = 8 := rfl; clear q HM; intro g9 u9 HG9 HM) | (have q : dV HM = 9 := rfl; clear q HM; intro g10 u10 HG10 HM) | (have q : dV HM = 10 := rfl; clear q HM; intro g11 u11 HG11 HM) | (have q : dV HM = 11 := rfl; clear q HM; intro g12 u12 HG12 HM) | (have q : dV HM = 12 := rfl; clear q HM; intro g13 u13 HG13 HM) | (have q : dV HM = 13 := rfl; clear q HM; intro g14 u14 HG14 HM)) | (refine wv_load rfl _ _ rfl rfl (by exact rowOf) HM (by exact vmemOf) (by exact vsizOf) ?_) | (refine wv_store rfl _ _ _ rfl rfl rfl (by exact rowOf) HM (by exact vidxOf) (by exact vsizOf) (by exact vsizOf) (by exact voneOf) ?_; clear HM; intro us HM; dsimp only [List.set] at HM) | (refine wl_zero rfl _ rfl (by exact arrOf) (by kernel_rfl) ?_)) | (refine wv_elem rfl _ rfl rfl HM (by exact vmemOf) (by exact velOf) ?_) | (refine wv_put rfl _ _ rfl rfl rfl HM (by exact vidxOf) (by exact vltOf) ?_; clear HM; intro us HM; dsimp only [List.set] at HM) | (refine wv_loadS rfl _ _ rfl rfl (by exact arrOf) HM (by exact vmemOf) (by exact vsubF) (by exact lenOf) ?_))
  refine (flive_any _ (HE.out.below HM.out.1)).mono ?_
  rintro e w2 ⟨rfl, hb⟩
  have HM2 := Lib.hid (HM.out.below hb)
  clear hb HM
  have HM := HM2
  clear HM2
  by_cases hl : 1000 < n
  · have d1 : decide ((1000 : Int) < (n : Int)) = true := decide_eq_true (by omega)
    go_wp2_with (first | (refine wv_zeroF rfl rfl ?_) | (first | ((first | refine wv_box rfl _ _ rfl rfl HM ?_ | refine wv_alloc rfl _ rfl (by exact rowOf) HM ?_); first | (have q : dV HM = 0 := rfl; clear q HM; intro g1 u1 HG1 HM) | (have q : dV HM = 1 := rfl; clear q HM; intro g2 u2 HG2 HM) | (have q : dV HM = 2 := rfl; clear q HM; intro g3 u3 HG3 HM) | (have q : dV HM = 3 := rfl; clear q HM; intro g4 u4 HG4 HM) | (have q : dV HM = 4 := rfl; clear q HM; intro g5 u5 HG5 HM) | (have q : dV HM = 5 := rfl; clear q HM; intro g6 u6 HG6 HM) | (have q : dV HM = 6 := rfl; clear q HM; intro g7 u7 HG7 HM) | (have q : dV HM = 7 := rfl; clear q HM; intro g8 u8 HG8 HM) | (have q : dV HM = 8 := rfl; clear q HM; intro g9 u9 HG9 HM) | (have q : dV HM = 9 := rfl; clear q HM; intro g10 u10 HG10 HM) | (have q : dV HM = 10 := rfl; clear q HM; intro g11 u11 HG11 HM) | (have q : dV HM = 11 := rfl; clear q HM; intro g12 u12 HG12 HM) | (have q : dV HM = 12 := rfl; clear q HM; intro g13 u13 HG13 HM) | (have q : dV HM = 13 := rfl; clear q HM; intro g14 u14 HG14 HM)) | (refine wv_load rfl _ _ rfl rfl (by exact rowOf) HM (by exact vmemOf) (by exact vsizOf) ?_) | (refine wv_store rfl _ _ _ rfl rfl rfl (by exact rowOf) HM (by exact vidxOf) (by exact vsizOf) (by exact vsizOf) (by exact voneOf) ?_; clear HM; intro us HM; dsimp only [List.set] at HM) | (refine wl_zero rfl _ rfl (by exact arrOf) (by kernel_rfl) ?_)) | (refine wv_elem rfl _ rfl rfl HM (by exact vmemOf) (by exact velOf) ?_) | (refine wv_put rfl _ _ rfl rfl rfl HM (by exact vidxOf) (by exact vltOf) ?_; clear HM; intro us HM; dsimp only [List.set] at HM) | (refine wv_loadS rfl _ _ rfl rfl (by exact arrOf) HM (by exact vmemOf) (by exact vsubF) (by exact lenOf) ?_))
    go_ret
    exact ⟨rfl, HM.out.1⟩
  have d1 : decide ((1000 : Int) < (n : Int)) = false := decide_eq_false (by omega)
  have d2 : ¬ (1000 : Int) < (n : Int) := by omega
  go_wp2_with (first | (refine wv_zeroF rfl rfl ?_) | (first | ((first | refine wv_box rfl _ _ rfl rfl HM ?_ | refine wv_alloc rfl _ rfl (by exact rowOf) HM ?_); first | (have q : dV HM = 0 := rfl; clear q HM; intro g1 u1 HG1 HM) | (have q : dV HM = 1 := rfl; clear q HM; intro g2 u2 HG2 HM) | (have q : dV HM = 2 := rfl; clear q HM; intro g3 u3 HG3 HM) | (have q : dV HM = 3 := rfl; clear q HM; intro g4 u4 HG4 HM) | (have q : dV HM = 4 := rfl; clear q HM; intro g5 u5 HG5 HM) | (have q : dV HM = 5 := rfl; clear q HM; intro g6 u6 HG6 HM) | (have q : dV HM = 6 := rfl; clear q HM; intro g7 u7 HG7 HM) | (have q : dV HM = 7 := rfl; clear q HM; intro g8 u8 HG8 HM) | (have q : dV HM = 8 := rfl; clear q HM; intro g9 u9 HG9 HM) | (have q : dV HM = 9 := rfl; clear q HM; intro g10 u10 HG10 HM) | (have q : dV HM = 10 := rfl; clear q HM; intro g11 u11 HG11 HM) | (have q : dV HM = 11 := rfl; clear q HM; intro g12 u12 HG12 HM) | (have q : dV HM = 12 := rfl; clear q HM; intro g13 u13 HG13 HM) | (have q : dV HM = 13 := rfl; clear q HM; intro g14 u14 HG14 HM)) | (refine wv_load rfl _ _ rfl rfl (by exact rowOf) HM (by exact vmemOf) (by exact vsizOf) ?_) | (refine wv_store rfl _ _ _ rfl rfl rfl (by exact rowOf) HM (by exact vidxOf) (by exact vsizOf) (by exact vsizOf) (by exact voneOf) ?_; clear HM; intro us HM; dsimp only [List.set] at HM) | (refine wl_zero rfl _ rfl (by exact arrOf) (by kernel_rfl) ?_)) | (refine wv_elem rfl _ rfl rfl HM (by exact vmemOf) (by exact velOf) ?_) | (refine wv_put rfl _ _ rfl rfl rfl HM (by exact vidxOf) (by exact vltOf) ?_; clear HM; intro us HM; dsimp only [List.set] at HM) | (refine wv_loadS rfl _ _ rfl rfl (by exact arrOf) HM (by exact vmemOf) (by exact vsubF) (by exact lenOf) ?_))
  refine (fread_any A n c bs p _ (Lib.hid (hr.out.below HM.out.1)) LP.out (HE.out.below HM.out.1)).mono ?_
  rintro e w3 ⟨rfl, hb⟩
  have HM2 := Lib.hid (HM.out.below hb)
  clear hb HM
  have HM := HM2
  clear HM2
  rcases rd_cases bs p with ⟨K, l, q, -, hv, hc, hw, ll, lq⟩ | ⟨er, her, hv, -⟩
  rotate_left
  · rw [hv]
    have LZ := Lib.hid (show (zr 23).length = 23 from zr_length 23)
    have hgd := grdFrame
    have heq := fun u => run_eq_fr frS_zero frS_zero u
    simp only [decide_true, Bool.and_self] at heq
    clear hv
    rcases her with rfl | rfl
    all_goals
      go_wp2_with (first | (refine wv_zeroF rfl rfl ?_) | (first | ((first | refine wv_box rfl _ _ rfl rfl HM ?_ | refine wv_alloc rfl _ rfl (by exact rowOf) HM ?_); first | (have q : dV HM = 0 := rfl; clear q HM; intro g1 u1 HG1 HM) | (have q : dV HM = 1 := rfl; clear q HM; intro g2 u2 HG2 HM) | (have q : dV HM = 2 := rfl; clear q HM; intro g3 u3 HG3 HM) | (have q : dV HM = 3 := rfl; clear q HM; intro g4 u4 HG4 HM) | (have q : dV HM = 4 := rfl; clear q HM; intro g5 u5 HG5 HM) | (have q : dV HM = 5 := rfl; clear q HM; intro g6 u6 HG6 HM) | (have q : dV HM = 6 := rfl; clear q HM; intro g7 u7 HG7 HM) | (have q : dV HM = 7 := rfl; clear q HM; intro g8 u8 HG8 HM) | (have q : dV HM = 8 := rfl; clear q HM; intro g9 u9 HG9 HM) | (have q : dV HM = 9 := rfl; clear q HM; intro g10 u10 HG10 HM) | (have q : dV HM = 10 := rfl; clear q HM; intro g11 u11 HG11 HM) | (have q : dV HM = 11 := rfl; clear q HM; intro g12 u12 HG12 HM) | (have q : dV HM = 12 := rfl; clear q HM; intro g13 u13 HG13 HM) | (have q : dV HM = 13 := rfl; clear q HM; intro g14 u14 HG14 HM)) | (refine wv_load rfl _ _ rfl rfl (by exact rowOf) HM (by exact vmemOf) (by exact vsizOf) ?_) | (refine wv_store rfl _ _ _ rfl rfl rfl (by exact rowOf) HM (by exact vidxOf) (by exact vsizOf) (by exact vsizOf) (by exact voneOf) ?_; clear HM; intro us HM; dsimp only [List.set] at HM) | (refine wl_zero rfl _ rfl (by exact arrOf) (by kernel_rfl) ?_)) | (refine wv_elem rfl _ rfl rfl HM (by exact vmemOf) (by exact velOf) ?_) | (refine wv_put rfl _ _ rfl rfl rfl HM (by exact vidxOf) (by exact vltOf) ?_; clear HM; intro us HM; dsimp only [List.set] at HM) | (refine wv_loadS rfl _ _ rfl rfl (by exact arrOf) HM (by exact vmemOf) (by exact vsubF) (by exact lenOf) ?_))
      go_ret
      exact ⟨rfl, HM.out.1⟩
  rw [hv]
  have HFS := Lib.hid (frS_mk (K := K) ll lq)
  have hm := ((chkB_iff _ _ _ _).1 hc).may
  have HMY := Lib.hid (fun u h => qmay_any q l u lq ll h)
  rw [hm] at HMY
  have HCK := Lib.hid (fun u h => fcheck_any (frL K l q) K l q p u HFS.out LP.out h)
  unfold errC at HCK
  rw [hc, if_pos rfl] at HCK
  have HC := Lib.hid hc
  have HW := Lib.hid hw
  have LL := Lib.hid ll
  have LQ := Lib.hid lq
  obtain ⟨F, hF⟩ : ∃ F, F = frL K l q := ⟨_, rfl⟩
  rw [← hF] at HFS HCK ⊢
  have LF := Lib.hid HFS.out.len
  have SL := Lib.hid HFS.out.lev
  have SQ := Lib.hid HFS.out.num
  clear hv hc hw ll lq hm hF
  go_wp2_with (first | (refine wv_zeroF rfl rfl ?_) | (first | ((first | refine wv_box rfl _ _ rfl rfl HM ?_ | refine wv_alloc rfl _ rfl (by exact rowOf) HM ?_); first | (have q : dV HM = 0 := rfl; clear q HM; intro g1 u1 HG1 HM) | (have q : dV HM = 1 := rfl; clear q HM; intro g2 u2 HG2 HM) | (have q : dV HM = 2 := rfl; clear q HM; intro g3 u3 HG3 HM) | (have q : dV HM = 3 := rfl; clear q HM; intro g4 u4 HG4 HM) | (have q : dV HM = 4 := rfl; clear q HM; intro g5 u5 HG5 HM) | (have q : dV HM = 5 := rfl; clear q HM; intro g6 u6 HG6 HM) | (have q : dV HM = 6 := rfl; clear q HM; intro g7 u7 HG7 HM) | (have q : dV HM = 7 := rfl; clear q HM; intro g8 u8 HG8 HM) | (have q : dV HM = 8 := rfl; clear q HM; intro g9 u9 HG9 HM) | (have q : dV HM = 9 := rfl; clear q HM; intro g10 u10 HG10 HM) | (have q : dV HM = 10 := rfl; clear q HM; intro g11 u11 HG11 HM) | (have q : dV HM = 11 := rfl; clear q HM; intro g12 u12 HG12 HM) | (have q : dV HM = 12 := rfl; clear q HM; intro g13 u13 HG13 HM) | (have q : dV HM = 13 := rfl; clear q HM; intro g14 u14 HG14 HM)) | (refine wv_load rfl _ _ rfl rfl (by exact rowOf) HM (by exact vmemOf) (by exact vsizOf) ?_) | (refine wv_store rfl _ _ _ rfl rfl rfl (by exact rowOf) HM (by exact vidxOf) (by exact vsizOf) (by exact vsizOf) (by exact voneOf) ?_; clear HM; intro us HM; dsimp only [List.set] at HM) | (refine wl_zero rfl _ rfl (by exact arrOf) (by kernel_rfl) ?_)) | (refine wv_elem rfl _ rfl rfl HM (by exact vmemOf) (by exact velOf) ?_) | (refine wv_put rfl _ _ rfl rfl rfl HM (by exact vidxOf) (by exact vltOf) ?_; clear HM; intro us HM; dsimp only [List.set] at HM) | (refine wv_loadS rfl _ _ rfl rfl (by exact arrOf) HM (by exact vmemOf) (by exact vsubF) (by exact lenOf) ?_))
  refine (fwrite_any F K l q p _ HFS.out LP.out (HE.out.below HM.out.1)).mono ?_
  intro e w4 ho
  unfold WrOut at ho
  rw [if_pos HC.out, HW.out] at ho
  obtain ⟨A4, n4, c4, rfl, hr4, hb⟩ := ho
  have HR4 := Lib.hid hr4
  have HM2 := Lib.hid (HM.out.below hb)
  clear hb HM hr4
  have HM := HM2
  clear HM2
  have e1 := run_str c4 HR4.out
  have e2 := run_str c (hr.out.below HM.out.1)
  have hs := str_beqF bs bs hr.out.2.1 hr.out.2.1
  rw [decide_eq_true rfl] at hs
  go_wp2_with (first | (refine wv_zeroF rfl rfl ?_) | (first | ((first | refine wv_box rfl _ _ rfl rfl HM ?_ | refine wv_alloc rfl _ rfl (by exact rowOf) HM ?_); first | (have q : dV HM = 0 := rfl; clear q HM; intro g1 u1 HG1 HM) | (have q : dV HM = 1 := rfl; clear q HM; intro g2 u2 HG2 HM) | (have q : dV HM = 2 := rfl; clear q HM; intro g3 u3 HG3 HM) | (have q : dV HM = 3 := rfl; clear q HM; intro g4 u4 HG4 HM) | (have q : dV HM = 4 := rfl; clear q HM; intro g5 u5 HG5 HM) | (have q : dV HM = 5 := rfl; clear q HM; intro g6 u6 HG6 HM) | (have q : dV HM = 6 := rfl; clear q HM; intro g7 u7 HG7 HM) | (have q : dV HM = 7 := rfl; clear q HM; intro g8 u8 HG8 HM) | (have q : dV HM = 8 := rfl; clear q HM; intro g9 u9 HG9 HM) | (have q : dV HM = 9 := rfl; clear q HM; intro g10 u10 HG10 HM) | (have q : dV HM = 10 := rfl; clear q HM; intro g11 u11 HG11 HM) | (have q : dV HM = 11 := rfl; clear q HM; intro g12 u12 HG12 HM) | (have q : dV HM = 12 := rfl; clear q HM; intro g13 u13 HG13 HM) | (have q : dV HM = 13 := rfl; clear q HM; intro g14 u14 HG14 HM)) | (refine wv_load rfl _ _ rfl rfl (by exact rowOf) HM (by exact vmemOf) (by exact vsizOf) ?_) | (refine wv_store rfl _ _ _ rfl rfl rfl (by exact rowOf) HM (by exact vidxOf) (by exact vsizOf) (by exact vsizOf) (by exact voneOf) ?_; clear HM; intro us HM; dsimp only [List.set] at HM) | (refine wl_zero rfl _ rfl (by exact arrOf) (by kernel_rfl) ?_)) | (refine wv_elem rfl _ rfl rfl HM (by exact vmemOf) (by exact velOf) ?_) | (refine wv_put rfl _ _ rfl rfl rfl HM (by exact vidxOf) (by exact vltOf) ?_; clear HM; intro us HM; dsimp only [List.set] at HM) | (refine wv_loadS rfl _ _ rfl rfl (by exact arrOf) HM (by exact vmemOf) (by exact vsubF) (by exact lenOf) ?_))
  refine (HCK.out _ (HE.out.below HM.out.1)).mono ?_
  rintro e w5 ⟨rfl, hb⟩
  have HM2 := Lib.hid (HM.out.below hb)
  clear hb HM HCK e1 e2
  have HM := HM2
  clear HM2
  go_wp2_with (first | (refine wv_zeroF rfl rfl ?_) | (first | ((first | refine wv_box rfl _ _ rfl rfl HM ?_ | refine wv_alloc rfl _ rfl (by exact rowOf) HM ?_); first | (have q : dV HM = 0 := rfl; clear q HM; intro g1 u1 HG1 HM) | (have q : dV HM = 1 := rfl; clear q HM; intro g2 u2 HG2 HM) | (have q : dV HM = 2 := rfl; clear q HM; intro g3 u3 HG3 HM) | (have q : dV HM = 3 := rfl; clear q HM; intro g4 u4 HG4 HM) | (have q : dV HM = 4 := rfl; clear q HM; intro g5 u5 HG5 HM) | (have q : dV HM = 5 := rfl; clear q HM; intro g6 u6 HG6 HM) | (have q : dV HM = 6 := rfl; clear q HM; intro g7 u7 HG7 HM) | (have q : dV HM = 7 := rfl; clear q HM; intro g8 u8 HG8 HM) | (have q : dV HM = 8 := rfl; clear q HM; intro g9 u9 HG9 HM) | (have q : dV HM = 9 := rfl; clear q HM; intro g10 u10 HG10 HM) | (have q : dV HM = 10 := rfl; clear q HM; intro g11 u11 HG11 HM) | (have q : dV HM = 11 := rfl; clear q HM; intro g12 u12 HG12 HM) | (have q : dV HM = 12 := rfl; clear q HM; intro g13 u13 HG13 HM) | (have q : dV HM = 13 := rfl; clear q HM; intro g14 u14 HG14 HM)) | (refine wv_load rfl _ _ rfl rfl (by exact rowOf) HM (by exact vmemOf) (by exact vsizOf) ?_) | (refine wv_store rfl _ _ _ rfl rfl rfl (by exact rowOf) HM (by exact vidxOf) (by exact vsizOf) (by exact vsizOf) (by exact voneOf) ?_; clear HM; intro us HM; dsimp only [List.set] at HM) | (refine wl_zero rfl _ rfl (by exact arrOf) (by kernel_rfl) ?_)) | (refine wv_elem rfl _ rfl rfl HM (by exact vmemOf) (by exact velOf) ?_) | (refine wv_put rfl _ _ rfl rfl rfl HM (by exact vidxOf) (by exact vltOf) ?_; clear HM; intro us HM; dsimp only [List.set] at HM) | (refine wv_loadS rfl _ _ rfl rfl (by exact arrOf) HM (by exact vmemOf) (by exact vsubF) (by exact lenOf) ?_))
  refine (HMY.out _ (HE.out.below HM.out.1)).mono ?_
  rintro e w6 ⟨rfl, hb⟩
  have HM2 := Lib.hid (HM.out.below hb)
  clear hb HM HMY
  have HM := HM2
  clear HM2
  go_wp2_with (first | (refine wv_zeroF rfl rfl ?_) | (first | ((first | refine wv_box rfl _ _ rfl rfl HM ?_ | refine wv_alloc rfl _ rfl (by exact rowOf) HM ?_); first | (have q : dV HM = 0 := rfl; clear q HM; intro g1 u1 HG1 HM) | (have q : dV HM = 1 := rfl; clear q HM; intro g2 u2 HG2 HM) | (have q : dV HM = 2 := rfl; clear q HM; intro g3 u3 HG3 HM) | (have q : dV HM = 3 := rfl; clear q HM; intro g4 u4 HG4 HM) | (have q : dV HM = 4 := rfl; clear q HM; intro g5 u5 HG5 HM) | (have q : dV HM = 5 := rfl; clear q HM; intro g6 u6 HG6 HM) | (have q : dV HM = 6 := rfl; clear q HM; intro g7 u7 HG7 HM) | (have q : dV HM = 7 := rfl; clear q HM; intro g8 u8 HG8 HM) | (have q : dV HM = 8 := rfl; clear q HM; intro g9 u9 HG9 HM) | (have q : dV HM = 9 := rfl; clear q HM; intro g10 u10 HG10 HM) | (have q : dV HM = 10 := rfl; clear q HM; intro g11 u11 HG11 HM) | (have q : dV HM = 11 := rfl; clear q HM; intro g12 u12 HG12 HM) | (have q : dV HM = 12 := rfl; clear q HM; intro g13 u13 HG13 HM) | (have q : dV HM = 13 := rfl; clear q HM; intro g14 u14 HG14 HM)) | (refine wv_load rfl _ _ rfl rfl (by exact rowOf) HM (by exact vmemOf) (by exact vsizOf) ?_) | (refine wv_store rfl _ _ _ rfl rfl rfl (by exact rowOf) HM (by exact vidxOf) (by exact vsizOf) (by exact vsizOf) (by exact voneOf) ?_; clear HM; intro us HM; dsimp only [List.set] at HM) | (refine wl_zero rfl _ rfl (by exact arrOf) (by kernel_rfl) ?_)) | (refine wv_elem rfl _ rfl rfl HM (by exact vmemOf) (by exact velOf) ?_) | (refine wv_put rfl _ _ rfl rfl rfl HM (by exact vidxOf) (by exact vltOf) ?_; clear HM; intro us HM; dsimp only [List.set] at HM) | (refine wv_loadS rfl _ _ rfl rfl (by exact arrOf) HM (by exact vmemOf) (by exact vsubF) (by exact lenOf) ?_))
  go_ret
  exact ⟨rfl, HM.out.1⟩
end Go.Proofs.YtgpdgegelipboaaDoor.Lp
namespace Go.Proofs.YtgpdgegelipboaaDoor.Lp
open Go.RowKit Go.Proofs.YtgpdgegelipboaaDoor.Fx Go.Proofs.YtgpdgegelipboaaDoor.Fq Go.Proofs.YtgpdgegelipboaaDoor.Tb
theorem info_u8Z : (Tryd.prog.info? 5).map (fun i => (i.zero, i.size, i.bytes)) = some (some (.int .u8 0), 1, 1) := by kernel_rfl
theorem ones_Z (bs : List Nat) : ∀ u ∈ bs.map byteV, u.oneCell' = true := by
  intro u hu
  obtain ⟨x, _, rfl⟩ := List.mem_map.1 hu
  rfl
theorem news_Z {w : World} {ad : Addr} {n : Nat} {bs : List Nat} (h : Rd w (some ad) n bs) : ∀ j u, (bs.map byteV)[j]? = some u → w.cell? (ad.add j) = some u := by
  intro j u hu
  rw [List.getElem?_map] at hu
  obtain ⟨x, hx, rfl⟩ := Option.map_eq_some_iff.1 hu
  have hpos : 0 < n := by have := h.1; have := (List.getElem?_eq_some_iff.1 hx).1; omega
  obtain ⟨ad', e, hc⟩ := h.2.2 hpos
  injection e with e
  subst e
  exact hc j x hx
theorem rd_own {w : World} {base g n cap : Nat} {bs : List Nat} (h : w.ownsRow base 5 1 (.slice (some ⟨g, 0, none⟩) n cap) n (bs.map byteV)) (hl : bs.length = n) (h256 : ∀ x ∈ bs, x < 256) : Rd w (some ⟨g, 0, none⟩) n bs :=
  ⟨hl, h256, fun _ => ⟨_, rfl, fun j x hx => h.cells (g := g) rfl j (byteV x) (by rw [List.getElem?_map, hx]; rfl)⟩⟩
theorem bl_next {w5 u u' : World} (h : Below w5.heap.size w5 u) (hb : Below u.heap.size u u') : Below w5.heap.size w5 u' := h.trans (hb.mono h.size)
theorem bl_grown {u u' : World} (k : u.grownBy u' none) : Below u.heap.size u u' := ⟨k.os, k.tape, k.output, k.size, fun i hi => k.block i hi (fun e => by cases e)⟩
theorem own_bel {u u' : World} {e : TypeId} {b n : Nat} {v : Value} {xs : List Value} (h : u.ownsRow b e 1 v n xs) (hb : Below u.heap.size u u') : u'.ownsRow b e 1 v n xs :=
  World.ownsRow.kept h (only_of_below hb none) (by cases hv : v.ownBlock with | none => exact .inl rfl | some k => exact .inr (by simp))
theorem blk_own {u u' : World} {base n ga gc ca : Nat} {T : TypeId} {xs : List Value} {cs : Array Value} (h : Blk u gc T cs) (hT : T ≠ 5) (ho : u.ownsRow base 5 1 (.slice (some ⟨ga, 0, none⟩) n ca) n xs) (hg : u.grownBy u' (some ga)) : Blk u' gc T cs := by
  refine (hg.block gc h.lt (fun e => ?_)).trans h
  have e' : ga = gc := (Option.some.inj e).symm
  subst e'
  rcases ho.2 with ⟨e, -⟩ | ⟨g, cap, cur, e, hb, hh, -⟩
  · cases e
  · have e1 : ga = g := by injection e with e2; injection e2 with e3; injection e3
    subst e1
    unfold Blk at h
    rw [h] at hh
    injection hh with hh
    injection hh with h1 h2
    exact hT h2
theorem MV.add {w0 w1 w : World} {L : List Ent} {g : Nat} {T : TypeId} {cs : Array Value} (h : MV w0 w1 L w) (hb : Blk w g T cs) (hB : w0.heap.size ≤ g) (hn : ∀ e ∈ L, e.1 < g) : MV w0 w ((g, T, cs) :: L) w := by
  refine ⟨h.1, fun e he => ?_, fun e he => ?_, .cons (fun e he => Nat.ne_of_gt (hn e he)) h.2.2.2.1, MF.refl _ _⟩
  · rcases List.mem_cons.1 he with rfl | he
    · exact hb
    · exact h.2.1 e he
  · rcases List.mem_cons.1 he with rfl | he
    · exact hB
    · exact h.2.2.1 e he
/-- a block of ints holds no byte -/
theorem rd_blk {w : World} {A : Option Addr} {n g : Nat} {bs : List Nat} {T : TypeId} {zs : List Int} (hr : Rd w A n bs) (hb : Blk w g T (icells zs)) {ad : Addr} (e : A = some ad) (hn : 0 < n) : g ≠ ad.block := by
  obtain ⟨ad', e', -, -, hc⟩ := hr.at_ (k := 0) hn
  have e2 : ad = ad' := Option.some.inj (e.symm.trans e')
  subst e2
  intro hg
  have h0 : ad.add 0 = ad := rfl
  rw [h0] at hc
  unfold Blk at hb
  unfold World.cell? at hc
  rw [← hg, hb] at hc
  cases hs : ad.spot.isSome with
  | true => simp [hs] at hc
  | false =>
    simp only [hs] at hc
    rcases Nat.lt_or_ge ad.off zs.length with hl | hl
    · rw [if_neg Bool.false_ne_true, icells_get hl] at hc
      injection hc with hc
      injection hc with hk
      cases hk
    · rw [if_neg Bool.false_ne_true, Array.getElem?_eq_none (by simp [icells]; exact hl)] at hc
      cases hc
theorem apt_of {w : World} {A : Option Addr} {n : Nat} {bs : List Nat} {gs : List Nat} (hr : Rd w A n bs) (h : ∀ g ∈ gs, ∃ T zs, Blk w g T (icells zs)) : Apt A n gs := fun ad e hn g hg => by
  obtain ⟨T, zs, hb⟩ := h g hg
  exact rd_blk hr hb e hn
theorem MV.apt {w0 w1 w : World} {L : List Ent} {A : Option Addr} {n : Nat} {bs : List Nat} (h : MV w0 w1 L w) (hr : Rd w A n bs) (hL : ∀ e ∈ L, ∃ zs, e.2.2 = icells zs) : Apt A n (L.map (·.1)) := apt_of hr fun g hg => by
  obtain ⟨e, he, rfl⟩ := List.mem_map.1 hg
  obtain ⟨zs, hz⟩ := hL e he
  exact ⟨e.2.1, zs, hz ▸ h.2.1 e he⟩
theorem run_cut (ad : Addr) (n c m : Nat) (hm : m ≤ c) (u : World) : (Instr.sliceAt 28 (.slice (some ad) n c) none (some (.int .i64 (m : Int))) none).run Tryd.prog u = .ok (.slice (some ad) m c) u := by
  have ht : Tryd.prog.underlying 28 = some (.slice (Tryd.prog.elem 28)) := by kernel_rfl
  have hs : (sizeOf (Tryd.prog.elem 28)).run Tryd.prog u = .ok 1 u := by kernel_rfl
  rw [run_sliceAt_slice (h := ht), run_slice_h (ht := ht) (h0 := by omega) (h2 := by omega), hs]
  simp [Result.andThen, sliced, Addr.add]
theorem ex_cut {o : Oper} {a : Act} {u : World} (x y : Operand) (ho : o.op = .slice 28 x none (some y) none) {ad : Addr} {n c m : Nat} (hx : a.eval x = .slice (some ad) n c) (hy : a.eval y = .int .i64 (m : Int)) (hm : Hid (m ≤ c)) :
    (execOp a.eval o).run Tryd.prog u = .ok (.value (.slice (some ad) m c)) u := by
  unfold execOp
  simp only [ho, Option.map, hx, hy, Sem.run_bind, run_cut ad n c m hm.out u, Result.andThen_ok, Sem.run_pure]
theorem rd_upto {w : World} {A : Option Addr} {n m : Nat} {bs : List Nat} (h : Rd w A n bs) (hm : m ≤ n) : Rd w A m (bs.take m) :=
  ⟨by rw [List.length_take, h.1]; omega, fun x hx => h.2.1 x (List.mem_of_mem_take hx), fun h0 => by
    obtain ⟨ad, e, hc⟩ := h.2.2 (by omega)
    refine ⟨ad, e, fun j x hx => hc j x ?_⟩
    rw [List.getElem?_take] at hx
    by_cases hj : j < m
    · rwa [if_pos hj] at hx
    · rw [if_neg hj] at hx; cases hx⟩
theorem app_one {ops : Array Oper} {o : Oper} {a : Act} {u w5 : World} {K : Act → World → Prop} {Q : Exit → Act → World → Prop} {E : Prop} (hgd : o.guard = none) (x : Operand)
    (ho : o.op = .call { callee := .builtin .append, args := #[.const (.slice none 0 0), x], argTypes := #[28, 28] }) {ad : Addr} {n c : Nat} {bs : List Nat} (hx : a.eval x = .slice (some ad) n c)
    (HB : Hid (Below w5.heap.size w5 u)) (HR : Hid (Rd w5 (some ad) n bs)) (hn : 0 < n) (hn40 : n ≤ 40)
    (h : ∀ g cap u', Hid (Below w5.heap.size w5 u') → Hid (u'.ownsRow w5.heap.size 5 1 (.slice (some ⟨g, 0, none⟩) n cap) n (bs.map byteV)) → Hid (Below u.heap.size u u') → K (a.put o.dst (.slice (some ⟨g, 0, none⟩) n cap)) u') :
    if Region.wanted o (yielded ops a.tmps) = true then Oper.wp Tryd.prog o a u K Q else E := by
  obtain ⟨i1, hj0, hy0, hy1, hy2⟩ := info_partsT info_u8Z
  have hru := HR.out.below HB.out
  refine step_append_lies u hgd (.const (.slice none 0 0)) x 28 ho w5.heap.size 5 i1 _ 1 1 Tryd.underlying28 hj0 hy0 hy1 hy2 rfl (by omega) (.slice none 0 0) 0 [] rfl (World.ownsRow_nil _ _ _ _) ad n c (bs.map byteV) hx (by rw [List.length_map, hru.1, Nat.mul_one]) (news_Z hru) (ones_Z _) hn (by unfold maxLen; omega) (by omega) HB.out.size _ rfl ?_
  intro g cap u' hown hg _ _
  rw [Nat.zero_add, List.nil_append] at hown
  rw [Nat.zero_add]
  have hb := bl_grown hg
  exact h g cap u' (Lib.hid (bl_next HB.out hb)) (Lib.hid hown) (Lib.hid hb)
theorem app_two {ops : Array Oper} {o : Oper} {a : Act} {u w5 : World} {K : Act → World → Prop} {Q : Exit → Act → World → Prop} {E : Prop} (hgd : o.guard = none) (s x : Operand)
    (ho : o.op = .call { callee := .builtin .append, args := #[s, x], argTypes := #[28, 28] }) {ga gb n c m : Nat} {bs : List Nat} (hs : a.eval s = .slice (some ⟨ga, 0, none⟩) n c) (hx : a.eval x = .slice (some ⟨gb, 0, none⟩) 1 1)
    (HB : Hid (Below w5.heap.size w5 u)) (HO : Hid (u.ownsRow w5.heap.size 5 1 (.slice (some ⟨ga, 0, none⟩) n c) n (bs.map byteV))) (HC : Hid (u.cell? ⟨gb, 0, none⟩ = some (byteV m))) (hm : m < 256) (HL : Hid (bs.length = n ∧ ∀ x ∈ bs, x < 256)) (hn40 : n ≤ 40)
    (h : ∀ g cap u', Hid (Below w5.heap.size w5 u') → Hid (Rd u' (some ⟨g, 0, none⟩) (n + 1) (bs ++ [m])) → Hid (u.grownBy u' (some ga)) → K (a.put o.dst (.slice (some ⟨g, 0, none⟩) (n + 1) cap)) u') :
    if Region.wanted o (yielded ops a.tmps) = true then Oper.wp Tryd.prog o a u K Q else E := by
  obtain ⟨i1, hj0, hy0, hy1, hy2⟩ := info_partsT info_u8Z
  have hlt := HO.out.lt ga rfl
  refine step_append_lies u hgd s x 28 ho w5.heap.size 5 i1 _ 1 1 Tryd.underlying28 hj0 hy0 hy1 hy2 rfl (by omega) _ n _ hs HO.out ⟨gb, 0, none⟩ 1 1 [byteV m] hx rfl (fun j v hv => ?_) (by intro v hv; simp at hv; subst hv; rfl) (by omega) (by unfold maxLen; omega) (by omega) HB.out.size _ rfl ?_
  · match j, hv with
    | 0, hv => injection hv with hv; subst hv; exact HC.out
    | k + 1, hv => simp at hv
  intro g cap u' hown hg _ _
  have e : bs.map byteV ++ [byteV m] = (bs ++ [m]).map byteV := by rw [List.map_append]; rfl
  rw [e] at hown
  have hg' : u.grownBy u' (some ga) := hg
  refine h g cap u' (Lib.hid (below_grown HB.out hg' hlt.1 HB.out.size)) (Lib.hid (rd_own hown (by rw [List.length_append, HL.out.1]; rfl) fun y hy => ?_)) (Lib.hid hg')
  rcases List.mem_append.1 hy with hy | hy
  · exact HL.out.2 y hy
  · rw [List.mem_singleton.1 hy]; exact hm
end Go.Proofs.YtgpdgegelipboaaDoor.Lp
namespace Go.Proofs.YtgpdgegelipboaaDoor.Lp
open Go.RowKit Go.Proofs.YtgpdgegelipboaaDoor.Fx Go.Proofs.YtgpdgegelipboaaDoor.Fq Go.Proofs.YtgpdgegelipboaaDoor.Tb
open Go.Proofs.YtgpdgegelipboaaDoor.Yr (chkB chkB_iff wrB rdR rd_one rd_back Fr wrB_len kind_back inB kindR)
/-- not the frame itself, or an error -/
def NotF (X : List Int) (E K : Int) (l q : List Int) : Prop := X.length = 23 ∧ ((E = 1 ∨ E = 21) ∨ E = 0 ∧ ∃ K2 l2 q2, FrS X K2 l2 q2 ∧ ¬ (K2 = K ∧ l2 = l ∧ q2 = q))
theorem rd_other {K : Int} {l q p : List Int} {bs : List Nat} (hne : bs ≠ wrB K l q p) : ∃ X E, rdV bs p = .tuple #[.agg (icells X), .int .i64 E] ∧ NotF X E K l q := by
  rcases rd_cases bs p with ⟨K', l', q', hrd, hv, hc', hw, ll', lq'⟩ | ⟨er, her, hv, -⟩
  · refine ⟨frL K' l' q', 0, hv, frL_len ll' lq', .inr ⟨rfl, K', l', q', frS_mk ll' lq', fun h => ?_⟩⟩
    rw [h.1, h.2.1, h.2.2] at hw
    exact hne hw.symm
  · exact ⟨zr 23, er, hv, zr_length 23, .inl her⟩
theorem rd_same {K : Int} {l q p : List Int} (h : Fr K l q p) (ll : l.length = 6) (lq : q.length = 16) : rdV (wrB K l q p) p = .tuple #[.agg (icells (frL K l q)), .int .i64 0] := by
  unfold rdV
  rw [if_pos h.ahead, rd_back h ll lq]
theorem kd_same {K : Int} {l q p : List Int} (h : Fr K l q p) (ll : l.length = 6) (lq : q.length = 16) : kdV (wrB K l q p) = .tuple #[.int .i64 K, .int .i64 0] := by
  unfold kdV
  have := wrB_len h
  rw [if_pos (by omega), kind_back h ll lq]
theorem notf_cases {X F : List Int} {E K : Int} {l q : List Int} (h : NotF X E K l q) (hF : FrS F K l q) : (E = 1 ∨ E = 21) ∨ E = 0 ∧ ∀ u, (Op.equalIn 10000 26 (.agg (icells X)) (.agg (icells F))).run Tryd.prog u = .ok false u := by
  rcases h.2 with h | ⟨h, K2, l2, q2, hX, hn⟩
  · exact .inl h
  · refine .inr ⟨h, fun u => ?_⟩
    have h1 := run_eq_fr hX hF u
    have hne : (decide (K2 = K) && (decide (l2 = l) && decide (q2 = q))) = false := by
      rw [Bool.eq_false_iff]
      intro h
      simp only [Bool.and_eq_true, decide_eq_true_eq] at h
      exact hn h
    rw [hne] at h1
    exact h1
set_option maxRecDepth 100000 in
set_option maxHeartbeats 8000000 in
theorem back_law (F p : List Int) (K : Int) (l q : List Int) (more : Nat) (w : World) (hF : FrS F K l q) (lp : p.length = 6) (h256 : more < 256) (he : Edg w) :
    Calls Tryd.prog 3 #[.agg (icells F), .agg (icells p), .int .u8 (more : Int)] w (ValQ w (.bool true)) := by
  have HM := Lib.hid (MV.start w)
  have HE := Lib.hid he
  have HF := Lib.hid hF
  have LF := Lib.hid hF.len
  have LP := Lib.hid lp
  clear he hF lp
  go_enter Tryd.func3, Tryd.ntmps3
  go_wp2_with (first | (refine wv_zeroF rfl rfl ?_) | (first | ((first | refine wv_box rfl _ _ rfl rfl HM ?_ | refine wv_alloc rfl _ rfl (by exact rowOf) HM ?_); first | (have q : dV HM = 0 := rfl; clear q HM; intro g1 u1 HG1 HM) | (have q : dV HM = 1 := rfl; clear q HM; intro g2 u2 HG2 HM) | (have q : dV HM = 2 := rfl; clear q HM; intro g3 u3 HG3 HM) | (have q : dV HM = 3 := rfl; clear q HM; intro g4 u4 HG4 HM) | (have q : dV HM = 4 := rfl; clear q HM; intro g5 u5 HG5 HM) | (have q : dV HM = 5 := rfl; clear q HM; intro g6 u6 HG6 HM) | (have q : dV HM = 6 := rfl; clear q HM; intro g7 u7 HG7 HM) | (have q : dV HM = 7 := rfl; clear q HM; intro g8 u8 HG8 HM) | (have q : dV HM = 8 := rfl; clear q HM; intro g9 u9 HG9 HM) | (have q : dV HM = 9 := rfl; clear q HM; intro g10 u10 HG10 HM) | (have q : dV HM = 10 := rfl; clear q HM; intro g11 u11 HG11 HM) | (have q : dV HM = 11 := rfl; clear q HM; intro g12 u12 HG12 HM) | (have q : dV HM = 12 := rfl; clear q HM; intro g13 u13 HG13 HM) | (have q : dV HM = 13 := rfl; clear q HM; intro g14 u14 HG14 HM)) | (refine wv_load rfl _ _ rfl rfl (by exact rowOf) HM (by exact vmemOf) (by exact vsizOf) ?_) | (refine wv_store rfl _ _ _ rfl rfl rfl (by exact rowOf) HM (by exact vidxOf) (by exact vsizOf) (by exact vsizOf) (by exact voneOf) ?_; clear HM; intro us HM; dsimp only [List.set] at HM) | (refine wl_zero rfl _ rfl (by exact arrOf) (by kernel_rfl) ?_)) | (refine wv_elem rfl _ rfl rfl HM (by exact vmemOf) (by exact velOf) ?_) | (refine wv_put rfl _ _ rfl rfl rfl HM (by exact vidxOf) (by exact vltOf) ?_; clear HM; intro us HM; dsimp only [List.set] at HM) | (refine wv_loadS rfl _ _ rfl rfl (by exact arrOf) HM (by exact vmemOf) (by exact vsubF) (by exact lenOf) ?_))
  refine (flive_any _ (HE.out.below HM.out.1)).mono ?_
  rintro e w2 ⟨rfl, hb⟩
  have HM2 := Lib.hid (HM.out.below hb)
  clear hb HM
  have HM := HM2
  clear HM2
  go_wp2_with (first | (refine wv_zeroF rfl rfl ?_) | (first | ((first | refine wv_box rfl _ _ rfl rfl HM ?_ | refine wv_alloc rfl _ rfl (by exact rowOf) HM ?_); first | (have q : dV HM = 0 := rfl; clear q HM; intro g1 u1 HG1 HM) | (have q : dV HM = 1 := rfl; clear q HM; intro g2 u2 HG2 HM) | (have q : dV HM = 2 := rfl; clear q HM; intro g3 u3 HG3 HM) | (have q : dV HM = 3 := rfl; clear q HM; intro g4 u4 HG4 HM) | (have q : dV HM = 4 := rfl; clear q HM; intro g5 u5 HG5 HM) | (have q : dV HM = 5 := rfl; clear q HM; intro g6 u6 HG6 HM) | (have q : dV HM = 6 := rfl; clear q HM; intro g7 u7 HG7 HM) | (have q : dV HM = 7 := rfl; clear q HM; intro g8 u8 HG8 HM) | (have q : dV HM = 8 := rfl; clear q HM; intro g9 u9 HG9 HM) | (have q : dV HM = 9 := rfl; clear q HM; intro g10 u10 HG10 HM) | (have q : dV HM = 10 := rfl; clear q HM; intro g11 u11 HG11 HM) | (have q : dV HM = 11 := rfl; clear q HM; intro g12 u12 HG12 HM) | (have q : dV HM = 12 := rfl; clear q HM; intro g13 u13 HG13 HM) | (have q : dV HM = 13 := rfl; clear q HM; intro g14 u14 HG14 HM)) | (refine wv_load rfl _ _ rfl rfl (by exact rowOf) HM (by exact vmemOf) (by exact vsizOf) ?_) | (refine wv_store rfl _ _ _ rfl rfl rfl (by exact rowOf) HM (by exact vidxOf) (by exact vsizOf) (by exact vsizOf) (by exact voneOf) ?_; clear HM; intro us HM; dsimp only [List.set] at HM) | (refine wl_zero rfl _ rfl (by exact arrOf) (by kernel_rfl) ?_)) | (refine wv_elem rfl _ rfl rfl HM (by exact vmemOf) (by exact velOf) ?_) | (refine wv_put rfl _ _ rfl rfl rfl HM (by exact vidxOf) (by exact vltOf) ?_; clear HM; intro us HM; dsimp only [List.set] at HM) | (refine wv_loadS rfl _ _ rfl rfl (by exact arrOf) HM (by exact vmemOf) (by exact vsubF) (by exact lenOf) ?_))
  refine (fwriteC_any F K l q p _ HF.out LP.out (HE.out.below HM.out.1)).mono ?_
  intro e w3 ho
  unfold WrC at ho
  cases hc : chkB K l q p with
  | false =>
    rw [hc, if_neg Bool.false_ne_true] at ho
    obtain ⟨rfl, hb⟩ := ho
    have HM2 := Lib.hid (HM.out.below hb)
    clear hb HM hc
    have HM := HM2
    clear HM2
    go_wp2_with fail
    go_ret
    exact ⟨rfl, HM.out.1⟩
  | true =>
    rw [hc, if_pos rfl] at ho
    obtain ⟨A, n, c, rfl, hcap, hr, hb⟩ := ho
    have HCAP := Lib.hid hcap
    clear hcap
    have hfr := (chkB_iff _ _ _ _).1 hc
    have HFR := Lib.hid hfr
    have hwl := wrB_len hfr
    have HLN := Lib.hid hr.1
    have hn40 : n ≤ 40 := by rw [← hr.1]; exact hwl.1
    have hn0 : 0 < n := by rw [← hr.1]; exact hwl.2
    have HRD := Lib.hid (rd_same hfr HF.out.ll HF.out.lq)
    have HKD := Lib.hid (kd_same hfr HF.out.ll HF.out.lq)
    obtain ⟨ad, rfl, -⟩ := hr.at_ hn0
    obtain ⟨bs, hbs⟩ : ∃ bs, bs = wrB K l q p := ⟨_, rfl⟩
    have HBS := Lib.hid hbs
    rw [← hbs] at hr HRD HKD HLN
    have HR := Lib.hid hr
    have HM2 := Lib.hid (HM.out.below hb)
    clear hb HM hc hr hfr hwl hbs
    have HM := HM2
    clear HM2
    go_wp2_with (first | (refine wv_zeroF rfl rfl ?_) | (first | ((first | refine wv_box rfl _ _ rfl rfl HM ?_ | refine wv_alloc rfl _ rfl (by exact rowOf) HM ?_); first | (have q : dV HM = 0 := rfl; clear q HM; intro g1 u1 HG1 HM) | (have q : dV HM = 1 := rfl; clear q HM; intro g2 u2 HG2 HM) | (have q : dV HM = 2 := rfl; clear q HM; intro g3 u3 HG3 HM) | (have q : dV HM = 3 := rfl; clear q HM; intro g4 u4 HG4 HM) | (have q : dV HM = 4 := rfl; clear q HM; intro g5 u5 HG5 HM) | (have q : dV HM = 5 := rfl; clear q HM; intro g6 u6 HG6 HM) | (have q : dV HM = 6 := rfl; clear q HM; intro g7 u7 HG7 HM) | (have q : dV HM = 7 := rfl; clear q HM; intro g8 u8 HG8 HM) | (have q : dV HM = 8 := rfl; clear q HM; intro g9 u9 HG9 HM) | (have q : dV HM = 9 := rfl; clear q HM; intro g10 u10 HG10 HM) | (have q : dV HM = 10 := rfl; clear q HM; intro g11 u11 HG11 HM) | (have q : dV HM = 11 := rfl; clear q HM; intro g12 u12 HG12 HM) | (have q : dV HM = 12 := rfl; clear q HM; intro g13 u13 HG13 HM) | (have q : dV HM = 13 := rfl; clear q HM; intro g14 u14 HG14 HM)) | (refine wv_load rfl _ _ rfl rfl (by exact rowOf) HM (by exact vmemOf) (by exact vsizOf) ?_) | (refine wv_store rfl _ _ _ rfl rfl rfl (by exact rowOf) HM (by exact vidxOf) (by exact vsizOf) (by exact vsizOf) (by exact voneOf) ?_; clear HM; intro us HM; dsimp only [List.set] at HM) | (refine wl_zero rfl _ rfl (by exact arrOf) (by kernel_rfl) ?_)) | (refine wv_elem rfl _ rfl rfl HM (by exact vmemOf) (by exact velOf) ?_) | (refine wv_put rfl _ _ rfl rfl rfl HM (by exact vidxOf) (by exact vltOf) ?_; clear HM; intro us HM; dsimp only [List.set] at HM) | (refine wv_loadS rfl _ _ rfl rfl (by exact arrOf) HM (by exact vmemOf) (by exact vsubF) (by exact lenOf) ?_))
    refine (fread_any (some ad) n c bs p _ HR LP.out (HE.out.below HM.out.1)).mono ?_
    rw [HRD.out]
    rintro e w4 ⟨rfl, hb⟩
    have HR2 := Lib.hid (HR.out.below hb)
    have HM2 := Lib.hid (HM.out.below hb).base
    clear hb HM HR
    have HM := HM2
    clear HM2
    have HG := Lib.hid (frS_mk (K := K) HF.out.ll HF.out.lq)
    obtain ⟨G, hG⟩ : ∃ G, G = frL K l q := ⟨_, rfl⟩
    rw [← hG] at HG ⊢
    have LG := Lib.hid HG.out.len
    clear hG
    have HA1 := Lib.hid (HM.out.apt HR2.out (by intro e he; simp only [List.mem_cons, List.not_mem_nil, or_false] at he; rcases he with rfl | rfl <;> exact ⟨_, rfl⟩))
    go_upto_region 8 with (first | (refine wv_zeroF rfl rfl ?_) | (first | ((first | refine wv_box rfl _ _ rfl rfl HM ?_ | refine wv_alloc rfl _ rfl (by exact rowOf) HM ?_); first | (have q : dV HM = 0 := rfl; clear q HM; intro g1 u1 HG1 HM) | (have q : dV HM = 1 := rfl; clear q HM; intro g2 u2 HG2 HM) | (have q : dV HM = 2 := rfl; clear q HM; intro g3 u3 HG3 HM) | (have q : dV HM = 3 := rfl; clear q HM; intro g4 u4 HG4 HM) | (have q : dV HM = 4 := rfl; clear q HM; intro g5 u5 HG5 HM) | (have q : dV HM = 5 := rfl; clear q HM; intro g6 u6 HG6 HM) | (have q : dV HM = 6 := rfl; clear q HM; intro g7 u7 HG7 HM) | (have q : dV HM = 7 := rfl; clear q HM; intro g8 u8 HG8 HM) | (have q : dV HM = 8 := rfl; clear q HM; intro g9 u9 HG9 HM) | (have q : dV HM = 9 := rfl; clear q HM; intro g10 u10 HG10 HM) | (have q : dV HM = 10 := rfl; clear q HM; intro g11 u11 HG11 HM) | (have q : dV HM = 11 := rfl; clear q HM; intro g12 u12 HG12 HM) | (have q : dV HM = 12 := rfl; clear q HM; intro g13 u13 HG13 HM) | (have q : dV HM = 13 := rfl; clear q HM; intro g14 u14 HG14 HM)) | (refine wv_load rfl _ _ rfl rfl (by exact rowOf) HM (by exact vmemOf) (by exact vsizOf) ?_) | (refine wv_store rfl _ _ _ rfl rfl rfl (by exact rowOf) HM (by exact vidxOf) (by exact vsizOf) (by exact vsizOf) (by exact voneOf) ?_; clear HM; intro us HM; dsimp only [List.set] at HM) | (refine wl_zero rfl _ rfl (by exact arrOf) (by kernel_rfl) ?_)) | (refine wv_elem rfl _ rfl rfl HM (by exact vmemOf) (by exact velOf) ?_) | (refine wv_put rfl _ _ rfl rfl rfl HM (by exact vidxOf) (by exact vltOf) ?_; clear HM; intro us HM; dsimp only [List.set] at HM) | (refine wv_loadS rfl _ _ rfl rfl (by exact arrOf) HM (by exact vmemOf) (by exact vsubF) (by exact lenOf) ?_))
    have HA2 := Lib.hid (show Apt (some ad) n [g3, g2, g1] from Apt.cons HA1.out (rd_lt HR2.out) HG3.out)
    clear HA1
    have HR3 := Lib.hid (HM.out.rdA HR2.out HA2.out)
    go_wp2_with fail
    refine (fkind_any (some ad) n c bs _ HR3 (by unfold maxLen; omega)).mono ?_
    rw [HKD.out]
    rintro e w5 ⟨rfl, hb⟩
    have HR := Lib.hid (HR3.out.below hb)
    have HM2 := Lib.hid (HM.out.below hb).base
    clear hb HM HR2 HR3 HA2
    have HM := HM2
    clear HM2
    have hgd := grdFrame
    have heq := fun u => run_eq_fr HG.out HF.out u
    simp only [decide_true, Bool.and_self] at heq
    have HC0 := Lib.hid (show 0 < F.length ∧ F.getD 0 0 = K from ⟨by rw [LF.out]; decide, HF.out.k0⟩)
    have d1 : ¬ (40 : Int) < (n : Int) := by omega
    have d2 : ((n : Int) == 0) = false := by simp; omega
    have c0 := blk_at (HM.out.get (g := g1) (T := 26) (cs := icells F) (by exact vmemOf)) (i := 0) HC0.out.1
    rw [HC0.out.2] at c0
    go_upto_region 11 with (refine wv_load rfl _ _ rfl rfl (by exact rowOf) HM (by exact vmemOf) (by exact vsizOf) ?_)
    clear c0
    have HX0 := rd_other (K := K) (l := l) (q := q) (p := p) (bs := bs ++ [more]) (fun e => by have := congrArg List.length e; rw [← HBS.out] at this; simp at this)
    obtain ⟨X, E, hX, hNF⟩ := HX0
    have HX := Lib.hid hX
    have HNF := Lib.hid hNF
    have LX := Lib.hid hNF.1
    have HP2 := Lib.hid (show ∀ u, Below w5.heap.size w5 u → Blk u g2 23 (icells p) from fun u hu => (HM.out.get (by exact vmemOf)).below hu (HM.out.get (g := g2) (T := 23) (cs := icells p) (by exact vmemOf)).lt)
    have HBL := Lib.hid (show bs.length = n ∧ ∀ x ∈ bs, x < 256 from ⟨HR.out.1, HR.out.2.1⟩)
    clear hX hNF
    go_cut [14, 15] from 77 to 86 (fun v14 v15 wx => ∃ g4 : Nat, v14 = .pointer (some ⟨g4, 0, none⟩) ∧ v15 = .int .i64 E ∧ Hid (MV w wx [(g4, 26, icells X), (g3, 26, icells G), (g2, 23, icells p), (g1, 26, icells F)] wx ∧ Rd wx (some ad) n bs))
    case first =>
      refine wp_region_held_drew (S := fun u => Blk u g2 23 (icells p)) (by kernel_rfl) (HM.out.drew.get (by exact vmemOf)) (fun hHeld => ?_)
      have HB := Lib.hid (show Below w5.heap.size w5 (World.drew _) from Below.drew (Below.refl _ _))
      generalize World.drew _ = u0 at HB hHeld ⊢
      (refine wa_take (i := 0) (v := .slice (some ad) n c) rfl (by kernel_rfl) (by kernel_rfl) (by kernel_rfl) (fun _ _ _ h => h) (yi_free rfl (fun u => rfl)) hHeld rfl ?_; (try simp only [Act.put, List.setIfInBounds_toArray, List.set_cons_zero, List.set_cons_succ]))
      (refine wa_take (i := 2) (v := .int .u8 (more : Int)) rfl (by kernel_rfl) (by kernel_rfl) (by kernel_rfl) (fun _ _ _ h => h) (yi_free rfl (fun u => rfl)) hHeld rfl ?_; (try simp only [Act.put, List.setIfInBounds_toArray, List.set_cons_zero, List.set_cons_succ]))
      (refine wa_take (i := 5) rfl (by kernel_rfl) (by kernel_rfl) (by kernel_rfl) (fun _ _ _ h => h) (yv_load rfl _ _ rfl rfl (fun u hu => run_load_blk arrLev.row hu ((icells_size _).trans LP.out))) hHeld rfl ?_; (try simp only [Act.put, List.setIfInBounds_toArray, List.set_cons_zero, List.set_cons_succ]))
      refine wpAnyH_ready (rs := [1, 3, 10]) (by kernel_rfl) (by simp) ?_; refine AllReadyH.cons rfl (fun K hK => ?_) (AllReadyH.cons rfl (fun K hK => ?_) (AllReadyH.cons rfl (fun K hK => ?_) (AllReadyH.nil)))
      · refine app_one rfl (.tmp 78) rfl rfl HB HR hn0 hn40 ?_
        intro ga ca u1 HB1 HO1 hb1
        clear hb1
        clear HB 
        have HB := HB1
        clear HB1
        have HO := HO1
        clear HO1
        refine hK.out _ _ (HP2.out _ HB.out) (fun hHeld => ?_)
        clear hK K
        (try simp only [Act.put, List.setIfInBounds_toArray, List.set_cons_zero, List.set_cons_succ])
        refine wpAnyH_ready (rs := [3, 10]) (by kernel_rfl) (by simp) ?_; refine AllReadyH.cons rfl (fun K hK => ?_) (AllReadyH.cons rfl (fun K hK => ?_) (AllReadyH.nil))
        · rw [if_pos (by rfl)]; go_simp
          have HB1 := Lib.hid (HB.out.alloc HB.out.size (.cells #[.int .u8 (more : Int)] 5))
          have HC1 := Lib.hid (show (World.alloc u1 (.cells #[.int .u8 (more : Int)] 5)).cell? ⟨u1.heap.size, 0, none⟩ = some (byteV more) from (Blk.new _ _ _).cell 0)
          have HO1 := Lib.hid (HO.out.alloc (.cells #[.int .u8 (more : Int)] 5))
          clear HB HO
          have HB := HB1
          clear HB1
          have HC := HC1
          clear HC1
          have HO := HO1
          clear HO1
          generalize World.alloc u1 _ = u2 at HB HC HO ⊢
          generalize u1.heap.size = gb at HC ⊢
          refine hK.out _ _ (HP2.out _ HB.out) (fun hHeld => ?_)
          clear hK K
          (try simp only [Act.put, List.setIfInBounds_toArray, List.set_cons_zero, List.set_cons_succ])
          refine wpAnyH_ready (rs := [4, 10]) (by kernel_rfl) (by simp) ?_; refine AllReadyH.cons rfl (fun K hK => ?_) (AllReadyH.cons rfl (fun K hK => ?_) (AllReadyH.nil))
          · refine app_two rfl (.tmp 79) (.tmp 81) rfl rfl rfl HB HO HC h256 HBL hn40 ?_
            intro gp cp u3 HB1 HRR1 hg
            clear hg
            clear HB HO HC
            have HB := HB1
            clear HB1
            have HRR := HRR1
            clear HRR1
            refine hK.out _ _ (HP2.out _ HB.out) (fun hHeld => ?_)
            clear hK K
            (try simp only [Act.put, List.setIfInBounds_toArray, List.set_cons_zero, List.set_cons_succ])
            refine wpAnyH_ready (rs := [6, 10]) (by kernel_rfl) (by simp) ?_; refine AllReadyH.cons rfl (fun K hK => ?_) (AllReadyH.cons rfl (fun K hK => ?_) (AllReadyH.nil))
            · rw [if_pos (by rfl)]; go_simp
              refine (fread_any (some ⟨gp, 0, none⟩) (n + 1) cp (bs ++ [more]) p _ HRR LP.out (HE.out.below (bl_next HM.out.1 HB.out))).mono ?_
              rw [HX.out]
              rintro e u4 ⟨rfl, hb⟩
              have HB1 := Lib.hid (bl_next HB.out hb)
              clear hb
              clear HB HRR
              have HB := HB1
              clear HB1
              go_wp2_with fail
              refine hK.out _ _ (HP2.out _ HB.out) (fun hHeld => ?_)
              clear hK K
              (try simp only [Act.put, List.setIfInBounds_toArray, List.set_cons_zero, List.set_cons_succ])
              (refine wa_take (i := 7) (v := .tuple #[.agg (icells X), .int .i64 E]) rfl (by kernel_rfl) (by kernel_rfl) (by kernel_rfl) (fun _ _ _ h => h) (yi_free rfl (fun u => rfl)) hHeld rfl ?_; (try simp only [Act.put, List.setIfInBounds_toArray, List.set_cons_zero, List.set_cons_succ]))
              (refine wa_take (i := 8) (v := .agg (icells X)) rfl (by kernel_rfl) (by kernel_rfl) (by kernel_rfl) (fun _ _ _ h => h) (yi_free rfl (fun u => rfl)) hHeld rfl ?_; (try simp only [Act.put, List.setIfInBounds_toArray, List.set_cons_zero, List.set_cons_succ]))
              (refine wa_take (i := 9) (v := .int .i64 E) rfl (by kernel_rfl) (by kernel_rfl) (by kernel_rfl) (fun _ _ _ h => h) (yi_free rfl (fun u => rfl)) hHeld rfl ?_; (try simp only [Act.put, List.setIfInBounds_toArray, List.set_cons_zero, List.set_cons_succ]))
              refine wpAnyH_ready (rs := [10]) (by kernel_rfl) (by simp) ?_; refine AllReadyH.cons rfl (fun K hK => ?_) (AllReadyH.nil)
              rw [if_pos (by rfl)]
              refine ov_alloc _ rfl rfl (by exact rowOf) (Lib.hid (HM.out.below HB.out)) ?_
              intro g4 u5 HM5 HW5 HG5
              have HF1 := Lib.hid (HM5.out.get (g := g4) (T := 26) (cs := icells (zr 23)) (by exact vmemOf))
              have HGC := Lib.hid (Nat.le_trans HB.out.size HG5.out)
              have HB1 := Lib.hid (bl_next HB.out HW5.out)
              clear HM5 HW5 HG5
              clear HB 
              have HB := HB1
              clear HB1
              have HF := HF1
              clear HF1
              refine hK.out _ _ (HP2.out _ HB.out) (fun hHeld => ?_)
              clear hK K
              (try simp only [Act.put, List.setIfInBounds_toArray, List.set_cons_zero, List.set_cons_succ])
              have HM2 := Lib.hid (MV.add (HM.out.below HB.out) HF.out (Nat.le_trans HM.out.1.size HGC.out) (fun e he => Nat.lt_of_lt_of_le (HM.out.2.1 e he).lt HGC.out))
              have HRu := Lib.hid (HR.out.below HB.out)
              have HA := Lib.hid (HM2.out.apt HRu.out (by intro e he; simp only [List.mem_cons, List.not_mem_nil, or_false] at he; rcases he with rfl | rfl | rfl | rfl <;> exact ⟨_, rfl⟩))
              clear HM HB HF HGC HR HP2 HX
              have HM := HM2
              clear HM2
              refine wpAnyH_ready (rs := [11]) (by kernel_rfl) (by simp) ?_; refine AllReadyH.cons rfl (fun K hK => ?_) (AllReadyH.nil)
              rw [if_pos (by rfl)]; refine ov_store _ _ _ rfl rfl rfl (by exact rowOf) HM (by exact vidxOf) (by exact vsizOf) (by exact vsizOf) (by exact voneOf) rfl ?_; clear HM; intro us HM; dsimp only [List.set] at HM
              refine hK.out _ _ (HM.out.get (by exact vmemOf)) (fun hHeld => ?_)
              clear hK K
              (try simp only [Act.put, List.setIfInBounds_toArray, List.set_cons_zero, List.set_cons_succ])
              (refine wa_take (i := 12) (v := .int .i64 E) rfl (by kernel_rfl) (by kernel_rfl) (by kernel_rfl) (fun _ _ _ h => h) (yi_free rfl (fun u => rfl)) hHeld rfl ?_; (try simp only [Act.put, List.setIfInBounds_toArray, List.set_cons_zero, List.set_cons_succ]))
              refine wpAnyH_done (by kernel_rfl) ?_ _
              go_wp2_with fail
              go_meet
              exact ⟨g4, rfl, rfl, Lib.hid ⟨HM.out.base, HM.out.rdA HRu.out HA.out⟩⟩
            · rw [if_pos (by rfl)]
              refine ov_alloc _ rfl rfl (by exact rowOf) (Lib.hid (HM.out.below HB.out)) ?_
              intro g4 u4 HM5 HW5 HG5
              have HF1 := Lib.hid (HM5.out.get (g := g4) (T := 26) (cs := icells (zr 23)) (by exact vmemOf))
              have HGC := Lib.hid (Nat.le_trans HB.out.size HG5.out)
              have HB1 := Lib.hid (bl_next HB.out HW5.out)
              have HRR1 := Lib.hid (HRR.out.below HW5.out)
              clear HM5 HW5 HG5
              clear HB HRR
              have HB := HB1
              clear HB1
              have HF := HF1
              clear HF1
              have HRR := HRR1
              clear HRR1
              refine hK.out _ _ (HP2.out _ HB.out) (fun hHeld => ?_)
              clear hK K
              (try simp only [Act.put, List.setIfInBounds_toArray, List.set_cons_zero, List.set_cons_succ])
              refine wpAnyH_ready (rs := [6]) (by kernel_rfl) (by simp) ?_; refine AllReadyH.cons rfl (fun K hK => ?_) (AllReadyH.nil)
              rw [if_pos (by rfl)]; go_simp
              refine (fread_any (some ⟨gp, 0, none⟩) (n + 1) cp (bs ++ [more]) p _ HRR LP.out (HE.out.below (bl_next HM.out.1 HB.out))).mono ?_
              rw [HX.out]
              rintro e u5 ⟨rfl, hb⟩
              have HB1 := Lib.hid (bl_next HB.out hb)
              have HF1 := Lib.hid (HF.out.below hb HF.out.lt)
              clear hb
              clear HB HRR HF
              have HB := HB1
              clear HB1
              have HF := HF1
              clear HF1
              go_wp2_with fail
              refine hK.out _ _ (HP2.out _ HB.out) (fun hHeld => ?_)
              clear hK K
              (try simp only [Act.put, List.setIfInBounds_toArray, List.set_cons_zero, List.set_cons_succ])
              (refine wa_take (i := 7) (v := .tuple #[.agg (icells X), .int .i64 E]) rfl (by kernel_rfl) (by kernel_rfl) (by kernel_rfl) (fun _ _ _ h => h) (yi_free rfl (fun u => rfl)) hHeld rfl ?_; (try simp only [Act.put, List.setIfInBounds_toArray, List.set_cons_zero, List.set_cons_succ]))
              (refine wa_take (i := 8) (v := .agg (icells X)) rfl (by kernel_rfl) (by kernel_rfl) (by kernel_rfl) (fun _ _ _ h => h) (yi_free rfl (fun u => rfl)) hHeld rfl ?_; (try simp only [Act.put, List.setIfInBounds_toArray, List.set_cons_zero, List.set_cons_succ]))
              (refine wa_take (i := 9) (v := .int .i64 E) rfl (by kernel_rfl) (by kernel_rfl) (by kernel_rfl) (fun _ _ _ h => h) (yi_free rfl (fun u => rfl)) hHeld rfl ?_; (try simp only [Act.put, List.setIfInBounds_toArray, List.set_cons_zero, List.set_cons_succ]))
              have HM2 := Lib.hid (MV.add (HM.out.below HB.out) HF.out (Nat.le_trans HM.out.1.size HGC.out) (fun e he => Nat.lt_of_lt_of_le (HM.out.2.1 e he).lt HGC.out))
              have HRu := Lib.hid (HR.out.below HB.out)
              have HA := Lib.hid (HM2.out.apt HRu.out (by intro e he; simp only [List.mem_cons, List.not_mem_nil, or_false] at he; rcases he with rfl | rfl | rfl | rfl <;> exact ⟨_, rfl⟩))
              clear HM HB HF HGC HR HP2 HX
              have HM := HM2
              clear HM2
              refine wpAnyH_ready (rs := [11]) (by kernel_rfl) (by simp) ?_; refine AllReadyH.cons rfl (fun K hK => ?_) (AllReadyH.nil)
              rw [if_pos (by rfl)]; refine ov_store _ _ _ rfl rfl rfl (by exact rowOf) HM (by exact vidxOf) (by exact vsizOf) (by exact vsizOf) (by exact voneOf) rfl ?_; clear HM; intro us HM; dsimp only [List.set] at HM
              refine hK.out _ _ (HM.out.get (by exact vmemOf)) (fun hHeld => ?_)
              clear hK K
              (try simp only [Act.put, List.setIfInBounds_toArray, List.set_cons_zero, List.set_cons_succ])
              (refine wa_take (i := 12) (v := .int .i64 E) rfl (by kernel_rfl) (by kernel_rfl) (by kernel_rfl) (fun _ _ _ h => h) (yi_free rfl (fun u => rfl)) hHeld rfl ?_; (try simp only [Act.put, List.setIfInBounds_toArray, List.set_cons_zero, List.set_cons_succ]))
              refine wpAnyH_done (by kernel_rfl) ?_ _
              go_wp2_with fail
              go_meet
              exact ⟨g4, rfl, rfl, Lib.hid ⟨HM.out.base, HM.out.rdA HRu.out HA.out⟩⟩
          · rw [if_pos (by rfl)]
            refine ov_alloc _ rfl rfl (by exact rowOf) (Lib.hid (HM.out.below HB.out)) ?_
            intro g4 u3 HM5 HW5 HG5
            have HF1 := Lib.hid (HM5.out.get (g := g4) (T := 26) (cs := icells (zr 23)) (by exact vmemOf))
            have HGC := Lib.hid (Nat.le_trans HB.out.size HG5.out)
            have HB1 := Lib.hid (bl_next HB.out HW5.out)
            have HO1 := Lib.hid (own_bel HO.out HW5.out)
            have HC1 := Lib.hid ((HW5.out.cell (World.block_lt_of_cell? _ _ HC.out)).trans HC.out)
            clear HM5 HW5 HG5
            clear HB HO HC
            have HB := HB1
            clear HB1
            have HF := HF1
            clear HF1
            have HO := HO1
            clear HO1
            have HC := HC1
            clear HC1
            refine hK.out _ _ (HP2.out _ HB.out) (fun hHeld => ?_)
            clear hK K
            (try simp only [Act.put, List.setIfInBounds_toArray, List.set_cons_zero, List.set_cons_succ])
            refine wpAnyH_ready (rs := [4]) (by kernel_rfl) (by simp) ?_; refine AllReadyH.cons rfl (fun K hK => ?_) (AllReadyH.nil)
            refine app_two rfl (.tmp 79) (.tmp 81) rfl rfl rfl HB HO HC h256 HBL hn40 ?_
            intro gp cp u4 HB1 HRR1 hg
            have HF1 := Lib.hid (blk_own HF.out (by decide) HO.out hg.out)
            clear hg
            clear HB HO HC HF
            have HB := HB1
            clear HB1
            have HRR := HRR1
            clear HRR1
            have HF := HF1
            clear HF1
            refine hK.out _ _ (HP2.out _ HB.out) (fun hHeld => ?_)
            clear hK K
            (try simp only [Act.put, List.setIfInBounds_toArray, List.set_cons_zero, List.set_cons_succ])
            refine wpAnyH_ready (rs := [6]) (by kernel_rfl) (by simp) ?_; refine AllReadyH.cons rfl (fun K hK => ?_) (AllReadyH.nil)
            rw [if_pos (by rfl)]; go_simp
            refine (fread_any (some ⟨gp, 0, none⟩) (n + 1) cp (bs ++ [more]) p _ HRR LP.out (HE.out.below (bl_next HM.out.1 HB.out))).mono ?_
            rw [HX.out]
            rintro e u5 ⟨rfl, hb⟩
            have HB1 := Lib.hid (bl_next HB.out hb)
            have HF1 := Lib.hid (HF.out.below hb HF.out.lt)
            clear hb
            clear HB HRR HF
            have HB := HB1
            clear HB1
            have HF := HF1
            clear HF1
            go_wp2_with fail
            refine hK.out _ _ (HP2.out _ HB.out) (fun hHeld => ?_)
            clear hK K
            (try simp only [Act.put, List.setIfInBounds_toArray, List.set_cons_zero, List.set_cons_succ])
            (refine wa_take (i := 7) (v := .tuple #[.agg (icells X), .int .i64 E]) rfl (by kernel_rfl) (by kernel_rfl) (by kernel_rfl) (fun _ _ _ h => h) (yi_free rfl (fun u => rfl)) hHeld rfl ?_; (try simp only [Act.put, List.setIfInBounds_toArray, List.set_cons_zero, List.set_cons_succ]))
            (refine wa_take (i := 8) (v := .agg (icells X)) rfl (by kernel_rfl) (by kernel_rfl) (by kernel_rfl) (fun _ _ _ h => h) (yi_free rfl (fun u => rfl)) hHeld rfl ?_; (try simp only [Act.put, List.setIfInBounds_toArray, List.set_cons_zero, List.set_cons_succ]))
            (refine wa_take (i := 9) (v := .int .i64 E) rfl (by kernel_rfl) (by kernel_rfl) (by kernel_rfl) (fun _ _ _ h => h) (yi_free rfl (fun u => rfl)) hHeld rfl ?_; (try simp only [Act.put, List.setIfInBounds_toArray, List.set_cons_zero, List.set_cons_succ]))
            have HM2 := Lib.hid (MV.add (HM.out.below HB.out) HF.out (Nat.le_trans HM.out.1.size HGC.out) (fun e he => Nat.lt_of_lt_of_le (HM.out.2.1 e he).lt HGC.out))
            have HRu := Lib.hid (HR.out.below HB.out)
            have HA := Lib.hid (HM2.out.apt HRu.out (by intro e he; simp only [List.mem_cons, List.not_mem_nil, or_false] at he; rcases he with rfl | rfl | rfl | rfl <;> exact ⟨_, rfl⟩))
            clear HM HB HF HGC HR HP2 HX
            have HM := HM2
            clear HM2
            refine wpAnyH_ready (rs := [11]) (by kernel_rfl) (by simp) ?_; refine AllReadyH.cons rfl (fun K hK => ?_) (AllReadyH.nil)
            rw [if_pos (by rfl)]; refine ov_store _ _ _ rfl rfl rfl (by exact rowOf) HM (by exact vidxOf) (by exact vsizOf) (by exact vsizOf) (by exact voneOf) rfl ?_; clear HM; intro us HM; dsimp only [List.set] at HM
            refine hK.out _ _ (HM.out.get (by exact vmemOf)) (fun hHeld => ?_)
            clear hK K
            (try simp only [Act.put, List.setIfInBounds_toArray, List.set_cons_zero, List.set_cons_succ])
            (refine wa_take (i := 12) (v := .int .i64 E) rfl (by kernel_rfl) (by kernel_rfl) (by kernel_rfl) (fun _ _ _ h => h) (yi_free rfl (fun u => rfl)) hHeld rfl ?_; (try simp only [Act.put, List.setIfInBounds_toArray, List.set_cons_zero, List.set_cons_succ]))
            refine wpAnyH_done (by kernel_rfl) ?_ _
            go_wp2_with fail
            go_meet
            exact ⟨g4, rfl, rfl, Lib.hid ⟨HM.out.base, HM.out.rdA HRu.out HA.out⟩⟩
        · rw [if_pos (by rfl)]
          refine ov_alloc _ rfl rfl (by exact rowOf) (Lib.hid (HM.out.below HB.out)) ?_
          intro g4 u2 HM5 HW5 HG5
          have HF1 := Lib.hid (HM5.out.get (g := g4) (T := 26) (cs := icells (zr 23)) (by exact vmemOf))
          have HGC := Lib.hid (Nat.le_trans HB.out.size HG5.out)
          have HB1 := Lib.hid (bl_next HB.out HW5.out)
          have HO1 := Lib.hid (own_bel HO.out HW5.out)
          clear HM5 HW5 HG5
          clear HB HO
          have HB := HB1
          clear HB1
          have HF := HF1
          clear HF1
          have HO := HO1
          clear HO1
          refine hK.out _ _ (HP2.out _ HB.out) (fun hHeld => ?_)
          clear hK K
          (try simp only [Act.put, List.setIfInBounds_toArray, List.set_cons_zero, List.set_cons_succ])
          refine wpAnyH_ready (rs := [3]) (by kernel_rfl) (by simp) ?_; refine AllReadyH.cons rfl (fun K hK => ?_) (AllReadyH.nil)
          rw [if_pos (by rfl)]; go_simp
          have HB1 := Lib.hid (HB.out.alloc HB.out.size (.cells #[.int .u8 (more : Int)] 5))
          have HC1 := Lib.hid (show (World.alloc u2 (.cells #[.int .u8 (more : Int)] 5)).cell? ⟨u2.heap.size, 0, none⟩ = some (byteV more) from (Blk.new _ _ _).cell 0)
          have HO1 := Lib.hid (HO.out.alloc (.cells #[.int .u8 (more : Int)] 5))
          have HF1 := Lib.hid (HF.out.alloc (.cells #[.int .u8 (more : Int)] 5))
          clear HB HO HF
          have HB := HB1
          clear HB1
          have HC := HC1
          clear HC1
          have HO := HO1
          clear HO1
          have HF := HF1
          clear HF1
          generalize World.alloc u2 _ = u3 at HB HC HO HF ⊢
          generalize u2.heap.size = gb at HC ⊢
          refine hK.out _ _ (HP2.out _ HB.out) (fun hHeld => ?_)
          clear hK K
          (try simp only [Act.put, List.setIfInBounds_toArray, List.set_cons_zero, List.set_cons_succ])
          refine wpAnyH_ready (rs := [4]) (by kernel_rfl) (by simp) ?_; refine AllReadyH.cons rfl (fun K hK => ?_) (AllReadyH.nil)
          refine app_two rfl (.tmp 79) (.tmp 81) rfl rfl rfl HB HO HC h256 HBL hn40 ?_
          intro gp cp u4 HB1 HRR1 hg
          have HF1 := Lib.hid (blk_own HF.out (by decide) HO.out hg.out)
          clear hg
          clear HB HO HC HF
          have HB := HB1
          clear HB1
          have HRR := HRR1
          clear HRR1
          have HF := HF1
          clear HF1
          refine hK.out _ _ (HP2.out _ HB.out) (fun hHeld => ?_)
          clear hK K
          (try simp only [Act.put, List.setIfInBounds_toArray, List.set_cons_zero, List.set_cons_succ])
          refine wpAnyH_ready (rs := [6]) (by kernel_rfl) (by simp) ?_; refine AllReadyH.cons rfl (fun K hK => ?_) (AllReadyH.nil)
          rw [if_pos (by rfl)]; go_simp
          refine (fread_any (some ⟨gp, 0, none⟩) (n + 1) cp (bs ++ [more]) p _ HRR LP.out (HE.out.below (bl_next HM.out.1 HB.out))).mono ?_
          rw [HX.out]
          rintro e u5 ⟨rfl, hb⟩
          have HB1 := Lib.hid (bl_next HB.out hb)
          have HF1 := Lib.hid (HF.out.below hb HF.out.lt)
          clear hb
          clear HB HRR HF
          have HB := HB1
          clear HB1
          have HF := HF1
          clear HF1
          go_wp2_with fail
          refine hK.out _ _ (HP2.out _ HB.out) (fun hHeld => ?_)
          clear hK K
          (try simp only [Act.put, List.setIfInBounds_toArray, List.set_cons_zero, List.set_cons_succ])
          (refine wa_take (i := 7) (v := .tuple #[.agg (icells X), .int .i64 E]) rfl (by kernel_rfl) (by kernel_rfl) (by kernel_rfl) (fun _ _ _ h => h) (yi_free rfl (fun u => rfl)) hHeld rfl ?_; (try simp only [Act.put, List.setIfInBounds_toArray, List.set_cons_zero, List.set_cons_succ]))
          (refine wa_take (i := 8) (v := .agg (icells X)) rfl (by kernel_rfl) (by kernel_rfl) (by kernel_rfl) (fun _ _ _ h => h) (yi_free rfl (fun u => rfl)) hHeld rfl ?_; (try simp only [Act.put, List.setIfInBounds_toArray, List.set_cons_zero, List.set_cons_succ]))
          (refine wa_take (i := 9) (v := .int .i64 E) rfl (by kernel_rfl) (by kernel_rfl) (by kernel_rfl) (fun _ _ _ h => h) (yi_free rfl (fun u => rfl)) hHeld rfl ?_; (try simp only [Act.put, List.setIfInBounds_toArray, List.set_cons_zero, List.set_cons_succ]))
          have HM2 := Lib.hid (MV.add (HM.out.below HB.out) HF.out (Nat.le_trans HM.out.1.size HGC.out) (fun e he => Nat.lt_of_lt_of_le (HM.out.2.1 e he).lt HGC.out))
          have HRu := Lib.hid (HR.out.below HB.out)
          have HA := Lib.hid (HM2.out.apt HRu.out (by intro e he; simp only [List.mem_cons, List.not_mem_nil, or_false] at he; rcases he with rfl | rfl | rfl | rfl <;> exact ⟨_, rfl⟩))
          clear HM HB HF HGC HR HP2 HX
          have HM := HM2
          clear HM2
          refine wpAnyH_ready (rs := [11]) (by kernel_rfl) (by simp) ?_; refine AllReadyH.cons rfl (fun K hK => ?_) (AllReadyH.nil)
          rw [if_pos (by rfl)]; refine ov_store _ _ _ rfl rfl rfl (by exact rowOf) HM (by exact vidxOf) (by exact vsizOf) (by exact vsizOf) (by exact voneOf) rfl ?_; clear HM; intro us HM; dsimp only [List.set] at HM
          refine hK.out _ _ (HM.out.get (by exact vmemOf)) (fun hHeld => ?_)
          clear hK K
          (try simp only [Act.put, List.setIfInBounds_toArray, List.set_cons_zero, List.set_cons_succ])
          (refine wa_take (i := 12) (v := .int .i64 E) rfl (by kernel_rfl) (by kernel_rfl) (by kernel_rfl) (fun _ _ _ h => h) (yi_free rfl (fun u => rfl)) hHeld rfl ?_; (try simp only [Act.put, List.setIfInBounds_toArray, List.set_cons_zero, List.set_cons_succ]))
          refine wpAnyH_done (by kernel_rfl) ?_ _
          go_wp2_with fail
          go_meet
          exact ⟨g4, rfl, rfl, Lib.hid ⟨HM.out.base, HM.out.rdA HRu.out HA.out⟩⟩
      · rw [if_pos (by rfl)]; go_simp
        have HB1 := Lib.hid (HB.out.alloc HB.out.size (.cells #[.int .u8 (more : Int)] 5))
        have HC1 := Lib.hid (show (World.alloc u0 (.cells #[.int .u8 (more : Int)] 5)).cell? ⟨u0.heap.size, 0, none⟩ = some (byteV more) from (Blk.new _ _ _).cell 0)
        clear HB 
        have HB := HB1
        clear HB1
        have HC := HC1
        clear HC1
        generalize World.alloc u0 _ = u1 at HB HC ⊢
        generalize u0.heap.size = gb at HC ⊢
        refine hK.out _ _ (HP2.out _ HB.out) (fun hHeld => ?_)
        clear hK K
        (try simp only [Act.put, List.setIfInBounds_toArray, List.set_cons_zero, List.set_cons_succ])
        refine wpAnyH_ready (rs := [1, 10]) (by kernel_rfl) (by simp) ?_; refine AllReadyH.cons rfl (fun K hK => ?_) (AllReadyH.cons rfl (fun K hK => ?_) (AllReadyH.nil))
        · refine app_one rfl (.tmp 78) rfl rfl HB HR hn0 hn40 ?_
          intro ga ca u2 HB1 HO1 hb1
          have HC1 := Lib.hid ((hb1.out.cell (World.block_lt_of_cell? _ _ HC.out)).trans HC.out)
          clear hb1
          clear HB HC
          have HB := HB1
          clear HB1
          have HO := HO1
          clear HO1
          have HC := HC1
          clear HC1
          refine hK.out _ _ (HP2.out _ HB.out) (fun hHeld => ?_)
          clear hK K
          (try simp only [Act.put, List.setIfInBounds_toArray, List.set_cons_zero, List.set_cons_succ])
          refine wpAnyH_ready (rs := [4, 10]) (by kernel_rfl) (by simp) ?_; refine AllReadyH.cons rfl (fun K hK => ?_) (AllReadyH.cons rfl (fun K hK => ?_) (AllReadyH.nil))
          · refine app_two rfl (.tmp 79) (.tmp 81) rfl rfl rfl HB HO HC h256 HBL hn40 ?_
            intro gp cp u3 HB1 HRR1 hg
            clear hg
            clear HB HO HC
            have HB := HB1
            clear HB1
            have HRR := HRR1
            clear HRR1
            refine hK.out _ _ (HP2.out _ HB.out) (fun hHeld => ?_)
            clear hK K
            (try simp only [Act.put, List.setIfInBounds_toArray, List.set_cons_zero, List.set_cons_succ])
            refine wpAnyH_ready (rs := [6, 10]) (by kernel_rfl) (by simp) ?_; refine AllReadyH.cons rfl (fun K hK => ?_) (AllReadyH.cons rfl (fun K hK => ?_) (AllReadyH.nil))
            · rw [if_pos (by rfl)]; go_simp
              refine (fread_any (some ⟨gp, 0, none⟩) (n + 1) cp (bs ++ [more]) p _ HRR LP.out (HE.out.below (bl_next HM.out.1 HB.out))).mono ?_
              rw [HX.out]
              rintro e u4 ⟨rfl, hb⟩
              have HB1 := Lib.hid (bl_next HB.out hb)
              clear hb
              clear HB HRR
              have HB := HB1
              clear HB1
              go_wp2_with fail
              refine hK.out _ _ (HP2.out _ HB.out) (fun hHeld => ?_)
              clear hK K
              (try simp only [Act.put, List.setIfInBounds_toArray, List.set_cons_zero, List.set_cons_succ])
              (refine wa_take (i := 7) (v := .tuple #[.agg (icells X), .int .i64 E]) rfl (by kernel_rfl) (by kernel_rfl) (by kernel_rfl) (fun _ _ _ h => h) (yi_free rfl (fun u => rfl)) hHeld rfl ?_; (try simp only [Act.put, List.setIfInBounds_toArray, List.set_cons_zero, List.set_cons_succ]))
              (refine wa_take (i := 8) (v := .agg (icells X)) rfl (by kernel_rfl) (by kernel_rfl) (by kernel_rfl) (fun _ _ _ h => h) (yi_free rfl (fun u => rfl)) hHeld rfl ?_; (try simp only [Act.put, List.setIfInBounds_toArray, List.set_cons_zero, List.set_cons_succ]))
              (refine wa_take (i := 9) (v := .int .i64 E) rfl (by kernel_rfl) (by kernel_rfl) (by kernel_rfl) (fun _ _ _ h => h) (yi_free rfl (fun u => rfl)) hHeld rfl ?_; (try simp only [Act.put, List.setIfInBounds_toArray, List.set_cons_zero, List.set_cons_succ]))
              refine wpAnyH_ready (rs := [10]) (by kernel_rfl) (by simp) ?_; refine AllReadyH.cons rfl (fun K hK => ?_) (AllReadyH.nil)
              rw [if_pos (by rfl)]
              refine ov_alloc _ rfl rfl (by exact rowOf) (Lib.hid (HM.out.below HB.out)) ?_
              intro g4 u5 HM5 HW5 HG5
              have HF1 := Lib.hid (HM5.out.get (g := g4) (T := 26) (cs := icells (zr 23)) (by exact vmemOf))
              have HGC := Lib.hid (Nat.le_trans HB.out.size HG5.out)
              have HB1 := Lib.hid (bl_next HB.out HW5.out)
              clear HM5 HW5 HG5
              clear HB 
              have HB := HB1
              clear HB1
              have HF := HF1
              clear HF1
              refine hK.out _ _ (HP2.out _ HB.out) (fun hHeld => ?_)
              clear hK K
              (try simp only [Act.put, List.setIfInBounds_toArray, List.set_cons_zero, List.set_cons_succ])
              have HM2 := Lib.hid (MV.add (HM.out.below HB.out) HF.out (Nat.le_trans HM.out.1.size HGC.out) (fun e he => Nat.lt_of_lt_of_le (HM.out.2.1 e he).lt HGC.out))
              have HRu := Lib.hid (HR.out.below HB.out)
              have HA := Lib.hid (HM2.out.apt HRu.out (by intro e he; simp only [List.mem_cons, List.not_mem_nil, or_false] at he; rcases he with rfl | rfl | rfl | rfl <;> exact ⟨_, rfl⟩))
              clear HM HB HF HGC HR HP2 HX
              have HM := HM2
              clear HM2
              refine wpAnyH_ready (rs := [11]) (by kernel_rfl) (by simp) ?_; refine AllReadyH.cons rfl (fun K hK => ?_) (AllReadyH.nil)
              rw [if_pos (by rfl)]; refine ov_store _ _ _ rfl rfl rfl (by exact rowOf) HM (by exact vidxOf) (by exact vsizOf) (by exact vsizOf) (by exact voneOf) rfl ?_; clear HM; intro us HM; dsimp only [List.set] at HM
              refine hK.out _ _ (HM.out.get (by exact vmemOf)) (fun hHeld => ?_)
              clear hK K
              (try simp only [Act.put, List.setIfInBounds_toArray, List.set_cons_zero, List.set_cons_succ])
              (refine wa_take (i := 12) (v := .int .i64 E) rfl (by kernel_rfl) (by kernel_rfl) (by kernel_rfl) (fun _ _ _ h => h) (yi_free rfl (fun u => rfl)) hHeld rfl ?_; (try simp only [Act.put, List.setIfInBounds_toArray, List.set_cons_zero, List.set_cons_succ]))
              refine wpAnyH_done (by kernel_rfl) ?_ _
              go_wp2_with fail
              go_meet
              exact ⟨g4, rfl, rfl, Lib.hid ⟨HM.out.base, HM.out.rdA HRu.out HA.out⟩⟩
            · rw [if_pos (by rfl)]
              refine ov_alloc _ rfl rfl (by exact rowOf) (Lib.hid (HM.out.below HB.out)) ?_
              intro g4 u4 HM5 HW5 HG5
              have HF1 := Lib.hid (HM5.out.get (g := g4) (T := 26) (cs := icells (zr 23)) (by exact vmemOf))
              have HGC := Lib.hid (Nat.le_trans HB.out.size HG5.out)
              have HB1 := Lib.hid (bl_next HB.out HW5.out)
              have HRR1 := Lib.hid (HRR.out.below HW5.out)
              clear HM5 HW5 HG5
              clear HB HRR
              have HB := HB1
              clear HB1
              have HF := HF1
              clear HF1
              have HRR := HRR1
              clear HRR1
              refine hK.out _ _ (HP2.out _ HB.out) (fun hHeld => ?_)
              clear hK K
              (try simp only [Act.put, List.setIfInBounds_toArray, List.set_cons_zero, List.set_cons_succ])
              refine wpAnyH_ready (rs := [6]) (by kernel_rfl) (by simp) ?_; refine AllReadyH.cons rfl (fun K hK => ?_) (AllReadyH.nil)
              rw [if_pos (by rfl)]; go_simp
              refine (fread_any (some ⟨gp, 0, none⟩) (n + 1) cp (bs ++ [more]) p _ HRR LP.out (HE.out.below (bl_next HM.out.1 HB.out))).mono ?_
              rw [HX.out]
              rintro e u5 ⟨rfl, hb⟩
              have HB1 := Lib.hid (bl_next HB.out hb)
              have HF1 := Lib.hid (HF.out.below hb HF.out.lt)
              clear hb
              clear HB HRR HF
              have HB := HB1
              clear HB1
              have HF := HF1
              clear HF1
              go_wp2_with fail
              refine hK.out _ _ (HP2.out _ HB.out) (fun hHeld => ?_)
              clear hK K
              (try simp only [Act.put, List.setIfInBounds_toArray, List.set_cons_zero, List.set_cons_succ])
              (refine wa_take (i := 7) (v := .tuple #[.agg (icells X), .int .i64 E]) rfl (by kernel_rfl) (by kernel_rfl) (by kernel_rfl) (fun _ _ _ h => h) (yi_free rfl (fun u => rfl)) hHeld rfl ?_; (try simp only [Act.put, List.setIfInBounds_toArray, List.set_cons_zero, List.set_cons_succ]))
              (refine wa_take (i := 8) (v := .agg (icells X)) rfl (by kernel_rfl) (by kernel_rfl) (by kernel_rfl) (fun _ _ _ h => h) (yi_free rfl (fun u => rfl)) hHeld rfl ?_; (try simp only [Act.put, List.setIfInBounds_toArray, List.set_cons_zero, List.set_cons_succ]))
              (refine wa_take (i := 9) (v := .int .i64 E) rfl (by kernel_rfl) (by kernel_rfl) (by kernel_rfl) (fun _ _ _ h => h) (yi_free rfl (fun u => rfl)) hHeld rfl ?_; (try simp only [Act.put, List.setIfInBounds_toArray, List.set_cons_zero, List.set_cons_succ]))
              have HM2 := Lib.hid (MV.add (HM.out.below HB.out) HF.out (Nat.le_trans HM.out.1.size HGC.out) (fun e he => Nat.lt_of_lt_of_le (HM.out.2.1 e he).lt HGC.out))
              have HRu := Lib.hid (HR.out.below HB.out)
              have HA := Lib.hid (HM2.out.apt HRu.out (by intro e he; simp only [List.mem_cons, List.not_mem_nil, or_false] at he; rcases he with rfl | rfl | rfl | rfl <;> exact ⟨_, rfl⟩))
              clear HM HB HF HGC HR HP2 HX
              have HM := HM2
              clear HM2
              refine wpAnyH_ready (rs := [11]) (by kernel_rfl) (by simp) ?_; refine AllReadyH.cons rfl (fun K hK => ?_) (AllReadyH.nil)
              rw [if_pos (by rfl)]; refine ov_store _ _ _ rfl rfl rfl (by exact rowOf) HM (by exact vidxOf) (by exact vsizOf) (by exact vsizOf) (by exact voneOf) rfl ?_; clear HM; intro us HM; dsimp only [List.set] at HM
              refine hK.out _ _ (HM.out.get (by exact vmemOf)) (fun hHeld => ?_)
              clear hK K
              (try simp only [Act.put, List.setIfInBounds_toArray, List.set_cons_zero, List.set_cons_succ])
              (refine wa_take (i := 12) (v := .int .i64 E) rfl (by kernel_rfl) (by kernel_rfl) (by kernel_rfl) (fun _ _ _ h => h) (yi_free rfl (fun u => rfl)) hHeld rfl ?_; (try simp only [Act.put, List.setIfInBounds_toArray, List.set_cons_zero, List.set_cons_succ]))
              refine wpAnyH_done (by kernel_rfl) ?_ _
              go_wp2_with fail
              go_meet
              exact ⟨g4, rfl, rfl, Lib.hid ⟨HM.out.base, HM.out.rdA HRu.out HA.out⟩⟩
          · rw [if_pos (by rfl)]
            refine ov_alloc _ rfl rfl (by exact rowOf) (Lib.hid (HM.out.below HB.out)) ?_
            intro g4 u3 HM5 HW5 HG5
            have HF1 := Lib.hid (HM5.out.get (g := g4) (T := 26) (cs := icells (zr 23)) (by exact vmemOf))
            have HGC := Lib.hid (Nat.le_trans HB.out.size HG5.out)
            have HB1 := Lib.hid (bl_next HB.out HW5.out)
            have HO1 := Lib.hid (own_bel HO.out HW5.out)
            have HC1 := Lib.hid ((HW5.out.cell (World.block_lt_of_cell? _ _ HC.out)).trans HC.out)
            clear HM5 HW5 HG5
            clear HB HO HC
            have HB := HB1
            clear HB1
            have HF := HF1
            clear HF1
            have HO := HO1
            clear HO1
            have HC := HC1
            clear HC1
            refine hK.out _ _ (HP2.out _ HB.out) (fun hHeld => ?_)
            clear hK K
            (try simp only [Act.put, List.setIfInBounds_toArray, List.set_cons_zero, List.set_cons_succ])
            refine wpAnyH_ready (rs := [4]) (by kernel_rfl) (by simp) ?_; refine AllReadyH.cons rfl (fun K hK => ?_) (AllReadyH.nil)
            refine app_two rfl (.tmp 79) (.tmp 81) rfl rfl rfl HB HO HC h256 HBL hn40 ?_
            intro gp cp u4 HB1 HRR1 hg
            have HF1 := Lib.hid (blk_own HF.out (by decide) HO.out hg.out)
            clear hg
            clear HB HO HC HF
            have HB := HB1
            clear HB1
            have HRR := HRR1
            clear HRR1
            have HF := HF1
            clear HF1
            refine hK.out _ _ (HP2.out _ HB.out) (fun hHeld => ?_)
            clear hK K
            (try simp only [Act.put, List.setIfInBounds_toArray, List.set_cons_zero, List.set_cons_succ])
            refine wpAnyH_ready (rs := [6]) (by kernel_rfl) (by simp) ?_; refine AllReadyH.cons rfl (fun K hK => ?_) (AllReadyH.nil)
            rw [if_pos (by rfl)]; go_simp
            refine (fread_any (some ⟨gp, 0, none⟩) (n + 1) cp (bs ++ [more]) p _ HRR LP.out (HE.out.below (bl_next HM.out.1 HB.out))).mono ?_
            rw [HX.out]
            rintro e u5 ⟨rfl, hb⟩
            have HB1 := Lib.hid (bl_next HB.out hb)
            have HF1 := Lib.hid (HF.out.below hb HF.out.lt)
            clear hb
            clear HB HRR HF
            have HB := HB1
            clear HB1
            have HF := HF1
            clear HF1
            go_wp2_with fail
            refine hK.out _ _ (HP2.out _ HB.out) (fun hHeld => ?_)
            clear hK K
            (try simp only [Act.put, List.setIfInBounds_toArray, List.set_cons_zero, List.set_cons_succ])
            (refine wa_take (i := 7) (v := .tuple #[.agg (icells X), .int .i64 E]) rfl (by kernel_rfl) (by kernel_rfl) (by kernel_rfl) (fun _ _ _ h => h) (yi_free rfl (fun u => rfl)) hHeld rfl ?_; (try simp only [Act.put, List.setIfInBounds_toArray, List.set_cons_zero, List.set_cons_succ]))
            (refine wa_take (i := 8) (v := .agg (icells X)) rfl (by kernel_rfl) (by kernel_rfl) (by kernel_rfl) (fun _ _ _ h => h) (yi_free rfl (fun u => rfl)) hHeld rfl ?_; (try simp only [Act.put, List.setIfInBounds_toArray, List.set_cons_zero, List.set_cons_succ]))
            (refine wa_take (i := 9) (v := .int .i64 E) rfl (by kernel_rfl) (by kernel_rfl) (by kernel_rfl) (fun _ _ _ h => h) (yi_free rfl (fun u => rfl)) hHeld rfl ?_; (try simp only [Act.put, List.setIfInBounds_toArray, List.set_cons_zero, List.set_cons_succ]))
            have HM2 := Lib.hid (MV.add (HM.out.below HB.out) HF.out (Nat.le_trans HM.out.1.size HGC.out) (fun e he => Nat.lt_of_lt_of_le (HM.out.2.1 e he).lt HGC.out))
            have HRu := Lib.hid (HR.out.below HB.out)
            have HA := Lib.hid (HM2.out.apt HRu.out (by intro e he; simp only [List.mem_cons, List.not_mem_nil, or_false] at he; rcases he with rfl | rfl | rfl | rfl <;> exact ⟨_, rfl⟩))
            clear HM HB HF HGC HR HP2 HX
            have HM := HM2
            clear HM2
            refine wpAnyH_ready (rs := [11]) (by kernel_rfl) (by simp) ?_; refine AllReadyH.cons rfl (fun K hK => ?_) (AllReadyH.nil)
            rw [if_pos (by rfl)]; refine ov_store _ _ _ rfl rfl rfl (by exact rowOf) HM (by exact vidxOf) (by exact vsizOf) (by exact vsizOf) (by exact voneOf) rfl ?_; clear HM; intro us HM; dsimp only [List.set] at HM
            refine hK.out _ _ (HM.out.get (by exact vmemOf)) (fun hHeld => ?_)
            clear hK K
            (try simp only [Act.put, List.setIfInBounds_toArray, List.set_cons_zero, List.set_cons_succ])
            (refine wa_take (i := 12) (v := .int .i64 E) rfl (by kernel_rfl) (by kernel_rfl) (by kernel_rfl) (fun _ _ _ h => h) (yi_free rfl (fun u => rfl)) hHeld rfl ?_; (try simp only [Act.put, List.setIfInBounds_toArray, List.set_cons_zero, List.set_cons_succ]))
            refine wpAnyH_done (by kernel_rfl) ?_ _
            go_wp2_with fail
            go_meet
            exact ⟨g4, rfl, rfl, Lib.hid ⟨HM.out.base, HM.out.rdA HRu.out HA.out⟩⟩
        · rw [if_pos (by rfl)]
          refine ov_alloc _ rfl rfl (by exact rowOf) (Lib.hid (HM.out.below HB.out)) ?_
          intro g4 u2 HM5 HW5 HG5
          have HF1 := Lib.hid (HM5.out.get (g := g4) (T := 26) (cs := icells (zr 23)) (by exact vmemOf))
          have HGC := Lib.hid (Nat.le_trans HB.out.size HG5.out)
          have HB1 := Lib.hid (bl_next HB.out HW5.out)
          have HC1 := Lib.hid ((HW5.out.cell (World.block_lt_of_cell? _ _ HC.out)).trans HC.out)
          clear HM5 HW5 HG5
          clear HB HC
          have HB := HB1
          clear HB1
          have HF := HF1
          clear HF1
          have HC := HC1
          clear HC1
          refine hK.out _ _ (HP2.out _ HB.out) (fun hHeld => ?_)
          clear hK K
          (try simp only [Act.put, List.setIfInBounds_toArray, List.set_cons_zero, List.set_cons_succ])
          refine wpAnyH_ready (rs := [1]) (by kernel_rfl) (by simp) ?_; refine AllReadyH.cons rfl (fun K hK => ?_) (AllReadyH.nil)
          refine app_one rfl (.tmp 78) rfl rfl HB HR hn0 hn40 ?_
          intro ga ca u3 HB1 HO1 hb1
          have HC1 := Lib.hid ((hb1.out.cell (World.block_lt_of_cell? _ _ HC.out)).trans HC.out)
          have HF1 := Lib.hid (HF.out.below hb1.out HF.out.lt)
          clear hb1
          clear HB HC HF
          have HB := HB1
          clear HB1
          have HO := HO1
          clear HO1
          have HC := HC1
          clear HC1
          have HF := HF1
          clear HF1
          refine hK.out _ _ (HP2.out _ HB.out) (fun hHeld => ?_)
          clear hK K
          (try simp only [Act.put, List.setIfInBounds_toArray, List.set_cons_zero, List.set_cons_succ])
          refine wpAnyH_ready (rs := [4]) (by kernel_rfl) (by simp) ?_; refine AllReadyH.cons rfl (fun K hK => ?_) (AllReadyH.nil)
          refine app_two rfl (.tmp 79) (.tmp 81) rfl rfl rfl HB HO HC h256 HBL hn40 ?_
          intro gp cp u4 HB1 HRR1 hg
          have HF1 := Lib.hid (blk_own HF.out (by decide) HO.out hg.out)
          clear hg
          clear HB HO HC HF
          have HB := HB1
          clear HB1
          have HRR := HRR1
          clear HRR1
          have HF := HF1
          clear HF1
          refine hK.out _ _ (HP2.out _ HB.out) (fun hHeld => ?_)
          clear hK K
          (try simp only [Act.put, List.setIfInBounds_toArray, List.set_cons_zero, List.set_cons_succ])
          refine wpAnyH_ready (rs := [6]) (by kernel_rfl) (by simp) ?_; refine AllReadyH.cons rfl (fun K hK => ?_) (AllReadyH.nil)
          rw [if_pos (by rfl)]; go_simp
          refine (fread_any (some ⟨gp, 0, none⟩) (n + 1) cp (bs ++ [more]) p _ HRR LP.out (HE.out.below (bl_next HM.out.1 HB.out))).mono ?_
          rw [HX.out]
          rintro e u5 ⟨rfl, hb⟩
          have HB1 := Lib.hid (bl_next HB.out hb)
          have HF1 := Lib.hid (HF.out.below hb HF.out.lt)
          clear hb
          clear HB HRR HF
          have HB := HB1
          clear HB1
          have HF := HF1
          clear HF1
          go_wp2_with fail
          refine hK.out _ _ (HP2.out _ HB.out) (fun hHeld => ?_)
          clear hK K
          (try simp only [Act.put, List.setIfInBounds_toArray, List.set_cons_zero, List.set_cons_succ])
          (refine wa_take (i := 7) (v := .tuple #[.agg (icells X), .int .i64 E]) rfl (by kernel_rfl) (by kernel_rfl) (by kernel_rfl) (fun _ _ _ h => h) (yi_free rfl (fun u => rfl)) hHeld rfl ?_; (try simp only [Act.put, List.setIfInBounds_toArray, List.set_cons_zero, List.set_cons_succ]))
          (refine wa_take (i := 8) (v := .agg (icells X)) rfl (by kernel_rfl) (by kernel_rfl) (by kernel_rfl) (fun _ _ _ h => h) (yi_free rfl (fun u => rfl)) hHeld rfl ?_; (try simp only [Act.put, List.setIfInBounds_toArray, List.set_cons_zero, List.set_cons_succ]))
          (refine wa_take (i := 9) (v := .int .i64 E) rfl (by kernel_rfl) (by kernel_rfl) (by kernel_rfl) (fun _ _ _ h => h) (yi_free rfl (fun u => rfl)) hHeld rfl ?_; (try simp only [Act.put, List.setIfInBounds_toArray, List.set_cons_zero, List.set_cons_succ]))
          have HM2 := Lib.hid (MV.add (HM.out.below HB.out) HF.out (Nat.le_trans HM.out.1.size HGC.out) (fun e he => Nat.lt_of_lt_of_le (HM.out.2.1 e he).lt HGC.out))
          have HRu := Lib.hid (HR.out.below HB.out)
          have HA := Lib.hid (HM2.out.apt HRu.out (by intro e he; simp only [List.mem_cons, List.not_mem_nil, or_false] at he; rcases he with rfl | rfl | rfl | rfl <;> exact ⟨_, rfl⟩))
          clear HM HB HF HGC HR HP2 HX
          have HM := HM2
          clear HM2
          refine wpAnyH_ready (rs := [11]) (by kernel_rfl) (by simp) ?_; refine AllReadyH.cons rfl (fun K hK => ?_) (AllReadyH.nil)
          rw [if_pos (by rfl)]; refine ov_store _ _ _ rfl rfl rfl (by exact rowOf) HM (by exact vidxOf) (by exact vsizOf) (by exact vsizOf) (by exact voneOf) rfl ?_; clear HM; intro us HM; dsimp only [List.set] at HM
          refine hK.out _ _ (HM.out.get (by exact vmemOf)) (fun hHeld => ?_)
          clear hK K
          (try simp only [Act.put, List.setIfInBounds_toArray, List.set_cons_zero, List.set_cons_succ])
          (refine wa_take (i := 12) (v := .int .i64 E) rfl (by kernel_rfl) (by kernel_rfl) (by kernel_rfl) (fun _ _ _ h => h) (yi_free rfl (fun u => rfl)) hHeld rfl ?_; (try simp only [Act.put, List.setIfInBounds_toArray, List.set_cons_zero, List.set_cons_succ]))
          refine wpAnyH_done (by kernel_rfl) ?_ _
          go_wp2_with fail
          go_meet
          exact ⟨g4, rfl, rfl, Lib.hid ⟨HM.out.base, HM.out.rdA HRu.out HA.out⟩⟩
      · rw [if_pos (by rfl)]
        refine ov_alloc _ rfl rfl (by exact rowOf) (Lib.hid (HM.out.below HB.out)) ?_
        intro g4 u1 HM5 HW5 HG5
        have HF1 := Lib.hid (HM5.out.get (g := g4) (T := 26) (cs := icells (zr 23)) (by exact vmemOf))
        have HGC := Lib.hid (Nat.le_trans HB.out.size HG5.out)
        have HB1 := Lib.hid (bl_next HB.out HW5.out)
        clear HM5 HW5 HG5
        clear HB 
        have HB := HB1
        clear HB1
        have HF := HF1
        clear HF1
        refine hK.out _ _ (HP2.out _ HB.out) (fun hHeld => ?_)
        clear hK K
        (try simp only [Act.put, List.setIfInBounds_toArray, List.set_cons_zero, List.set_cons_succ])
        refine wpAnyH_ready (rs := [1, 3]) (by kernel_rfl) (by simp) ?_; refine AllReadyH.cons rfl (fun K hK => ?_) (AllReadyH.cons rfl (fun K hK => ?_) (AllReadyH.nil))
        · refine app_one rfl (.tmp 78) rfl rfl HB HR hn0 hn40 ?_
          intro ga ca u2 HB1 HO1 hb1
          have HF1 := Lib.hid (HF.out.below hb1.out HF.out.lt)
          clear hb1
          clear HB HF
          have HB := HB1
          clear HB1
          have HO := HO1
          clear HO1
          have HF := HF1
          clear HF1
          refine hK.out _ _ (HP2.out _ HB.out) (fun hHeld => ?_)
          clear hK K
          (try simp only [Act.put, List.setIfInBounds_toArray, List.set_cons_zero, List.set_cons_succ])
          refine wpAnyH_ready (rs := [3]) (by kernel_rfl) (by simp) ?_; refine AllReadyH.cons rfl (fun K hK => ?_) (AllReadyH.nil)
          rw [if_pos (by rfl)]; go_simp
          have HB1 := Lib.hid (HB.out.alloc HB.out.size (.cells #[.int .u8 (more : Int)] 5))
          have HC1 := Lib.hid (show (World.alloc u2 (.cells #[.int .u8 (more : Int)] 5)).cell? ⟨u2.heap.size, 0, none⟩ = some (byteV more) from (Blk.new _ _ _).cell 0)
          have HO1 := Lib.hid (HO.out.alloc (.cells #[.int .u8 (more : Int)] 5))
          have HF1 := Lib.hid (HF.out.alloc (.cells #[.int .u8 (more : Int)] 5))
          clear HB HO HF
          have HB := HB1
          clear HB1
          have HC := HC1
          clear HC1
          have HO := HO1
          clear HO1
          have HF := HF1
          clear HF1
          generalize World.alloc u2 _ = u3 at HB HC HO HF ⊢
          generalize u2.heap.size = gb at HC ⊢
          refine hK.out _ _ (HP2.out _ HB.out) (fun hHeld => ?_)
          clear hK K
          (try simp only [Act.put, List.setIfInBounds_toArray, List.set_cons_zero, List.set_cons_succ])
          refine wpAnyH_ready (rs := [4]) (by kernel_rfl) (by simp) ?_; refine AllReadyH.cons rfl (fun K hK => ?_) (AllReadyH.nil)
          refine app_two rfl (.tmp 79) (.tmp 81) rfl rfl rfl HB HO HC h256 HBL hn40 ?_
          intro gp cp u4 HB1 HRR1 hg
          have HF1 := Lib.hid (blk_own HF.out (by decide) HO.out hg.out)
          clear hg
          clear HB HO HC HF
          have HB := HB1
          clear HB1
          have HRR := HRR1
          clear HRR1
          have HF := HF1
          clear HF1
          refine hK.out _ _ (HP2.out _ HB.out) (fun hHeld => ?_)
          clear hK K
          (try simp only [Act.put, List.setIfInBounds_toArray, List.set_cons_zero, List.set_cons_succ])
          refine wpAnyH_ready (rs := [6]) (by kernel_rfl) (by simp) ?_; refine AllReadyH.cons rfl (fun K hK => ?_) (AllReadyH.nil)
          rw [if_pos (by rfl)]; go_simp
          refine (fread_any (some ⟨gp, 0, none⟩) (n + 1) cp (bs ++ [more]) p _ HRR LP.out (HE.out.below (bl_next HM.out.1 HB.out))).mono ?_
          rw [HX.out]
          rintro e u5 ⟨rfl, hb⟩
          have HB1 := Lib.hid (bl_next HB.out hb)
          have HF1 := Lib.hid (HF.out.below hb HF.out.lt)
          clear hb
          clear HB HRR HF
          have HB := HB1
          clear HB1
          have HF := HF1
          clear HF1
          go_wp2_with fail
          refine hK.out _ _ (HP2.out _ HB.out) (fun hHeld => ?_)
          clear hK K
          (try simp only [Act.put, List.setIfInBounds_toArray, List.set_cons_zero, List.set_cons_succ])
          (refine wa_take (i := 7) (v := .tuple #[.agg (icells X), .int .i64 E]) rfl (by kernel_rfl) (by kernel_rfl) (by kernel_rfl) (fun _ _ _ h => h) (yi_free rfl (fun u => rfl)) hHeld rfl ?_; (try simp only [Act.put, List.setIfInBounds_toArray, List.set_cons_zero, List.set_cons_succ]))
          (refine wa_take (i := 8) (v := .agg (icells X)) rfl (by kernel_rfl) (by kernel_rfl) (by kernel_rfl) (fun _ _ _ h => h) (yi_free rfl (fun u => rfl)) hHeld rfl ?_; (try simp only [Act.put, List.setIfInBounds_toArray, List.set_cons_zero, List.set_cons_succ]))
          (refine wa_take (i := 9) (v := .int .i64 E) rfl (by kernel_rfl) (by kernel_rfl) (by kernel_rfl) (fun _ _ _ h => h) (yi_free rfl (fun u => rfl)) hHeld rfl ?_; (try simp only [Act.put, List.setIfInBounds_toArray, List.set_cons_zero, List.set_cons_succ]))
          have HM2 := Lib.hid (MV.add (HM.out.below HB.out) HF.out (Nat.le_trans HM.out.1.size HGC.out) (fun e he => Nat.lt_of_lt_of_le (HM.out.2.1 e he).lt HGC.out))
          have HRu := Lib.hid (HR.out.below HB.out)
          have HA := Lib.hid (HM2.out.apt HRu.out (by intro e he; simp only [List.mem_cons, List.not_mem_nil, or_false] at he; rcases he with rfl | rfl | rfl | rfl <;> exact ⟨_, rfl⟩))
          clear HM HB HF HGC HR HP2 HX
          have HM := HM2
          clear HM2
          refine wpAnyH_ready (rs := [11]) (by kernel_rfl) (by simp) ?_; refine AllReadyH.cons rfl (fun K hK => ?_) (AllReadyH.nil)
          rw [if_pos (by rfl)]; refine ov_store _ _ _ rfl rfl rfl (by exact rowOf) HM (by exact vidxOf) (by exact vsizOf) (by exact vsizOf) (by exact voneOf) rfl ?_; clear HM; intro us HM; dsimp only [List.set] at HM
          refine hK.out _ _ (HM.out.get (by exact vmemOf)) (fun hHeld => ?_)
          clear hK K
          (try simp only [Act.put, List.setIfInBounds_toArray, List.set_cons_zero, List.set_cons_succ])
          (refine wa_take (i := 12) (v := .int .i64 E) rfl (by kernel_rfl) (by kernel_rfl) (by kernel_rfl) (fun _ _ _ h => h) (yi_free rfl (fun u => rfl)) hHeld rfl ?_; (try simp only [Act.put, List.setIfInBounds_toArray, List.set_cons_zero, List.set_cons_succ]))
          refine wpAnyH_done (by kernel_rfl) ?_ _
          go_wp2_with fail
          go_meet
          exact ⟨g4, rfl, rfl, Lib.hid ⟨HM.out.base, HM.out.rdA HRu.out HA.out⟩⟩
        · rw [if_pos (by rfl)]; go_simp
          have HB1 := Lib.hid (HB.out.alloc HB.out.size (.cells #[.int .u8 (more : Int)] 5))
          have HC1 := Lib.hid (show (World.alloc u1 (.cells #[.int .u8 (more : Int)] 5)).cell? ⟨u1.heap.size, 0, none⟩ = some (byteV more) from (Blk.new _ _ _).cell 0)
          have HF1 := Lib.hid (HF.out.alloc (.cells #[.int .u8 (more : Int)] 5))
          clear HB HF
          have HB := HB1
          clear HB1
          have HC := HC1
          clear HC1
          have HF := HF1
          clear HF1
          generalize World.alloc u1 _ = u2 at HB HC HF ⊢
          generalize u1.heap.size = gb at HC ⊢
          refine hK.out _ _ (HP2.out _ HB.out) (fun hHeld => ?_)
          clear hK K
          (try simp only [Act.put, List.setIfInBounds_toArray, List.set_cons_zero, List.set_cons_succ])
          refine wpAnyH_ready (rs := [1]) (by kernel_rfl) (by simp) ?_; refine AllReadyH.cons rfl (fun K hK => ?_) (AllReadyH.nil)
          refine app_one rfl (.tmp 78) rfl rfl HB HR hn0 hn40 ?_
          intro ga ca u3 HB1 HO1 hb1
          have HC1 := Lib.hid ((hb1.out.cell (World.block_lt_of_cell? _ _ HC.out)).trans HC.out)
          have HF1 := Lib.hid (HF.out.below hb1.out HF.out.lt)
          clear hb1
          clear HB HC HF
          have HB := HB1
          clear HB1
          have HO := HO1
          clear HO1
          have HC := HC1
          clear HC1
          have HF := HF1
          clear HF1
          refine hK.out _ _ (HP2.out _ HB.out) (fun hHeld => ?_)
          clear hK K
          (try simp only [Act.put, List.setIfInBounds_toArray, List.set_cons_zero, List.set_cons_succ])
          refine wpAnyH_ready (rs := [4]) (by kernel_rfl) (by simp) ?_; refine AllReadyH.cons rfl (fun K hK => ?_) (AllReadyH.nil)
          refine app_two rfl (.tmp 79) (.tmp 81) rfl rfl rfl HB HO HC h256 HBL hn40 ?_
          intro gp cp u4 HB1 HRR1 hg
          have HF1 := Lib.hid (blk_own HF.out (by decide) HO.out hg.out)
          clear hg
          clear HB HO HC HF
          have HB := HB1
          clear HB1
          have HRR := HRR1
          clear HRR1
          have HF := HF1
          clear HF1
          refine hK.out _ _ (HP2.out _ HB.out) (fun hHeld => ?_)
          clear hK K
          (try simp only [Act.put, List.setIfInBounds_toArray, List.set_cons_zero, List.set_cons_succ])
          refine wpAnyH_ready (rs := [6]) (by kernel_rfl) (by simp) ?_; refine AllReadyH.cons rfl (fun K hK => ?_) (AllReadyH.nil)
          rw [if_pos (by rfl)]; go_simp
          refine (fread_any (some ⟨gp, 0, none⟩) (n + 1) cp (bs ++ [more]) p _ HRR LP.out (HE.out.below (bl_next HM.out.1 HB.out))).mono ?_
          rw [HX.out]
          rintro e u5 ⟨rfl, hb⟩
          have HB1 := Lib.hid (bl_next HB.out hb)
          have HF1 := Lib.hid (HF.out.below hb HF.out.lt)
          clear hb
          clear HB HRR HF
          have HB := HB1
          clear HB1
          have HF := HF1
          clear HF1
          go_wp2_with fail
          refine hK.out _ _ (HP2.out _ HB.out) (fun hHeld => ?_)
          clear hK K
          (try simp only [Act.put, List.setIfInBounds_toArray, List.set_cons_zero, List.set_cons_succ])
          (refine wa_take (i := 7) (v := .tuple #[.agg (icells X), .int .i64 E]) rfl (by kernel_rfl) (by kernel_rfl) (by kernel_rfl) (fun _ _ _ h => h) (yi_free rfl (fun u => rfl)) hHeld rfl ?_; (try simp only [Act.put, List.setIfInBounds_toArray, List.set_cons_zero, List.set_cons_succ]))
          (refine wa_take (i := 8) (v := .agg (icells X)) rfl (by kernel_rfl) (by kernel_rfl) (by kernel_rfl) (fun _ _ _ h => h) (yi_free rfl (fun u => rfl)) hHeld rfl ?_; (try simp only [Act.put, List.setIfInBounds_toArray, List.set_cons_zero, List.set_cons_succ]))
          (refine wa_take (i := 9) (v := .int .i64 E) rfl (by kernel_rfl) (by kernel_rfl) (by kernel_rfl) (fun _ _ _ h => h) (yi_free rfl (fun u => rfl)) hHeld rfl ?_; (try simp only [Act.put, List.setIfInBounds_toArray, List.set_cons_zero, List.set_cons_succ]))
          have HM2 := Lib.hid (MV.add (HM.out.below HB.out) HF.out (Nat.le_trans HM.out.1.size HGC.out) (fun e he => Nat.lt_of_lt_of_le (HM.out.2.1 e he).lt HGC.out))
          have HRu := Lib.hid (HR.out.below HB.out)
          have HA := Lib.hid (HM2.out.apt HRu.out (by intro e he; simp only [List.mem_cons, List.not_mem_nil, or_false] at he; rcases he with rfl | rfl | rfl | rfl <;> exact ⟨_, rfl⟩))
          clear HM HB HF HGC HR HP2 HX
          have HM := HM2
          clear HM2
          refine wpAnyH_ready (rs := [11]) (by kernel_rfl) (by simp) ?_; refine AllReadyH.cons rfl (fun K hK => ?_) (AllReadyH.nil)
          rw [if_pos (by rfl)]; refine ov_store _ _ _ rfl rfl rfl (by exact rowOf) HM (by exact vidxOf) (by exact vsizOf) (by exact vsizOf) (by exact voneOf) rfl ?_; clear HM; intro us HM; dsimp only [List.set] at HM
          refine hK.out _ _ (HM.out.get (by exact vmemOf)) (fun hHeld => ?_)
          clear hK K
          (try simp only [Act.put, List.setIfInBounds_toArray, List.set_cons_zero, List.set_cons_succ])
          (refine wa_take (i := 12) (v := .int .i64 E) rfl (by kernel_rfl) (by kernel_rfl) (by kernel_rfl) (fun _ _ _ h => h) (yi_free rfl (fun u => rfl)) hHeld rfl ?_; (try simp only [Act.put, List.setIfInBounds_toArray, List.set_cons_zero, List.set_cons_succ]))
          refine wpAnyH_done (by kernel_rfl) ?_ _
          go_wp2_with fail
          go_meet
          exact ⟨g4, rfl, rfl, Lib.hid ⟨HM.out.base, HM.out.rdA HRu.out HA.out⟩⟩
    case rest =>
      obtain ⟨g4, rfl, rfl, hcc⟩ := hcut
      have HM6 := Lib.hid hcc.out.1
      have HR6 := Lib.hid hcc.out.2
      clear HM HR HP2 HX hcc
      have HM := HM6
      have HR := HR6
      clear HM6 HR6
      obtain ⟨m, hm⟩ : ∃ m, n = m + 1 := ⟨n - 1, by omega⟩
      have e1 : IntKind.i64.wrap ((n : Int) - 1) = (m : Int) := by
        rw [i64_w (by omega) (by omega)]
        omega
      have HMN := Lib.hid (show m ≤ n by omega)
      have HMC := Lib.hid (show m ≤ c by have := HCAP.out; omega)
      have HX0 := rd_other (K := K) (l := l) (q := q) (p := p) (bs := bs.take m) (fun e => by have := congrArg List.length e; rw [← HBS.out, List.length_take, HLN.out] at this; omega)
      obtain ⟨Y, E2, hY, hNF⟩ := HX0
      have HY := Lib.hid hY
      have HNF2 := Lib.hid hNF
      have LY := Lib.hid hNF.1
      have HP2 := Lib.hid (show ∀ u, Below wc.heap.size wc u → Blk u g2 23 (icells p) from fun u hu => (HM.out.get (by exact vmemOf)).below hu (HM.out.get (g := g2) (T := 23) (cs := icells p) (by exact vmemOf)).lt)
      clear hY hNF hm
      go_wp2_with fail
      go_cut [16, 17] from 87 to 96 (fun v16 v17 wx => ∃ g5 : Nat, v16 = .pointer (some ⟨g5, 0, none⟩) ∧ v17 = .int .i64 E2 ∧ Hid (MV w wx [(g5, 26, icells Y), (g4, 26, icells X), (g3, 26, icells G), (g2, 23, icells p), (g1, 26, icells F)] wx))
      case first =>
        refine wp_region_held_drew (S := fun u => Blk u g2 23 (icells p)) (by kernel_rfl) (HM.out.drew.get (by exact vmemOf)) (fun hHeld => ?_)
        have HB := Lib.hid (show Below wc.heap.size wc (World.drew _) from Below.drew (Below.refl _ _))
        generalize World.drew _ = u0 at HB hHeld ⊢
        (refine wa_take (i := 0) (v := .slice (some ad) n c) rfl (by kernel_rfl) (by kernel_rfl) (by kernel_rfl) (fun _ _ _ h => h) (yi_free rfl (fun u => rfl)) hHeld rfl ?_; (try simp only [Act.put, List.setIfInBounds_toArray, List.set_cons_zero, List.set_cons_succ]))
        (refine wa_take (i := 1) (v := .slice (some ad) n c) rfl (by kernel_rfl) (by kernel_rfl) (by kernel_rfl) (fun _ _ _ h => h) (yi_free rfl (fun u => rfl)) hHeld rfl ?_; (try simp only [Act.put, List.setIfInBounds_toArray, List.set_cons_zero, List.set_cons_succ]))
        (refine wa_take (i := 2) (v := .int .i64 ((n : Int))) rfl (by kernel_rfl) (by kernel_rfl) (by kernel_rfl) (fun _ _ _ h => h) (yi_free rfl (fun u => by go_simp)) hHeld rfl ?_; (try simp only [Act.put, List.setIfInBounds_toArray, List.set_cons_zero, List.set_cons_succ]))
        (refine wa_take (i := 3) (v := .int .i64 ((m : Int))) rfl (by kernel_rfl) (by kernel_rfl) (by kernel_rfl) (fun _ _ _ h => h) (yi_free rfl (fun u => by go_simp)) hHeld rfl ?_; (try simp only [Act.put, List.setIfInBounds_toArray, List.set_cons_zero, List.set_cons_succ]))
        refine wa_take (i := 4) rfl (by kernel_rfl) (by kernel_rfl) (by kernel_rfl) (fun _ _ _ h => h) (yi_free rfl (fun u => ex_cut (.tmp 88) (.tmp 91) rfl rfl rfl HMC)) hHeld rfl ?_
        (try simp only [Act.put, List.setIfInBounds_toArray, List.set_cons_zero, List.set_cons_succ])
        (refine wa_take (i := 5) rfl (by kernel_rfl) (by kernel_rfl) (by kernel_rfl) (fun _ _ _ h => h) (yv_load rfl _ _ rfl rfl (fun u hu => run_load_blk arrLev.row hu ((icells_size _).trans LP.out))) hHeld rfl ?_; (try simp only [Act.put, List.setIfInBounds_toArray, List.set_cons_zero, List.set_cons_succ]))
        refine wpAnyH_ready (rs := [6, 10]) (by kernel_rfl) (by simp) ?_; refine AllReadyH.cons rfl (fun K hK => ?_) (AllReadyH.cons rfl (fun K hK => ?_) (AllReadyH.nil))
        · rw [if_pos (by rfl)]; go_simp
          refine (fread_any (some ad) m c (bs.take m) p _ (Lib.hid (rd_upto (HR.out.below HB.out) HMN.out)) LP.out (HE.out.below (bl_next HM.out.1 HB.out))).mono ?_
          rw [HY.out]
          rintro e u2 ⟨rfl, hb⟩
          have HB1 := Lib.hid (bl_next HB.out hb)
          clear HB hb
          have HB := HB1
          clear HB1
          go_wp2_with fail
          refine hK.out _ _ (HP2.out _ HB.out) (fun hHeld => ?_)
          clear hK K
          (try simp only [Act.put, List.setIfInBounds_toArray, List.set_cons_zero, List.set_cons_succ])
          (refine wa_take (i := 7) (v := .tuple #[.agg (icells Y), .int .i64 E2]) rfl (by kernel_rfl) (by kernel_rfl) (by kernel_rfl) (fun _ _ _ h => h) (yi_free rfl (fun u => rfl)) hHeld rfl ?_; (try simp only [Act.put, List.setIfInBounds_toArray, List.set_cons_zero, List.set_cons_succ]))
          (refine wa_take (i := 8) (v := .agg (icells Y)) rfl (by kernel_rfl) (by kernel_rfl) (by kernel_rfl) (fun _ _ _ h => h) (yi_free rfl (fun u => rfl)) hHeld rfl ?_; (try simp only [Act.put, List.setIfInBounds_toArray, List.set_cons_zero, List.set_cons_succ]))
          (refine wa_take (i := 9) (v := .int .i64 E2) rfl (by kernel_rfl) (by kernel_rfl) (by kernel_rfl) (fun _ _ _ h => h) (yi_free rfl (fun u => rfl)) hHeld rfl ?_; (try simp only [Act.put, List.setIfInBounds_toArray, List.set_cons_zero, List.set_cons_succ]))
          refine wpAnyH_ready (rs := [10]) (by kernel_rfl) (by simp) ?_; refine AllReadyH.cons rfl (fun K hK => ?_) (AllReadyH.nil)
          rw [if_pos (by rfl)]
          refine ov_alloc _ rfl rfl (by exact rowOf) (Lib.hid (HM.out.below HB.out)) ?_
          intro g5 u3 HM5 HW5 HG5
          have HF1 := Lib.hid (HM5.out.get (g := g5) (T := 26) (cs := icells (zr 23)) (by exact vmemOf))
          have HGC := Lib.hid (Nat.le_trans HB.out.size HG5.out)
          have HB1 := Lib.hid (bl_next HB.out HW5.out)
          clear HM5 HW5 HG5 HB
          have HB := HB1
          clear HB1
          refine hK.out _ _ (HP2.out _ HB.out) (fun hHeld => ?_)
          clear hK K
          (try simp only [Act.put, List.setIfInBounds_toArray, List.set_cons_zero, List.set_cons_succ])
          have HM2 := Lib.hid (MV.add (HM.out.below HB.out) HF1.out (Nat.le_trans HM.out.1.size HGC.out) (fun e he => Nat.lt_of_lt_of_le (HM.out.2.1 e he).lt HGC.out))
          clear HM HB HF1 HGC HR HP2 HY
          have HM := HM2
          clear HM2
          refine wpAnyH_ready (rs := [11]) (by kernel_rfl) (by simp) ?_; refine AllReadyH.cons rfl (fun K hK => ?_) (AllReadyH.nil)
          rw [if_pos (by rfl)]; refine ov_store _ _ _ rfl rfl rfl (by exact rowOf) HM (by exact vidxOf) (by exact vsizOf) (by exact vsizOf) (by exact voneOf) rfl ?_; clear HM; intro us HM; dsimp only [List.set] at HM
          refine hK.out _ _ (HM.out.get (by exact vmemOf)) (fun hHeld => ?_)
          clear hK K
          (try simp only [Act.put, List.setIfInBounds_toArray, List.set_cons_zero, List.set_cons_succ])
          (refine wa_take (i := 12) (v := .int .i64 E2) rfl (by kernel_rfl) (by kernel_rfl) (by kernel_rfl) (fun _ _ _ h => h) (yi_free rfl (fun u => rfl)) hHeld rfl ?_; (try simp only [Act.put, List.setIfInBounds_toArray, List.set_cons_zero, List.set_cons_succ]))
          refine wpAnyH_done (by kernel_rfl) ?_ _
          go_wp2_with fail
          go_meet
          exact ⟨g5, rfl, rfl, Lib.hid HM.out.base⟩
        · rw [if_pos (by rfl)]
          refine ov_alloc _ rfl rfl (by exact rowOf) (Lib.hid (HM.out.below HB.out)) ?_
          intro g5 u3 HM5 HW5 HG5
          have HF1 := Lib.hid (HM5.out.get (g := g5) (T := 26) (cs := icells (zr 23)) (by exact vmemOf))
          have HGC := Lib.hid (Nat.le_trans HB.out.size HG5.out)
          have HB1 := Lib.hid (bl_next HB.out HW5.out)
          clear HM5 HW5 HG5 HB
          have HB := HB1
          clear HB1
          refine hK.out _ _ (HP2.out _ HB.out) (fun hHeld => ?_)
          clear hK K
          (try simp only [Act.put, List.setIfInBounds_toArray, List.set_cons_zero, List.set_cons_succ])
          refine wpAnyH_ready (rs := [6]) (by kernel_rfl) (by simp) ?_; refine AllReadyH.cons rfl (fun K hK => ?_) (AllReadyH.nil)
          rw [if_pos (by rfl)]; go_simp
          refine (fread_any (some ad) m c (bs.take m) p _ (Lib.hid (rd_upto (HR.out.below HB.out) HMN.out)) LP.out (HE.out.below (bl_next HM.out.1 HB.out))).mono ?_
          rw [HY.out]
          rintro e u2 ⟨rfl, hb⟩
          have HB1 := Lib.hid (bl_next HB.out hb)
          have HF1 := Lib.hid (HF1.out.below hb HF1.out.lt)
          clear HB hb
          have HB := HB1
          clear HB1
          go_wp2_with fail
          refine hK.out _ _ (HP2.out _ HB.out) (fun hHeld => ?_)
          clear hK K
          (try simp only [Act.put, List.setIfInBounds_toArray, List.set_cons_zero, List.set_cons_succ])
          (refine wa_take (i := 7) (v := .tuple #[.agg (icells Y), .int .i64 E2]) rfl (by kernel_rfl) (by kernel_rfl) (by kernel_rfl) (fun _ _ _ h => h) (yi_free rfl (fun u => rfl)) hHeld rfl ?_; (try simp only [Act.put, List.setIfInBounds_toArray, List.set_cons_zero, List.set_cons_succ]))
          (refine wa_take (i := 8) (v := .agg (icells Y)) rfl (by kernel_rfl) (by kernel_rfl) (by kernel_rfl) (fun _ _ _ h => h) (yi_free rfl (fun u => rfl)) hHeld rfl ?_; (try simp only [Act.put, List.setIfInBounds_toArray, List.set_cons_zero, List.set_cons_succ]))
          (refine wa_take (i := 9) (v := .int .i64 E2) rfl (by kernel_rfl) (by kernel_rfl) (by kernel_rfl) (fun _ _ _ h => h) (yi_free rfl (fun u => rfl)) hHeld rfl ?_; (try simp only [Act.put, List.setIfInBounds_toArray, List.set_cons_zero, List.set_cons_succ]))
          have HM2 := Lib.hid (MV.add (HM.out.below HB.out) HF1.out (Nat.le_trans HM.out.1.size HGC.out) (fun e he => Nat.lt_of_lt_of_le (HM.out.2.1 e he).lt HGC.out))
          clear HM HB HF1 HGC HR HP2 HY
          have HM := HM2
          clear HM2
          refine wpAnyH_ready (rs := [11]) (by kernel_rfl) (by simp) ?_; refine AllReadyH.cons rfl (fun K hK => ?_) (AllReadyH.nil)
          rw [if_pos (by rfl)]; refine ov_store _ _ _ rfl rfl rfl (by exact rowOf) HM (by exact vidxOf) (by exact vsizOf) (by exact vsizOf) (by exact voneOf) rfl ?_; clear HM; intro us HM; dsimp only [List.set] at HM
          refine hK.out _ _ (HM.out.get (by exact vmemOf)) (fun hHeld => ?_)
          clear hK K
          (try simp only [Act.put, List.setIfInBounds_toArray, List.set_cons_zero, List.set_cons_succ])
          (refine wa_take (i := 12) (v := .int .i64 E2) rfl (by kernel_rfl) (by kernel_rfl) (by kernel_rfl) (fun _ _ _ h => h) (yi_free rfl (fun u => rfl)) hHeld rfl ?_; (try simp only [Act.put, List.setIfInBounds_toArray, List.set_cons_zero, List.set_cons_succ]))
          refine wpAnyH_done (by kernel_rfl) ?_ _
          go_wp2_with fail
          go_meet
          exact ⟨g5, rfl, rfl, Lib.hid HM.out.base⟩
      case rest =>
        obtain ⟨g5, rfl, rfl, hcc⟩ := hcut
        clear HM HR HP2 HY
        have HM := hcc
        clear hcc
        have hgd := grdFrame
        have HN1 := Lib.hid (notf_cases HNF.out HF.out)
        have HN2 := Lib.hid (notf_cases HNF2.out HF.out)
        clear HNF HNF2 heq HC0 d1 d2 e1 HMN HMC HBL HG
        rcases HN1.out with (rfl | rfl) | ⟨rfl, h2⟩ <;> rcases HN2.out with (rfl | rfl) | ⟨rfl, h4⟩
        all_goals
          clear HN1 HN2
          go_wp2_with (refine wv_load rfl _ _ rfl rfl (by exact rowOf) HM (by exact vmemOf) (by exact vsizOf) ?_)
          go_ret
          exact ⟨rfl, HM.out.1⟩
end Go.Proofs.YtgpdgegelipboaaDoor.Lp
namespace Go.Proofs.YtgpdgegelipboaaDoor
open Go.ChangeShapes Go.WideShapes Go.ChangeAt Go.RowKit Go.Joins Go.Deep
theorem laidOut : laidOutB Tryd.prog = true := by kernel_rfl
theorem own : ownKnob Tryd.prog.godebug = none := by kernel_rfl
theorem cells_u8 : Tryd.prog.cellsOf 5 = 1 := by kernel_rfl
section
variable {H : Type} {enc : TypeId × Value → H} {W : World} {base : Nat} {spare : Nat → Bool} {held : Bool}
/-- a slice of bytes that was read -/
theorem open_bytes {fuel : Nat} {v : Value} {y : DataW H × List MemPlace} (h : DataW.trod enc Tryd.prog W base spare held fuel 28 [v] = some y) :
    ∃ A n c bs, v = .slice A n c ∧ Rd W A n bs ∧ n ≤ maxLen := by
  rcases open_ints Tryd.underlying28 Tryd.underlying5 cells_u8 h with ⟨hcs, _⟩ | ⟨x, l, c, zs, hcs, _, hl, hm, hz, _, hcell, hwz⟩
  · simp only [List.cons.injEq, and_true] at hcs
    exact ⟨none, 0, 0, [], hcs, Rd.none_, by unfold maxLen; omega⟩
  · simp only [List.cons.injEq, and_true] at hcs
    have hlen : l ≤ zs.length := by rw [hz]; split <;> omega
    have hb : ∀ z ∈ zs, 0 ≤ z ∧ z ≤ 255 := fun z hz => bounds_u8 (hwz z hz)
    refine ⟨some x, l, c, (zs.take l).map Int.toNat, hcs, ⟨by rw [List.length_map, List.length_take]; omega, ?_, fun _ => ⟨x, rfl, ?_⟩⟩, by omega⟩
    · intro y hy
      obtain ⟨z, hz', rfl⟩ := List.mem_map.1 hy
      have := hb z (List.mem_of_mem_take hz')
      omega
    · intro j y hy
      rw [List.getElem?_map] at hy
      obtain ⟨z, hz', rfl⟩ := Option.map_eq_some_iff.1 hy
      obtain ⟨hj, e⟩ := List.getElem?_eq_some_iff.1 hz'
      rw [List.length_take] at hj
      rw [List.getElem_take] at e
      have hm' : z ∈ zs := by rw [← e]; exact List.getElem_mem _
      have := hb z hm'
      rw [hcell j (by omega)]
      have e2 : zs.getD j 0 = z := by rw [← e]; simp [List.getD_eq_getElem?_getD, show j < zs.length by omega]
      rw [e2, byteV, Int.toNat_of_nonneg this.1]
end
end Go.Proofs.YtgpdgegelipboaaDoor
namespace Go.Proofs.YtgpdgegelipboaaDoor.Lp
open Go.ChangeShapes Go.WideShapes Go.ChangeAt Go.RowKit Go.Joins Go.Deep Go.Proofs.YtgpdgegelipboaaDoor.Fq
section
variable {H : Type} {enc : TypeId × Value → H} {W : World} {base : Nat} {spare : Nat → Bool} {held : Bool}
theorem trod_ints {T : TypeId} {n fuel : Nat} {l : List Value} {x : DataW H × List MemPlace} (hT : Tryd.prog.underlying T = some (.array n 3)) (h : DataW.trod enc Tryd.prog W base spare held fuel T l = some x) (hl : l.length = n) : ∃ zs : List Int, zs.length = n ∧ l = zs.map fun x => Value.int .i64 x := by
  obtain ⟨xs, m, rfl, _, _, hn, hel⟩ := DataW.trod_array hT h
  exact ints_of n l hl fun i hi => by
    have hi' := hel i hi
    rw [cells_int, Nat.mul_one] at hi'
    have hx : xs[i]? = some xs[i] := List.getElem?_eq_getElem (by omega)
    rw [hx] at hi'
    obtain ⟨z, hz, _⟩ := DataW.trod_int Tryd.underlying3 hi'
    exact ⟨z, by simpa [Value.cells] using hz⟩
theorem cells_lev : Tryd.prog.cellsOf 23 = 6 := by kernel_rfl
theorem cells_hop : Tryd.prog.cellsOf 24 = 16 := by kernel_rfl
theorem cells_frame : Tryd.prog.cellsOf 26 = 23 := by kernel_rfl
set_option maxRecDepth 20000 in
theorem open_fr {b0 : Nat} {r : Reach} {v : Value} {d : DataW H} {p : List MemPlace} (hv : Value.okWide Tryd.prog W r b0 26 v) (h : DataW.Trod enc Tryd.prog W base spare held 26 v d p) : ∃ zs : List Int, v = .agg (icells zs) ∧ zs.length = 23 := by
  obtain ⟨cs, rfl, hsz⟩ : ∃ cs, v = .agg cs ∧ cs.size = 23 := by
    simp only [Value.okWide, und_frame] at hv
    obtain ⟨cs, h1, h2, _⟩ := hv
    exact ⟨cs, h1, by rw [h2, cells_frame]⟩
  obtain ⟨fuel, hf⟩ := h
  obtain ⟨xs, m, rfl, _, _, hn, hel⟩ := DataW.trod_struct und_frame hf
  have hfl := flds_frame
  generalize Tryd.prog.fieldsOf 26 = fs at hel hn hfl
  obtain ⟨f1, s1, e0, e1, hfl⟩ := List.map_eq_cons_iff.1 hfl
  obtain ⟨f2, s2, rfl, e2, hfl⟩ := List.map_eq_cons_iff.1 hfl
  obtain ⟨f3, s3, rfl, e3, hfl⟩ := List.map_eq_cons_iff.1 hfl
  obtain rfl := List.map_eq_nil_iff.1 hfl
  simp only [Prod.mk.injEq] at e1 e2 e3
  have hl3 : fs.size = 3 := by rw [← Array.length_toList, e0]; rfl
  have g1 : fs[0]? = some f1 := by rw [← Array.getElem?_toList, e0]; rfl
  have g2 : fs[1]? = some f2 := by rw [← Array.getElem?_toList, e0]; rfl
  have g3 : fs[2]? = some f3 := by rw [← Array.getElem?_toList, e0]; rfl
  have h1 := hel 0 f1 g1
  have h2 := hel 1 f2 g2
  have h3 := hel 2 f3 g3
  rw [e1.2.1, e1.2.2, cells_int, List.getElem?_eq_getElem (by omega)] at h1
  rw [e2.2.1, e2.2.2, cells_lev, List.getElem?_eq_getElem (by omega)] at h2
  rw [e3.2.1, e3.2.2, cells_hop, List.getElem?_eq_getElem (by omega)] at h3
  simp only [Value.cells] at h1 h2 h3
  have hcl : cs.toList.length = 23 := by rw [Array.length_toList, hsz]
  obtain ⟨z, hz, _⟩ := DataW.trod_int Tryd.underlying3 h1
  obtain ⟨l2, hl2, q2⟩ := trod_ints (n := 6) (by kernel_rfl) h2 (by rw [List.length_take, List.length_drop, hcl]; rfl)
  obtain ⟨l3, hl3', q3⟩ := trod_ints (n := 16) (by kernel_rfl) h3 (by rw [List.length_take, List.length_drop, hcl]; rfl)
  refine ⟨z :: (l2 ++ l3), ?_, by rw [List.length_cons, List.length_append, hl2, hl3']⟩
  have e : cs.toList = (z :: (l2 ++ l3)).map fun x => Value.int .i64 x := by
    rw [List.map_cons, List.map_append, ← q2, ← q3]
    have a1 : cs.toList = cs.toList.take 1 ++ cs.toList.drop 1 := (List.take_append_drop 1 _).symm
    have a2 : cs.toList.drop 1 = (cs.toList.drop 1).take 6 ++ (cs.toList.drop 1).drop 6 := (List.take_append_drop 6 _).symm
    have a3 : (cs.toList.drop 7).take 16 = cs.toList.drop 7 := List.take_of_length_le (by rw [List.length_drop, hcl]; omega)
    rw [List.drop_drop] at a2
    have a4 : cs.toList.take 1 = [.int .i64 z] := by simpa using hz
    rw [a3]
    conv => lhs; rw [a1, a4, a2]
    rfl
  unfold icells
  rw [← e]
set_option maxRecDepth 100000 in
theorem open_bytesV {b0 : Nat} {r : Reach} {v : Value} {d : DataW H} {p : List MemPlace} (hv : Value.okWide Tryd.prog W r b0 28 v) (h : DataW.Trod enc Tryd.prog W base spare held 28 v d p) :
    ∃ A n c bs, v = .slice A n c ∧ Rd W A n bs ∧ n ≤ maxLen := by
  obtain ⟨a0, len0, cap0, rfl⟩ := okWide_slice Tryd.underlying28 hv
  obtain ⟨fuel, hf⟩ := h
  exact open_bytes hf
end
end Go.Proofs.YtgpdgegelipboaaDoor.Lp
namespace Go.Proofs.YtgpdgegelipboaaDoor.Lp
open Go.RowKit Go.Proofs.YtgpdgegelipboaaDoor.Fx Go.Proofs.YtgpdgegelipboaaDoor.Fq Go.Proofs.YtgpdgegelipboaaDoor.Tb
open Go.Proofs.YtgpdgegelipboaaDoor.Yr (chkB chkB_iff wrB fr_apart Fr)
def AprP (g1 g2 : Nat) (F G : List Int) (A : Option Addr) (n : Nat) (bs : List Nat) (A' : Option Addr) (n' : Nat) (bs' : List Nat) (u : World) : Prop :=
  Blk u g1 26 (icells F) ∧ Blk u g2 26 (icells G) ∧ Rd u A n bs ∧ Rd u A' n' bs'
set_option maxRecDepth 100000 in
set_option maxHeartbeats 8000000 in
theorem apart_law (F G p : List Int) (K K' : Int) (l q l' q' : List Int) (w : World) (hF : FrS F K l q) (hG : FrS G K' l' q') (lp : p.length = 6) (he : Edg w) :
    Calls Tryd.prog 5 #[.agg (icells F), .agg (icells G), .agg (icells p)] w (ValQ w (.bool true)) := by
  have HM := Lib.hid (MV.start w)
  have HE := Lib.hid he
  have LF := Lib.hid hF.len
  have LG := Lib.hid hG.len
  have LP := Lib.hid lp
  have HWF := Lib.hid (fun u h => fwrite_any F K l q p u hF lp h)
  have HWG := Lib.hid (fun u h => fwrite_any G K' l' q' p u hG lp h)
  have HFF := Lib.hid hF
  have HGG := Lib.hid hG
  clear he hF hG lp
  go_enter Tryd.func5, Tryd.ntmps5
  go_wp2_with (first | (refine wv_zeroF rfl rfl ?_) | (first | ((first | refine wv_box rfl _ _ rfl rfl HM ?_ | refine wv_alloc rfl _ rfl (by exact rowOf) HM ?_); first | (have q : dV HM = 0 := rfl; clear q HM; intro g1 u1 HG1 HM) | (have q : dV HM = 1 := rfl; clear q HM; intro g2 u2 HG2 HM) | (have q : dV HM = 2 := rfl; clear q HM; intro g3 u3 HG3 HM) | (have q : dV HM = 3 := rfl; clear q HM; intro g4 u4 HG4 HM) | (have q : dV HM = 4 := rfl; clear q HM; intro g5 u5 HG5 HM) | (have q : dV HM = 5 := rfl; clear q HM; intro g6 u6 HG6 HM) | (have q : dV HM = 6 := rfl; clear q HM; intro g7 u7 HG7 HM) | (have q : dV HM = 7 := rfl; clear q HM; intro g8 u8 HG8 HM) | (have q : dV HM = 8 := rfl; clear q HM; intro g9 u9 HG9 HM) | (have q : dV HM = 9 := rfl; clear q HM; intro g10 u10 HG10 HM) | (have q : dV HM = 10 := rfl; clear q HM; intro g11 u11 HG11 HM) | (have q : dV HM = 11 := rfl; clear q HM; intro g12 u12 HG12 HM) | (have q : dV HM = 12 := rfl; clear q HM; intro g13 u13 HG13 HM) | (have q : dV HM = 13 := rfl; clear q HM; intro g14 u14 HG14 HM)) | (refine wv_load rfl _ _ rfl rfl (by exact rowOf) HM (by exact vmemOf) (by exact vsizOf) ?_) | (refine wv_store rfl _ _ _ rfl rfl rfl (by exact rowOf) HM (by exact vidxOf) (by exact vsizOf) (by exact vsizOf) (by exact voneOf) ?_; clear HM; intro us HM; dsimp only [List.set] at HM) | (refine wl_zero rfl _ rfl (by exact arrOf) (by kernel_rfl) ?_)) | (refine wv_elem rfl _ rfl rfl HM (by exact vmemOf) (by exact velOf) ?_) | (refine wv_put rfl _ _ rfl rfl rfl HM (by exact vidxOf) (by exact vltOf) ?_; clear HM; intro us HM; dsimp only [List.set] at HM) | (refine wv_loadS rfl _ _ rfl rfl (by exact arrOf) HM (by exact vmemOf) (by exact vsubF) (by exact lenOf) ?_))
  refine (flive_any _ (HE.out.below HM.out.1)).mono ?_
  rintro e w2 ⟨rfl, hb⟩
  have HM2 := Lib.hid (HM.out.below hb)
  clear hb HM
  have HM := HM2
  clear HM2
  go_wp2_with (first | (refine wv_zeroF rfl rfl ?_) | (first | ((first | refine wv_box rfl _ _ rfl rfl HM ?_ | refine wv_alloc rfl _ rfl (by exact rowOf) HM ?_); first | (have q : dV HM = 0 := rfl; clear q HM; intro g1 u1 HG1 HM) | (have q : dV HM = 1 := rfl; clear q HM; intro g2 u2 HG2 HM) | (have q : dV HM = 2 := rfl; clear q HM; intro g3 u3 HG3 HM) | (have q : dV HM = 3 := rfl; clear q HM; intro g4 u4 HG4 HM) | (have q : dV HM = 4 := rfl; clear q HM; intro g5 u5 HG5 HM) | (have q : dV HM = 5 := rfl; clear q HM; intro g6 u6 HG6 HM) | (have q : dV HM = 6 := rfl; clear q HM; intro g7 u7 HG7 HM) | (have q : dV HM = 7 := rfl; clear q HM; intro g8 u8 HG8 HM) | (have q : dV HM = 8 := rfl; clear q HM; intro g9 u9 HG9 HM) | (have q : dV HM = 9 := rfl; clear q HM; intro g10 u10 HG10 HM) | (have q : dV HM = 10 := rfl; clear q HM; intro g11 u11 HG11 HM) | (have q : dV HM = 11 := rfl; clear q HM; intro g12 u12 HG12 HM) | (have q : dV HM = 12 := rfl; clear q HM; intro g13 u13 HG13 HM) | (have q : dV HM = 13 := rfl; clear q HM; intro g14 u14 HG14 HM)) | (refine wv_load rfl _ _ rfl rfl (by exact rowOf) HM (by exact vmemOf) (by exact vsizOf) ?_) | (refine wv_store rfl _ _ _ rfl rfl rfl (by exact rowOf) HM (by exact vidxOf) (by exact vsizOf) (by exact vsizOf) (by exact voneOf) ?_; clear HM; intro us HM; dsimp only [List.set] at HM) | (refine wl_zero rfl _ rfl (by exact arrOf) (by kernel_rfl) ?_)) | (refine wv_elem rfl _ rfl rfl HM (by exact vmemOf) (by exact velOf) ?_) | (refine wv_put rfl _ _ rfl rfl rfl HM (by exact vidxOf) (by exact vltOf) ?_; clear HM; intro us HM; dsimp only [List.set] at HM) | (refine wv_loadS rfl _ _ rfl rfl (by exact arrOf) HM (by exact vmemOf) (by exact vsubF) (by exact lenOf) ?_))
  refine (HWF.out _ (HE.out.below HM.out.1)).mono ?_
  intro e w3 ho
  unfold WrOut at ho
  cases hc : chkB K l q p with
  | false =>
    rw [hc, if_neg Bool.false_ne_true] at ho
    obtain ⟨rfl, hb⟩ := ho
    have HM2 := Lib.hid (HM.out.below hb)
    clear hb HM hc HWF
    have HM := HM2
    clear HM2
    go_wp2_with (first | (refine wv_zeroF rfl rfl ?_) | (first | ((first | refine wv_box rfl _ _ rfl rfl HM ?_ | refine wv_alloc rfl _ rfl (by exact rowOf) HM ?_); first | (have q : dV HM = 0 := rfl; clear q HM; intro g1 u1 HG1 HM) | (have q : dV HM = 1 := rfl; clear q HM; intro g2 u2 HG2 HM) | (have q : dV HM = 2 := rfl; clear q HM; intro g3 u3 HG3 HM) | (have q : dV HM = 3 := rfl; clear q HM; intro g4 u4 HG4 HM) | (have q : dV HM = 4 := rfl; clear q HM; intro g5 u5 HG5 HM) | (have q : dV HM = 5 := rfl; clear q HM; intro g6 u6 HG6 HM) | (have q : dV HM = 6 := rfl; clear q HM; intro g7 u7 HG7 HM) | (have q : dV HM = 7 := rfl; clear q HM; intro g8 u8 HG8 HM) | (have q : dV HM = 8 := rfl; clear q HM; intro g9 u9 HG9 HM) | (have q : dV HM = 9 := rfl; clear q HM; intro g10 u10 HG10 HM) | (have q : dV HM = 10 := rfl; clear q HM; intro g11 u11 HG11 HM) | (have q : dV HM = 11 := rfl; clear q HM; intro g12 u12 HG12 HM) | (have q : dV HM = 12 := rfl; clear q HM; intro g13 u13 HG13 HM) | (have q : dV HM = 13 := rfl; clear q HM; intro g14 u14 HG14 HM)) | (refine wv_load rfl _ _ rfl rfl (by exact rowOf) HM (by exact vmemOf) (by exact vsizOf) ?_) | (refine wv_store rfl _ _ _ rfl rfl rfl (by exact rowOf) HM (by exact vidxOf) (by exact vsizOf) (by exact vsizOf) (by exact voneOf) ?_; clear HM; intro us HM; dsimp only [List.set] at HM) | (refine wl_zero rfl _ rfl (by exact arrOf) (by kernel_rfl) ?_)) | (refine wv_elem rfl _ rfl rfl HM (by exact vmemOf) (by exact velOf) ?_) | (refine wv_put rfl _ _ rfl rfl rfl HM (by exact vidxOf) (by exact vltOf) ?_; clear HM; intro us HM; dsimp only [List.set] at HM) | (refine wv_loadS rfl _ _ rfl rfl (by exact arrOf) HM (by exact vmemOf) (by exact vsubF) (by exact lenOf) ?_))
    refine (HWG.out _ (HE.out.below HM.out.1)).mono ?_
    intro e w4 ho
    have hex : ∃ v x, e = .returned (.tuple #[v, x]) ∧ Below w3.heap.size w3 w4 := by
      unfold WrOut at ho
      split at ho
      · obtain ⟨A, n, c, rfl, -, hb⟩ := ho; exact ⟨_, _, rfl, hb⟩
      · obtain ⟨rfl, hb⟩ := ho; exact ⟨_, _, rfl, hb⟩
    obtain ⟨v, x, rfl, hb⟩ := hex
    have HM2 := Lib.hid (HM.out.below hb)
    clear hb HM ho HWG
    have HM := HM2
    clear HM2
    go_wp2_with (first | (refine wv_zeroF rfl rfl ?_) | (first | ((first | refine wv_box rfl _ _ rfl rfl HM ?_ | refine wv_alloc rfl _ rfl (by exact rowOf) HM ?_); first | (have q : dV HM = 0 := rfl; clear q HM; intro g1 u1 HG1 HM) | (have q : dV HM = 1 := rfl; clear q HM; intro g2 u2 HG2 HM) | (have q : dV HM = 2 := rfl; clear q HM; intro g3 u3 HG3 HM) | (have q : dV HM = 3 := rfl; clear q HM; intro g4 u4 HG4 HM) | (have q : dV HM = 4 := rfl; clear q HM; intro g5 u5 HG5 HM) | (have q : dV HM = 5 := rfl; clear q HM; intro g6 u6 HG6 HM) | (have q : dV HM = 6 := rfl; clear q HM; intro g7 u7 HG7 HM) | (have q : dV HM = 7 := rfl; clear q HM; intro g8 u8 HG8 HM) | (have q : dV HM = 8 := rfl; clear q HM; intro g9 u9 HG9 HM) | (have q : dV HM = 9 := rfl; clear q HM; intro g10 u10 HG10 HM) | (have q : dV HM = 10 := rfl; clear q HM; intro g11 u11 HG11 HM) | (have q : dV HM = 11 := rfl; clear q HM; intro g12 u12 HG12 HM) | (have q : dV HM = 12 := rfl; clear q HM; intro g13 u13 HG13 HM) | (have q : dV HM = 13 := rfl; clear q HM; intro g14 u14 HG14 HM)) | (refine wv_load rfl _ _ rfl rfl (by exact rowOf) HM (by exact vmemOf) (by exact vsizOf) ?_) | (refine wv_store rfl _ _ _ rfl rfl rfl (by exact rowOf) HM (by exact vidxOf) (by exact vsizOf) (by exact vsizOf) (by exact voneOf) ?_; clear HM; intro us HM; dsimp only [List.set] at HM) | (refine wl_zero rfl _ rfl (by exact arrOf) (by kernel_rfl) ?_)) | (refine wv_elem rfl _ rfl rfl HM (by exact vmemOf) (by exact velOf) ?_) | (refine wv_put rfl _ _ rfl rfl rfl HM (by exact vidxOf) (by exact vltOf) ?_; clear HM; intro us HM; dsimp only [List.set] at HM) | (refine wv_loadS rfl _ _ rfl rfl (by exact arrOf) HM (by exact vmemOf) (by exact vsubF) (by exact lenOf) ?_))
    go_ret
    exact ⟨rfl, HM.out.1⟩
  | true =>
    rw [hc, if_pos rfl] at ho
    obtain ⟨A, n, c, rfl, hr, hb⟩ := ho
    have HC := Lib.hid hc
    have HR := Lib.hid hr
    have HM2 := Lib.hid (HM.out.below hb).base
    clear hb HM hc hr HWF
    have HM := HM2
    clear HM2
    go_wp2_with (first | (refine wv_zeroF rfl rfl ?_) | (first | ((first | refine wv_box rfl _ _ rfl rfl HM ?_ | refine wv_alloc rfl _ rfl (by exact rowOf) HM ?_); first | (have q : dV HM = 0 := rfl; clear q HM; intro g1 u1 HG1 HM) | (have q : dV HM = 1 := rfl; clear q HM; intro g2 u2 HG2 HM) | (have q : dV HM = 2 := rfl; clear q HM; intro g3 u3 HG3 HM) | (have q : dV HM = 3 := rfl; clear q HM; intro g4 u4 HG4 HM) | (have q : dV HM = 4 := rfl; clear q HM; intro g5 u5 HG5 HM) | (have q : dV HM = 5 := rfl; clear q HM; intro g6 u6 HG6 HM) | (have q : dV HM = 6 := rfl; clear q HM; intro g7 u7 HG7 HM) | (have q : dV HM = 7 := rfl; clear q HM; intro g8 u8 HG8 HM) | (have q : dV HM = 8 := rfl; clear q HM; intro g9 u9 HG9 HM) | (have q : dV HM = 9 := rfl; clear q HM; intro g10 u10 HG10 HM) | (have q : dV HM = 10 := rfl; clear q HM; intro g11 u11 HG11 HM) | (have q : dV HM = 11 := rfl; clear q HM; intro g12 u12 HG12 HM) | (have q : dV HM = 12 := rfl; clear q HM; intro g13 u13 HG13 HM) | (have q : dV HM = 13 := rfl; clear q HM; intro g14 u14 HG14 HM)) | (refine wv_load rfl _ _ rfl rfl (by exact rowOf) HM (by exact vmemOf) (by exact vsizOf) ?_) | (refine wv_store rfl _ _ _ rfl rfl rfl (by exact rowOf) HM (by exact vidxOf) (by exact vsizOf) (by exact vsizOf) (by exact voneOf) ?_; clear HM; intro us HM; dsimp only [List.set] at HM) | (refine wl_zero rfl _ rfl (by exact arrOf) (by kernel_rfl) ?_)) | (refine wv_elem rfl _ rfl rfl HM (by exact vmemOf) (by exact velOf) ?_) | (refine wv_put rfl _ _ rfl rfl rfl HM (by exact vidxOf) (by exact vltOf) ?_; clear HM; intro us HM; dsimp only [List.set] at HM) | (refine wv_loadS rfl _ _ rfl rfl (by exact arrOf) HM (by exact vmemOf) (by exact vsubF) (by exact lenOf) ?_))
    refine (HWG.out _ (HE.out.below HM.out.1)).mono ?_
    intro e w4 ho
    unfold WrOut at ho
    cases hc : chkB K' l' q' p with
    | false =>
      rw [hc, if_neg Bool.false_ne_true] at ho
      obtain ⟨rfl, hb⟩ := ho
      have HM2 := Lib.hid (HM.out.below hb)
      clear hb HM hc HWG
      have HM := HM2
      clear HM2
      go_wp2_with (first | (refine wv_zeroF rfl rfl ?_) | (first | ((first | refine wv_box rfl _ _ rfl rfl HM ?_ | refine wv_alloc rfl _ rfl (by exact rowOf) HM ?_); first | (have q : dV HM = 0 := rfl; clear q HM; intro g1 u1 HG1 HM) | (have q : dV HM = 1 := rfl; clear q HM; intro g2 u2 HG2 HM) | (have q : dV HM = 2 := rfl; clear q HM; intro g3 u3 HG3 HM) | (have q : dV HM = 3 := rfl; clear q HM; intro g4 u4 HG4 HM) | (have q : dV HM = 4 := rfl; clear q HM; intro g5 u5 HG5 HM) | (have q : dV HM = 5 := rfl; clear q HM; intro g6 u6 HG6 HM) | (have q : dV HM = 6 := rfl; clear q HM; intro g7 u7 HG7 HM) | (have q : dV HM = 7 := rfl; clear q HM; intro g8 u8 HG8 HM) | (have q : dV HM = 8 := rfl; clear q HM; intro g9 u9 HG9 HM) | (have q : dV HM = 9 := rfl; clear q HM; intro g10 u10 HG10 HM) | (have q : dV HM = 10 := rfl; clear q HM; intro g11 u11 HG11 HM) | (have q : dV HM = 11 := rfl; clear q HM; intro g12 u12 HG12 HM) | (have q : dV HM = 12 := rfl; clear q HM; intro g13 u13 HG13 HM) | (have q : dV HM = 13 := rfl; clear q HM; intro g14 u14 HG14 HM)) | (refine wv_load rfl _ _ rfl rfl (by exact rowOf) HM (by exact vmemOf) (by exact vsizOf) ?_) | (refine wv_store rfl _ _ _ rfl rfl rfl (by exact rowOf) HM (by exact vidxOf) (by exact vsizOf) (by exact vsizOf) (by exact voneOf) ?_; clear HM; intro us HM; dsimp only [List.set] at HM) | (refine wl_zero rfl _ rfl (by exact arrOf) (by kernel_rfl) ?_)) | (refine wv_elem rfl _ rfl rfl HM (by exact vmemOf) (by exact velOf) ?_) | (refine wv_put rfl _ _ rfl rfl rfl HM (by exact vidxOf) (by exact vltOf) ?_; clear HM; intro us HM; dsimp only [List.set] at HM) | (refine wv_loadS rfl _ _ rfl rfl (by exact arrOf) HM (by exact vmemOf) (by exact vsubF) (by exact lenOf) ?_))
      go_ret
      exact ⟨rfl, HM.out.1⟩
    | true =>
      rw [hc, if_pos rfl] at ho
      obtain ⟨A', n', c', rfl, hr', hb⟩ := ho
      have HC' := Lib.hid hc
      have HR' := Lib.hid hr'
      have HRb := Lib.hid (HR.out.below hb)
      have HM2 := Lib.hid (HM.out.below hb).base
      clear hb HM hc hr' HWG HR
      have HM := HM2
      clear HM2
      have hs := str_beqF (wrB K l q p) (wrB K' l' q' p) HRb.out.2.1 HR'.out.2.1
      have hgd := grdFrame
      have heq := fun u => run_eq_fr HFF.out HGG.out u
      have h1 := (chkB_iff _ _ _ _).1 HC.out
      have h2 := (chkB_iff _ _ _ _).1 HC'.out
      go_wp2_with (first | (refine wv_zeroF rfl rfl ?_) | (first | ((first | refine wv_box rfl _ _ rfl rfl HM ?_ | refine wv_alloc rfl _ rfl (by exact rowOf) HM ?_); first | (have q : dV HM = 0 := rfl; clear q HM; intro g1 u1 HG1 HM) | (have q : dV HM = 1 := rfl; clear q HM; intro g2 u2 HG2 HM) | (have q : dV HM = 2 := rfl; clear q HM; intro g3 u3 HG3 HM) | (have q : dV HM = 3 := rfl; clear q HM; intro g4 u4 HG4 HM) | (have q : dV HM = 4 := rfl; clear q HM; intro g5 u5 HG5 HM) | (have q : dV HM = 5 := rfl; clear q HM; intro g6 u6 HG6 HM) | (have q : dV HM = 6 := rfl; clear q HM; intro g7 u7 HG7 HM) | (have q : dV HM = 7 := rfl; clear q HM; intro g8 u8 HG8 HM) | (have q : dV HM = 8 := rfl; clear q HM; intro g9 u9 HG9 HM) | (have q : dV HM = 9 := rfl; clear q HM; intro g10 u10 HG10 HM) | (have q : dV HM = 10 := rfl; clear q HM; intro g11 u11 HG11 HM) | (have q : dV HM = 11 := rfl; clear q HM; intro g12 u12 HG12 HM) | (have q : dV HM = 12 := rfl; clear q HM; intro g13 u13 HG13 HM) | (have q : dV HM = 13 := rfl; clear q HM; intro g14 u14 HG14 HM)) | (refine wv_load rfl _ _ rfl rfl (by exact rowOf) HM (by exact vmemOf) (by exact vsizOf) ?_) | (refine wv_store rfl _ _ _ rfl rfl rfl (by exact rowOf) HM (by exact vidxOf) (by exact vsizOf) (by exact vsizOf) (by exact voneOf) ?_; clear HM; intro us HM; dsimp only [List.set] at HM) | (refine wl_zero rfl _ rfl (by exact arrOf) (by kernel_rfl) ?_)) | (refine wv_elem rfl _ rfl rfl HM (by exact vmemOf) (by exact velOf) ?_) | (refine wv_put rfl _ _ rfl rfl rfl HM (by exact vidxOf) (by exact vltOf) ?_; clear HM; intro us HM; dsimp only [List.set] at HM) | (refine wv_loadS rfl _ _ rfl rfl (by exact arrOf) HM (by exact vmemOf) (by exact vsubF) (by exact lenOf) ?_))
      by_cases hw : wrB K l q p = wrB K' l' q' p
      · obtain ⟨e1, e2, e3⟩ := fr_apart h1 h2 HFF.out.ll HFF.out.lq HGG.out.ll HGG.out.lq hw
        rw [decide_eq_true hw] at hs
        rw [decide_eq_true e1, decide_eq_true e2, decide_eq_true e3] at heq
        simp only [Bool.and_self] at heq
        clear e1 e2 e3 hw h1 h2
        refine wp_region_held_drew (S := AprP g1 g2 F G A n (wrB K l q p) A' n' (wrB K' l' q' p)) (by kernel_rfl) ⟨HM.out.get (by exact vmemOf), HM.out.get (by exact vmemOf), HRb.out, HR'.out⟩ (fun hHeld => ?_)
        (refine wa_take (i := 0) (v := .bool true) rfl (by kernel_rfl) (by kernel_rfl) (by kernel_rfl) (fun _ _ _ h => h) (yi_free rfl (fun u => rfl)) hHeld rfl ?_; (try simp only [Act.put, List.setIfInBounds_toArray, List.set_cons_zero, List.set_cons_succ]))
        (refine wa_take (i := 1) (v := .bool true) rfl (by kernel_rfl) (by kernel_rfl) (by kernel_rfl) (fun _ _ _ h => h) (yi_free rfl (fun u => rfl)) hHeld rfl ?_; (try simp only [Act.put, List.setIfInBounds_toArray, List.set_cons_zero, List.set_cons_succ]))
        (refine wa_take (i := 2) (v := .slice A n c) rfl (by kernel_rfl) (by kernel_rfl) (by kernel_rfl) (fun _ _ _ h => h) (yi_free rfl (fun u => rfl)) hHeld rfl ?_; (try simp only [Act.put, List.setIfInBounds_toArray, List.set_cons_zero, List.set_cons_succ]))
        (refine wa_take (i := 3) rfl (by kernel_rfl) (by kernel_rfl) (by kernel_rfl) (fun _ _ _ h => h) (yv_str rfl _ rfl rfl (fun u hu => hu.2.2.1)) hHeld rfl ?_; (try simp only [Act.put, List.setIfInBounds_toArray, List.set_cons_zero, List.set_cons_succ]))
        (refine wa_take (i := 4) (v := .slice A' n' c') rfl (by kernel_rfl) (by kernel_rfl) (by kernel_rfl) (fun _ _ _ h => h) (yi_free rfl (fun u => rfl)) hHeld rfl ?_; (try simp only [Act.put, List.setIfInBounds_toArray, List.set_cons_zero, List.set_cons_succ]))
        (refine wa_take (i := 5) rfl (by kernel_rfl) (by kernel_rfl) (by kernel_rfl) (fun _ _ _ h => h) (yv_str rfl _ rfl rfl (fun u hu => hu.2.2.2)) hHeld rfl ?_; (try simp only [Act.put, List.setIfInBounds_toArray, List.set_cons_zero, List.set_cons_succ]))
        (refine wa_take (i := 6) (v := .bool true) rfl (by kernel_rfl) (by kernel_rfl) (by kernel_rfl) (fun _ _ _ h => h) (yi_free rfl (fun u => by go_simp)) hHeld rfl ?_; (try simp only [Act.put, List.setIfInBounds_toArray, List.set_cons_zero, List.set_cons_succ]))
        (refine wa_take (i := 7) rfl (by kernel_rfl) (by kernel_rfl) (by kernel_rfl) (fun _ _ _ h => h) (yv_load rfl _ _ rfl rfl (fun u hu => run_load_blk rowFr hu.1 ((icells_size _).trans LF.out))) hHeld rfl ?_; (try simp only [Act.put, List.setIfInBounds_toArray, List.set_cons_zero, List.set_cons_succ]))
        (refine wa_take (i := 8) rfl (by kernel_rfl) (by kernel_rfl) (by kernel_rfl) (fun _ _ _ h => h) (yv_load rfl _ _ rfl rfl (fun u hu => run_load_blk rowFr hu.2.1 ((icells_size _).trans LG.out))) hHeld rfl ?_; (try simp only [Act.put, List.setIfInBounds_toArray, List.set_cons_zero, List.set_cons_succ]))
        (refine wa_take (i := 9) (v := .bool true) rfl (by kernel_rfl) (by kernel_rfl) (by kernel_rfl) (fun _ _ _ h => h) (yi_free rfl (fun u => by go_simp)) hHeld rfl ?_; (try simp only [Act.put, List.setIfInBounds_toArray, List.set_cons_zero, List.set_cons_succ]))
        (refine wa_take (i := 10) (v := .bool true) rfl (by kernel_rfl) (by kernel_rfl) (by kernel_rfl) (fun _ _ _ h => h) (yi_free rfl (fun u => by go_simp)) hHeld rfl ?_; (try simp only [Act.put, List.setIfInBounds_toArray, List.set_cons_zero, List.set_cons_succ]))
        (refine wa_take (i := 11) (v := .bool true) rfl (by kernel_rfl) (by kernel_rfl) (by kernel_rfl) (fun _ _ _ h => h) (yi_free rfl (fun u => rfl)) hHeld rfl ?_; (try simp only [Act.put, List.setIfInBounds_toArray, List.set_cons_zero, List.set_cons_succ]))
        (refine wa_take (i := 12) (v := .bool true) rfl (by kernel_rfl) (by kernel_rfl) (by kernel_rfl) (fun _ _ _ h => h) (yi_free rfl (fun u => rfl)) hHeld rfl ?_; (try simp only [Act.put, List.setIfInBounds_toArray, List.set_cons_zero, List.set_cons_succ]))
        refine wpAnyH_done (by kernel_rfl) ?_ _
        go_wp2
        go_ret
        exact ⟨rfl, Below.drew HM.out.1⟩
      · have hne : (decide (K = K') && (decide (l = l') && decide (q = q'))) = false := by
          rw [Bool.eq_false_iff]
          intro h
          simp only [Bool.and_eq_true, decide_eq_true_eq] at h
          exact hw (by rw [h.1, h.2.1, h.2.2])
        rw [decide_eq_false hw] at hs
        rw [hne] at heq
        clear hne hw h1 h2
        refine wp_region_held_drew (S := AprP g1 g2 F G A n (wrB K l q p) A' n' (wrB K' l' q' p)) (by kernel_rfl) ⟨HM.out.get (by exact vmemOf), HM.out.get (by exact vmemOf), HRb.out, HR'.out⟩ (fun hHeld => ?_)
        (refine wa_take (i := 0) (v := .bool true) rfl (by kernel_rfl) (by kernel_rfl) (by kernel_rfl) (fun _ _ _ h => h) (yi_free rfl (fun u => rfl)) hHeld rfl ?_; (try simp only [Act.put, List.setIfInBounds_toArray, List.set_cons_zero, List.set_cons_succ]))
        (refine wa_take (i := 1) (v := .bool true) rfl (by kernel_rfl) (by kernel_rfl) (by kernel_rfl) (fun _ _ _ h => h) (yi_free rfl (fun u => rfl)) hHeld rfl ?_; (try simp only [Act.put, List.setIfInBounds_toArray, List.set_cons_zero, List.set_cons_succ]))
        (refine wa_take (i := 2) (v := .slice A n c) rfl (by kernel_rfl) (by kernel_rfl) (by kernel_rfl) (fun _ _ _ h => h) (yi_free rfl (fun u => rfl)) hHeld rfl ?_; (try simp only [Act.put, List.setIfInBounds_toArray, List.set_cons_zero, List.set_cons_succ]))
        (refine wa_take (i := 3) rfl (by kernel_rfl) (by kernel_rfl) (by kernel_rfl) (fun _ _ _ h => h) (yv_str rfl _ rfl rfl (fun u hu => hu.2.2.1)) hHeld rfl ?_; (try simp only [Act.put, List.setIfInBounds_toArray, List.set_cons_zero, List.set_cons_succ]))
        (refine wa_take (i := 4) (v := .slice A' n' c') rfl (by kernel_rfl) (by kernel_rfl) (by kernel_rfl) (fun _ _ _ h => h) (yi_free rfl (fun u => rfl)) hHeld rfl ?_; (try simp only [Act.put, List.setIfInBounds_toArray, List.set_cons_zero, List.set_cons_succ]))
        (refine wa_take (i := 5) rfl (by kernel_rfl) (by kernel_rfl) (by kernel_rfl) (fun _ _ _ h => h) (yv_str rfl _ rfl rfl (fun u hu => hu.2.2.2)) hHeld rfl ?_; (try simp only [Act.put, List.setIfInBounds_toArray, List.set_cons_zero, List.set_cons_succ]))
        (refine wa_take (i := 6) (v := .bool false) rfl (by kernel_rfl) (by kernel_rfl) (by kernel_rfl) (fun _ _ _ h => h) (yi_free rfl (fun u => by go_simp)) hHeld rfl ?_; (try simp only [Act.put, List.setIfInBounds_toArray, List.set_cons_zero, List.set_cons_succ]))
        (refine wa_take (i := 7) rfl (by kernel_rfl) (by kernel_rfl) (by kernel_rfl) (fun _ _ _ h => h) (yv_load rfl _ _ rfl rfl (fun u hu => run_load_blk rowFr hu.1 ((icells_size _).trans LF.out))) hHeld rfl ?_; (try simp only [Act.put, List.setIfInBounds_toArray, List.set_cons_zero, List.set_cons_succ]))
        (refine wa_take (i := 8) rfl (by kernel_rfl) (by kernel_rfl) (by kernel_rfl) (fun _ _ _ h => h) (yv_load rfl _ _ rfl rfl (fun u hu => run_load_blk rowFr hu.2.1 ((icells_size _).trans LG.out))) hHeld rfl ?_; (try simp only [Act.put, List.setIfInBounds_toArray, List.set_cons_zero, List.set_cons_succ]))
        (refine wa_take (i := 9) (v := .bool false) rfl (by kernel_rfl) (by kernel_rfl) (by kernel_rfl) (fun _ _ _ h => h) (yi_free rfl (fun u => by go_simp)) hHeld rfl ?_; (try simp only [Act.put, List.setIfInBounds_toArray, List.set_cons_zero, List.set_cons_succ]))
        (refine wa_take (i := 10) (v := .bool true) rfl (by kernel_rfl) (by kernel_rfl) (by kernel_rfl) (fun _ _ _ h => h) (yi_free rfl (fun u => by go_simp)) hHeld rfl ?_; (try simp only [Act.put, List.setIfInBounds_toArray, List.set_cons_zero, List.set_cons_succ]))
        (refine wa_take (i := 11) (v := .bool true) rfl (by kernel_rfl) (by kernel_rfl) (by kernel_rfl) (fun _ _ _ h => h) (yi_free rfl (fun u => rfl)) hHeld rfl ?_; (try simp only [Act.put, List.setIfInBounds_toArray, List.set_cons_zero, List.set_cons_succ]))
        (refine wa_take (i := 12) (v := .bool true) rfl (by kernel_rfl) (by kernel_rfl) (by kernel_rfl) (fun _ _ _ h => h) (yi_free rfl (fun u => rfl)) hHeld rfl ?_; (try simp only [Act.put, List.setIfInBounds_toArray, List.set_cons_zero, List.set_cons_succ]))
        refine wpAnyH_done (by kernel_rfl) ?_ _
        go_wp2
        go_ret
        exact ⟨rfl, Below.drew HM.out.1⟩
end Go.Proofs.YtgpdgegelipboaaDoor.Lp
namespace Go.Proofs.YtgpdgegelipboaaDoor.Lp
open Go.RowKit Go.Proofs.YtgpdgegelipboaaDoor.Fx Go.Proofs.YtgpdgegelipboaaDoor.Fq Go.Proofs.YtgpdgegelipboaaDoor.Tb
open Go.Proofs.YtgpdgegelipboaaDoor.Yr (chkB chkB_iff wrB symsP fr_bits Fr Good)
open Go.Proofs.YtgpdgegelipboaaDoor.Cd (Pr Tb RdT tbs prs allErr e0 stE endBits AllOut AllP isB_parts)
/-- All, of a frame's symbols -/
theorem all_case {w w' : World} {K : Int} {l q p : List Int} {e : Ending} (hfr : Fr K l q p) (h : AllOut w (symsP K l q p) e w') : ∃ A m c N, e = .returned (.tuple #[.agg #[.slice A m c, .int .i64 N], .int .i64 0]) ∧ Rd w' A m (wrB K l q p) ∧ Below w.heap.size w w' := by
  obtain ⟨h1, h2, -⟩ := fr_bits hfr
  obtain ⟨A, n, c, N, rfl, hI, -, hb⟩ := Cd.AllOut.good h h1 (by omega)
  obtain ⟨-, -, hr, -⟩ := isB_parts hI
  exact ⟨A, n, c, _, rfl, hr, hb⟩
theorem span_fine {xs : List Int} {s : Int} (h : Cd.okP (s, xs) = true) : ∃ a b : Int, spanV xs s = .tuple #[.int .i64 a, .int .i64 b, .int .i64 0] := by
  unfold Cd.okP at h
  unfold spanV spanT
  rw [if_pos h]
  exact ⟨_, _, rfl⟩
theorem c1z {a b : Int} (h : a = b) : some (Value.int .i64 a) = some (Value.int .i64 b) := by rw [h]
def TblP (g1 : Nat) (F : List Int) (A : Option Addr) (n : Nat) (ss : List Int) (u : World) : Prop := Blk u g1 26 (icells F) ∧ RdI u A n ss
set_option maxRecDepth 100000 in
set_option maxHeartbeats 8000000 in
theorem tables_law (F : List Int) (K : Int) (l q : List Int) (w : World) (hF : FrS F K l q) (he : Edg w) :
    Calls Tryd.prog 6 #[.agg (icells F)] w (ValQ w (.bool true)) := by
  have HM := Lib.hid (MV.start w)
  have HE := Lib.hid he
  have HF := Lib.hid hF
  have LF := Lib.hid hF.len
  have LZ := Lib.hid (show (zr 6).length = 6 from zr_length 6)
  clear he hF
  go_enter Tryd.func6, Tryd.ntmps6
  go_wp2_with (first | (refine wv_zeroF rfl rfl ?_) | (first | ((first | refine wv_box rfl _ _ rfl rfl HM ?_ | refine wv_alloc rfl _ rfl (by exact rowOf) HM ?_); first | (have q : dV HM = 0 := rfl; clear q HM; intro g1 u1 HG1 HM) | (have q : dV HM = 1 := rfl; clear q HM; intro g2 u2 HG2 HM) | (have q : dV HM = 2 := rfl; clear q HM; intro g3 u3 HG3 HM) | (have q : dV HM = 3 := rfl; clear q HM; intro g4 u4 HG4 HM) | (have q : dV HM = 4 := rfl; clear q HM; intro g5 u5 HG5 HM) | (have q : dV HM = 5 := rfl; clear q HM; intro g6 u6 HG6 HM) | (have q : dV HM = 6 := rfl; clear q HM; intro g7 u7 HG7 HM) | (have q : dV HM = 7 := rfl; clear q HM; intro g8 u8 HG8 HM) | (have q : dV HM = 8 := rfl; clear q HM; intro g9 u9 HG9 HM) | (have q : dV HM = 9 := rfl; clear q HM; intro g10 u10 HG10 HM) | (have q : dV HM = 10 := rfl; clear q HM; intro g11 u11 HG11 HM) | (have q : dV HM = 11 := rfl; clear q HM; intro g12 u12 HG12 HM) | (have q : dV HM = 12 := rfl; clear q HM; intro g13 u13 HG13 HM) | (have q : dV HM = 13 := rfl; clear q HM; intro g14 u14 HG14 HM)) | (refine wv_load rfl _ _ rfl rfl (by exact rowOf) HM (by exact vmemOf) (by exact vsizOf) ?_) | (refine wv_store rfl _ _ _ rfl rfl rfl (by exact rowOf) HM (by exact vidxOf) (by exact vsizOf) (by exact vsizOf) (by exact voneOf) ?_; clear HM; intro us HM; dsimp only [List.set] at HM) | (refine wl_zero rfl _ rfl (by exact arrOf) (by kernel_rfl) ?_)) | (refine wv_elem rfl _ rfl rfl HM (by exact vmemOf) (by exact velOf) ?_) | (refine wv_put rfl _ _ rfl rfl rfl HM (by exact vidxOf) (by exact vltOf) ?_; clear HM; intro us HM; dsimp only [List.set] at HM) | (refine wv_loadS rfl _ _ rfl rfl (by exact arrOf) HM (by exact vmemOf) (by exact vsubF) (by exact lenOf) ?_))
  refine (flive_any _ (HE.out.below HM.out.1)).mono ?_
  rintro e w2 ⟨rfl, hb⟩
  have HM2 := Lib.hid (HM.out.below hb)
  clear hb HM
  have HM := HM2
  clear HM2
  go_wp2_with (first | (refine wv_zeroF rfl rfl ?_) | (first | ((first | refine wv_box rfl _ _ rfl rfl HM ?_ | refine wv_alloc rfl _ rfl (by exact rowOf) HM ?_); first | (have q : dV HM = 0 := rfl; clear q HM; intro g1 u1 HG1 HM) | (have q : dV HM = 1 := rfl; clear q HM; intro g2 u2 HG2 HM) | (have q : dV HM = 2 := rfl; clear q HM; intro g3 u3 HG3 HM) | (have q : dV HM = 3 := rfl; clear q HM; intro g4 u4 HG4 HM) | (have q : dV HM = 4 := rfl; clear q HM; intro g5 u5 HG5 HM) | (have q : dV HM = 5 := rfl; clear q HM; intro g6 u6 HG6 HM) | (have q : dV HM = 6 := rfl; clear q HM; intro g7 u7 HG7 HM) | (have q : dV HM = 7 := rfl; clear q HM; intro g8 u8 HG8 HM) | (have q : dV HM = 8 := rfl; clear q HM; intro g9 u9 HG9 HM) | (have q : dV HM = 9 := rfl; clear q HM; intro g10 u10 HG10 HM) | (have q : dV HM = 10 := rfl; clear q HM; intro g11 u11 HG11 HM) | (have q : dV HM = 11 := rfl; clear q HM; intro g12 u12 HG12 HM) | (have q : dV HM = 12 := rfl; clear q HM; intro g13 u13 HG13 HM) | (have q : dV HM = 13 := rfl; clear q HM; intro g14 u14 HG14 HM)) | (refine wv_load rfl _ _ rfl rfl (by exact rowOf) HM (by exact vmemOf) (by exact vsizOf) ?_) | (refine wv_store rfl _ _ _ rfl rfl rfl (by exact rowOf) HM (by exact vidxOf) (by exact vsizOf) (by exact vsizOf) (by exact voneOf) ?_; clear HM; intro us HM; dsimp only [List.set] at HM) | (refine wl_zero rfl _ rfl (by exact arrOf) (by kernel_rfl) ?_)) | (refine wv_elem rfl _ rfl rfl HM (by exact vmemOf) (by exact velOf) ?_) | (refine wv_put rfl _ _ rfl rfl rfl HM (by exact vidxOf) (by exact vltOf) ?_; clear HM; intro us HM; dsimp only [List.set] at HM) | (refine wv_loadS rfl _ _ rfl rfl (by exact arrOf) HM (by exact vmemOf) (by exact vsubF) (by exact lenOf) ?_))
  refine (ftables_any F K l q _ HF.out (HE.out.below HM.out.1)).mono ?_
  intro e w3 ho
  unfold TbOut at ho
  by_cases hc : ¬ K = 1 ∧ chkB K l q (zr 6) = true
  rotate_left
  · rw [if_neg hc] at ho
    obtain ⟨rfl, hb⟩ := ho
    have HM2 := Lib.hid (HM.out.below hb)
    clear hb HM hc
    have HM := HM2
    clear HM2
    go_wp2_with (first | (refine wv_zeroF rfl rfl ?_) | (first | ((first | refine wv_box rfl _ _ rfl rfl HM ?_ | refine wv_alloc rfl _ rfl (by exact rowOf) HM ?_); first | (have q : dV HM = 0 := rfl; clear q HM; intro g1 u1 HG1 HM) | (have q : dV HM = 1 := rfl; clear q HM; intro g2 u2 HG2 HM) | (have q : dV HM = 2 := rfl; clear q HM; intro g3 u3 HG3 HM) | (have q : dV HM = 3 := rfl; clear q HM; intro g4 u4 HG4 HM) | (have q : dV HM = 4 := rfl; clear q HM; intro g5 u5 HG5 HM) | (have q : dV HM = 5 := rfl; clear q HM; intro g6 u6 HG6 HM) | (have q : dV HM = 6 := rfl; clear q HM; intro g7 u7 HG7 HM) | (have q : dV HM = 7 := rfl; clear q HM; intro g8 u8 HG8 HM) | (have q : dV HM = 8 := rfl; clear q HM; intro g9 u9 HG9 HM) | (have q : dV HM = 9 := rfl; clear q HM; intro g10 u10 HG10 HM) | (have q : dV HM = 10 := rfl; clear q HM; intro g11 u11 HG11 HM) | (have q : dV HM = 11 := rfl; clear q HM; intro g12 u12 HG12 HM) | (have q : dV HM = 12 := rfl; clear q HM; intro g13 u13 HG13 HM) | (have q : dV HM = 13 := rfl; clear q HM; intro g14 u14 HG14 HM)) | (refine wv_load rfl _ _ rfl rfl (by exact rowOf) HM (by exact vmemOf) (by exact vsizOf) ?_) | (refine wv_store rfl _ _ _ rfl rfl rfl (by exact rowOf) HM (by exact vidxOf) (by exact vsizOf) (by exact vsizOf) (by exact voneOf) ?_; clear HM; intro us HM; dsimp only [List.set] at HM) | (refine wl_zero rfl _ rfl (by exact arrOf) (by kernel_rfl) ?_)) | (refine wv_elem rfl _ rfl rfl HM (by exact vmemOf) (by exact velOf) ?_) | (refine wv_put rfl _ _ rfl rfl rfl HM (by exact vidxOf) (by exact vltOf) ?_; clear HM; intro us HM; dsimp only [List.set] at HM) | (refine wv_loadS rfl _ _ rfl rfl (by exact arrOf) HM (by exact vmemOf) (by exact vsubF) (by exact lenOf) ?_))
    go_ret
    exact ⟨rfl, HM.out.1⟩
  rw [if_pos hc] at ho
  obtain ⟨A, n, c, L, d, ts, rfl, hn, hss, hts, htb, hb⟩ := ho
  have hfr := (chkB_iff _ _ _ _).1 hc.2
  have HFR := Lib.hid hfr
  have HC := Lib.hid hc.2
  obtain ⟨hn7, hn23⟩ := syms_ge K l q (zr 6)
  rw [hn] at hn7 hn23
  have HGD := Lib.hid (fr_bits hfr).2.2
  have HPS := Lib.hid (prs_is htb)
  have HN := Lib.hid hn
  have HK0 := Lib.hid (show ((symsP K l q (zr 6)).map (·.1)).getD 0 0 = K by unfold symsP Yr.headP; rfl)
  have HTB := Lib.hid htb
  obtain ⟨ps, hps⟩ : ∃ ps, ps = symsP K l q (zr 6) := ⟨_, rfl⟩
  have HPP := Lib.hid hps
  rw [← hps] at hss HGD HPS HN HK0 HTB
  have HSS := Lib.hid hss
  have HTS := Lib.hid hts
  have HM2 := Lib.hid (HM.out.below hb)
  clear hb HM hc hfr htb hn hss hts hps
  have HM := HM2
  clear HM2
  go_wp2_with (first | (refine wv_zeroF rfl rfl ?_) | (first | ((first | refine wv_box rfl _ _ rfl rfl HM ?_ | refine wv_alloc rfl _ rfl (by exact rowOf) HM ?_); first | (have q : dV HM = 0 := rfl; clear q HM; intro g1 u1 HG1 HM) | (have q : dV HM = 1 := rfl; clear q HM; intro g2 u2 HG2 HM) | (have q : dV HM = 2 := rfl; clear q HM; intro g3 u3 HG3 HM) | (have q : dV HM = 3 := rfl; clear q HM; intro g4 u4 HG4 HM) | (have q : dV HM = 4 := rfl; clear q HM; intro g5 u5 HG5 HM) | (have q : dV HM = 5 := rfl; clear q HM; intro g6 u6 HG6 HM) | (have q : dV HM = 6 := rfl; clear q HM; intro g7 u7 HG7 HM) | (have q : dV HM = 7 := rfl; clear q HM; intro g8 u8 HG8 HM) | (have q : dV HM = 8 := rfl; clear q HM; intro g9 u9 HG9 HM) | (have q : dV HM = 9 := rfl; clear q HM; intro g10 u10 HG10 HM) | (have q : dV HM = 10 := rfl; clear q HM; intro g11 u11 HG11 HM) | (have q : dV HM = 11 := rfl; clear q HM; intro g12 u12 HG12 HM) | (have q : dV HM = 12 := rfl; clear q HM; intro g13 u13 HG13 HM) | (have q : dV HM = 13 := rfl; clear q HM; intro g14 u14 HG14 HM)) | (refine wv_load rfl _ _ rfl rfl (by exact rowOf) HM (by exact vmemOf) (by exact vsizOf) ?_) | (refine wv_store rfl _ _ _ rfl rfl rfl (by exact rowOf) HM (by exact vidxOf) (by exact vsizOf) (by exact vsizOf) (by exact voneOf) ?_; clear HM; intro us HM; dsimp only [List.set] at HM) | (refine wl_zero rfl _ rfl (by exact arrOf) (by kernel_rfl) ?_)) | (refine wv_elem rfl _ rfl rfl HM (by exact vmemOf) (by exact velOf) ?_) | (refine wv_put rfl _ _ rfl rfl rfl HM (by exact vidxOf) (by exact vltOf) ?_; clear HM; intro us HM; dsimp only [List.set] at HM) | (refine wv_loadS rfl _ _ rfl rfl (by exact arrOf) HM (by exact vmemOf) (by exact vsubF) (by exact lenOf) ?_))
  refine (fwrite_any F K l q (zr 6) _ HF.out (zr_length 6) (HE.out.below HM.out.1)).mono ?_
  intro e w4 ho
  unfold WrOut at ho
  rw [if_pos HC.out] at ho
  obtain ⟨A4, n4, c4, rfl, hr4, hb⟩ := ho
  have HR4 := Lib.hid hr4
  have HSS2 := Lib.hid (HSS.out.below hb)
  have HTS2 := Lib.hid (HTS.out.below hb)
  have HM2 := Lib.hid (HM.out.below hb)
  clear hb HM hr4 HSS HTS
  have HM := HM2
  clear HM2
  go_wp2_with fail
  refine (Cd.all_walk A n c L d (ps.map (·.1)) ts w4 (Lib.hid (by unfold maxLen; omega)) HSS2 HTS2).mono ?_
  intro e w5 ho
  rw [HPS.out, HPP.out] at ho
  obtain ⟨A5, n5, c5, N5, rfl, hr5, hb⟩ := all_case HFR.out ho
  have HR5 := Lib.hid hr5
  have HR4b := Lib.hid (HR4.out.below hb)
  have HSS := Lib.hid (HSS2.out.below hb)
  have HTS := Lib.hid (HTS2.out.below hb)
  have HB5 := Lib.hid (HM.out.below hb).1
  obtain ⟨gF, hgF⟩ : ∃ gF, gF = g1 := ⟨_, rfl⟩
  subst hgF
  have HGF := Lib.hid ((HM.out.below hb).get (g := gF) (T := 26) (cs := icells F) (by exact vmemOf))
  have HM := Lib.hid (MV.start w5)
  clear hb hr5 ho HSS2 HTS2 HR4
  go_upto_region 9 with (first | (refine wv_zeroF rfl rfl ?_) | (first | ((first | refine wv_box rfl _ _ rfl rfl HM ?_ | refine wv_alloc rfl _ rfl (by exact rowOf) HM ?_); first | (have q : dV HM = 0 := rfl; clear q HM; intro g1 u1 HG1 HM) | (have q : dV HM = 1 := rfl; clear q HM; intro g2 u2 HG2 HM) | (have q : dV HM = 2 := rfl; clear q HM; intro g3 u3 HG3 HM) | (have q : dV HM = 3 := rfl; clear q HM; intro g4 u4 HG4 HM) | (have q : dV HM = 4 := rfl; clear q HM; intro g5 u5 HG5 HM) | (have q : dV HM = 5 := rfl; clear q HM; intro g6 u6 HG6 HM) | (have q : dV HM = 6 := rfl; clear q HM; intro g7 u7 HG7 HM) | (have q : dV HM = 7 := rfl; clear q HM; intro g8 u8 HG8 HM) | (have q : dV HM = 8 := rfl; clear q HM; intro g9 u9 HG9 HM) | (have q : dV HM = 9 := rfl; clear q HM; intro g10 u10 HG10 HM) | (have q : dV HM = 10 := rfl; clear q HM; intro g11 u11 HG11 HM) | (have q : dV HM = 11 := rfl; clear q HM; intro g12 u12 HG12 HM) | (have q : dV HM = 12 := rfl; clear q HM; intro g13 u13 HG13 HM) | (have q : dV HM = 13 := rfl; clear q HM; intro g14 u14 HG14 HM)) | (refine wv_load rfl _ _ rfl rfl (by exact rowOf) HM (by exact vmemOf) (by exact vsizOf) ?_) | (refine wv_store rfl _ _ _ rfl rfl rfl (by exact rowOf) HM (by exact vidxOf) (by exact vsizOf) (by exact vsizOf) (by exact voneOf) ?_; clear HM; intro us HM; dsimp only [List.set] at HM) | (refine wl_zero rfl _ rfl (by exact arrOf) (by kernel_rfl) ?_)) | (refine wv_elem rfl _ rfl rfl HM (by exact vmemOf) (by exact velOf) ?_) | (refine wv_put rfl _ _ rfl rfl rfl HM (by exact vidxOf) (by exact vltOf) ?_; clear HM; intro us HM; dsimp only [List.set] at HM) | (refine wv_loadS rfl _ _ rfl rfl (by exact arrOf) HM (by exact vmemOf) (by exact vsubF) (by exact lenOf) ?_))
  have HW := Lib.hid (HB5.out.trans (HM.out.1.mono HB5.out.size))
  have e1 := run_str c5 (HR5.out.below HM.out.1)
  have e2 := run_str c4 (HR4b.out.below HM.out.1)
  have hs := str_beqF (wrB K l q (zr 6)) (wrB K l q (zr 6)) HR5.out.2.1 HR5.out.2.1
  rw [decide_eq_true rfl] at hs
  have d1 : ¬ (n : Int) < 7 := by omega
  have d2 : ¬ (23 : Int) < (n : Int) := by omega
  have HSU := Lib.hid (HSS.out.below HM.out.1)
  have HTU := Lib.hid (HTS.out.below HM.out.1)
  have HFU := Lib.hid (HGF.out.below HM.out.1 HGF.out.lt)
  go_upto_region 11 with (refine wv_bytes rfl _ rfl rfl HM (by exact vmemOf) rfl ?_)
  clear e1 e2 hs HM HR5 HR4b HSS HTS HGF HB5
  have hlen := HN.out
  go_wp2_with fail
  go_loopw [11, 12, 13, 14, 15, 81] (fun _ _ _ _ _ vi wr => ∃ k : Nat, vi = .int .i64 (k : Int) ∧ k ≤ n ∧ Hid (Below us.heap.size us wr)) (fun _ _ _ _ _ vi _ => n - (intOf vi).toNat)
  case atStart => exact ⟨0, rfl, by omega, Lib.hid (Below.refl _ _)⟩
  case round =>
    obtain ⟨k, rfl, hk, HZ⟩ := hrel
    by_cases hlt : k < n
    · have kn : (k : Int) < (n : Int) := by omega
      obtain ⟨ad, rfl, -, x0⟩ := (HSU.out.below HZ.out).at_ hlt
      obtain ⟨ad2, t, rfl, hget, had2, x2, hx, hmm⟩ := (HTU.out.below HZ.out).at_ hlt
      have hpk : ∃ q' ∈ ps, q' = ((ps.map (·.1)).getD k 0, t.xs) := by
        have hkl : k < ps.length := by rw [hlen]; exact hlt
        refine ⟨ps[k], List.getElem_mem hkl, ?_⟩
        have h1 : (ps.map (·.1)).getD k 0 = (ps[k]).1 := by simp [List.getD_eq_getElem?_getD, hkl]
        have h2 : (tbs ts)[k]? = some t.xs := by unfold tbs; rw [List.getElem?_map, hget]; rfl
        rw [HTB.out, List.getElem?_map, List.getElem?_eq_getElem hkl] at h2
        injection h2 with h2
        rw [h1, ← h2]
      obtain ⟨q', hq', hqe⟩ := hpk
      have hok := (HGD.out q' hq').1
      rw [hqe] at hok
      obtain ⟨a, b, hsp⟩ := span_fine hok
      have HSP := Lib.hid hsp
      have HX := Lib.hid hx
      obtain ⟨C, mm, dd, xs⟩ := t
      dsimp only at x2 HX hmm HSP
      generalize (ps.map (·.1)).getD k 0 = s at x0 HSP
      clear hq' hqe hok hget hx
      go_wp2_with fail
      refine (span_any C mm dd xs s _ HX hmm).mono ?_
      rw [HSP.out]
      rintro e w7 ⟨rfl, hb⟩
      have HZ7 := Lib.hid (HZ.out.trans (hb.mono HZ.out.size))
      clear hb
      go_wp2_with fail
      go_roundw
      case rel => exact ⟨k + 1, by go_num, by omega, HZ7⟩
      case measure => simp [intOf]; omega
    · obtain rfl : k = n := by omega
      obtain ⟨ad, rfl, -, -⟩ := (HSU.out.below HZ.out).at_ (k := 0) (by omega)
      have HRU := Lib.hid (HSU.out.below HZ.out)
      have HFV := Lib.hid (HFU.out.below HZ.out HFU.out.lt)
      have HBW := Lib.hid (HW.out.trans (HZ.out.mono HW.out.size))
      have hk0 : 0 < k := by omega
      have hki : (0 : Int) < (k : Int) := by omega
      have HC1 := Lib.hid (fun u (hu : TblP gF F (some ad) k (ps.map (·.1)) u) => (hu.2.cell0 hk0).trans (c1z HK0.out))
      have HC2 := Lib.hid (fun u (hu : TblP gF F (some ad) k (ps.map (·.1)) u) => (blk_at hu.1 (i := 0) (by rw [LF.out]; decide)).trans (c1z HF.out.k0))
      go_wp2_with fail
      refine wp_region_held_drew (S := TblP gF F (some ad) k (ps.map (·.1))) (by kernel_rfl) ⟨HFV.out, HRU.out.drew⟩ (fun hHeld => ?_)
      (refine wa_take (i := 0) (v := .bool true) rfl (by kernel_rfl) (by kernel_rfl) (by kernel_rfl) (fun _ _ _ h => h) (yi_free rfl (fun u => rfl)) hHeld rfl ?_; (try simp only [Act.put, List.setIfInBounds_toArray, List.set_cons_zero, List.set_cons_succ]))
      (refine wa_take (i := 1) (v := .bool true) rfl (by kernel_rfl) (by kernel_rfl) (by kernel_rfl) (fun _ _ _ h => h) (yi_free rfl (fun u => rfl)) hHeld rfl ?_; (try simp only [Act.put, List.setIfInBounds_toArray, List.set_cons_zero, List.set_cons_succ]))
      (refine wa_take (i := 2) (v := .slice (some ad) k c) rfl (by kernel_rfl) (by kernel_rfl) (by kernel_rfl) (fun _ _ _ h => h) (yi_free rfl (fun u => rfl)) hHeld rfl ?_; (try simp only [Act.put, List.setIfInBounds_toArray, List.set_cons_zero, List.set_cons_succ]))
      (refine wa_take (i := 3) (v := .pointer (some ad)) rfl (by kernel_rfl) (by kernel_rfl) (by kernel_rfl) (fun _ _ _ h => h) (yi_free rfl (fun u => by go_simp)) hHeld rfl ?_; (try simp only [Act.put, List.setIfInBounds_toArray, List.set_cons_zero, List.set_cons_succ]))
      (refine wa_take (i := 4) rfl (by kernel_rfl) (by kernel_rfl) (by kernel_rfl) (fun _ _ _ h => h) (yi_cell rfl _ rfl rfl (HC1).out) hHeld rfl ?_; (try simp only [Act.put, List.setIfInBounds_toArray, List.set_cons_zero, List.set_cons_succ]))
      (refine wa_take (i := 5) (v := .pointer (some ⟨gF, 0, none⟩)) rfl (by kernel_rfl) (by kernel_rfl) (by kernel_rfl) (fun _ _ _ h => h) (yi_free rfl (fun u => by go_simp)) hHeld rfl ?_; (try simp only [Act.put, List.setIfInBounds_toArray, List.set_cons_zero, List.set_cons_succ]))
      (refine wa_take (i := 6) rfl (by kernel_rfl) (by kernel_rfl) (by kernel_rfl) (fun _ _ _ h => h) (yi_cell rfl _ rfl rfl (HC2).out) hHeld rfl ?_; (try simp only [Act.put, List.setIfInBounds_toArray, List.set_cons_zero, List.set_cons_succ]))
      (refine wa_take (i := 7) (v := .bool true) rfl (by kernel_rfl) (by kernel_rfl) (by kernel_rfl) (fun _ _ _ h => h) (yi_free rfl (fun u => by go_simp)) hHeld rfl ?_; (try simp only [Act.put, List.setIfInBounds_toArray, List.set_cons_zero, List.set_cons_succ]))
      (refine wa_take (i := 8) (v := .bool true) rfl (by kernel_rfl) (by kernel_rfl) (by kernel_rfl) (fun _ _ _ h => h) (yi_free rfl (fun u => rfl)) hHeld rfl ?_; (try simp only [Act.put, List.setIfInBounds_toArray, List.set_cons_zero, List.set_cons_succ]))
      (refine wa_take (i := 9) (v := .bool true) rfl (by kernel_rfl) (by kernel_rfl) (by kernel_rfl) (fun _ _ _ h => h) (yi_free rfl (fun u => rfl)) hHeld rfl ?_; (try simp only [Act.put, List.setIfInBounds_toArray, List.set_cons_zero, List.set_cons_succ]))
      refine wpAnyH_done (by kernel_rfl) ?_ _
      go_wp2
      go_ret
      exact ⟨rfl, Below.drew HBW.out⟩
end Go.Proofs.YtgpdgegelipboaaDoor.Lp
