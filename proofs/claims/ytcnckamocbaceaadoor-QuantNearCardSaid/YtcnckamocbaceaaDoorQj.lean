/-
  Own texts, laid together: Qj.
-/
import Derived.Test.YtcnckamocbaceaaDoorQi
/- Qj -/
namespace Go.Proofs.YtcnckamocbaceaaDoor.Lp
open Go.RowKit Go.Proofs.YtcnckamocbaceaaDoor.Fx Go.Proofs.YtcnckamocbaceaaDoor.Fq Go.Proofs.YtcnckamocbaceaaDoor.Tb
theorem grdHop : Tryd.prog.eqGuardType Tryd.prog.depth 29 = false := by kernel_rfl
theorem smallV_form (x l : List Int) : ∃ q a, ∃ e : Int, smallV x l = .tuple #[.agg (icells q), .agg (icells a), .int .i64 e] ∧ q.length = 16 ∧ a.length = 6 := by
  unfold smallV
  split
  · exact ⟨_, _, _, rfl, smallL_length x l, asL_length l⟩
  · exact ⟨_, _, _, rfl, zr_length 16, zr_length 6⟩
theorem greatV_form (q l : List Int) : ∃ x, ∃ e : Int, greatV q l = .tuple #[.agg (icells x), .int .i64 e] ∧ x.length = 16 := by
  unfold greatV
  split
  · exact ⟨_, _, rfl, greatL_length q l⟩
  · exact ⟨_, _, rfl, zr_length 16⟩
theorem noiseV_form (t : Int) (l : List Int) : ∃ x, ∃ s e : Int, noiseV t l = .tuple #[.agg (icells x), .int .u32 s, .int .i64 e] ∧ x.length = 16 := by
  unfold noiseV
  split
  · exact ⟨_, _, _, rfl, noiseL_length t l⟩
  · exact ⟨_, _, _, rfl, zr_length 16⟩
set_option maxRecDepth 100000 in
set_option maxHeartbeats 8000000 in
theorem makes_walk (x q l : List Int) (t : Int) (w : World) (lx : x.length = 16) (lq : q.length = 16) (ll : l.length = 6) (ht : 0 ≤ t ∧ t < 4294967296) (he : Edg w) :
    Calls Tryd.prog 4 #[.agg (icells x), .agg (icells q), .agg (icells l), .int .u32 t] w fun e w' => e = .returned (.bool true) ∧ Below w.heap.size w w' := by
  have LX := Lib.hid lx
  have LQ := Lib.hid lq
  have LL := Lib.hid ll
  have HE := Lib.hid he
  have HM := Lib.hid (Mem.start w)
  have F0 := Lib.hid (fun u (hu : Edg u) => qlive_any u hu)
  obtain ⟨sq, sa, se, hs, ls, la⟩ := smallV_form x l
  obtain ⟨gx, ge, hg, lg⟩ := greatV_form q l
  obtain ⟨nx, ns, ne, hn, ln⟩ := noiseV_form t l
  have LS := Lib.hid ls
  have LA := Lib.hid la
  have LG := Lib.hid lg
  have LN := Lib.hid ln
  have F1 := Lib.hid (fun u (hu : Edg u) => qsmall_any x l u lx ll hu)
  have F2 := Lib.hid (fun u => rsmall_any x l u lx ll)
  have F3 := Lib.hid (fun u (hu : Edg u) => qgreat_any q l u lq ll hu)
  have F4 := Lib.hid (fun u => rgreat_any q l u lq ll)
  have F5 := Lib.hid (fun u (hu : Edg u) => qnoise_any t l u ht ll hu)
  have F6 := Lib.hid (fun u => rnoise_any t l u ht ll)
  have F7 := Lib.hid (fun u (hu : Edg u) => qmay_any q l u lq ll hu)
  have F8 := Lib.hid (fun u => rmay_any q l u lq ll)
  rw [hs] at F1 F2
  rw [hg] at F3 F4
  rw [hn] at F5 F6
  generalize mayB q l = mb at F7 F8
  have q1 := fun u => run_equalIn_same 29 (n := 16) (by kernel_rfl) sq ls u
  have q2 := fun u => run_equalIn_same 34 (n := 6) (by kernel_rfl) sa la u
  have q3 := fun u => run_equalIn_same 30 (n := 16) (by kernel_rfl) gx lg u
  have q4 := fun u => run_equalIn_same 30 (n := 16) (by kernel_rfl) nx ln u
  have gh := grdHop
  have ga := grdAll
  have gs := grdSpec
  have d1 : (se == se) = true := by simp
  have d2 : (ge == ge) = true := by simp
  have d3 : (ne == ne) = true := by simp
  have d4 : (ns == ns) = true := by simp
  have d5 : (mb == mb) = true := by simp
  clear lx lq ll he hs hg hn ls la lg ln ht
  go_enter Tryd.func4, Tryd.ntmps4
  go_wp2_with (first | ((first | refine wl_box rfl _ _ rfl rfl HM ?_ | refine wl_alloc rfl _ rfl (by exact arrOf) HM ?_); first | (have q : dL HM = 0 := rfl; clear q HM; intro g1 u1 HM) | (have q : dL HM = 1 := rfl; clear q HM; intro g2 u2 HM) | (have q : dL HM = 2 := rfl; clear q HM; intro g3 u3 HM) | (have q : dL HM = 3 := rfl; clear q HM; intro g4 u4 HM) | (have q : dL HM = 4 := rfl; clear q HM; intro g5 u5 HM) | (have q : dL HM = 5 := rfl; clear q HM; intro g6 u6 HM) | (have q : dL HM = 6 := rfl; clear q HM; intro g7 u7 HM) | (have q : dL HM = 7 := rfl; clear q HM; intro g8 u8 HM) | (have q : dL HM = 8 := rfl; clear q HM; intro g9 u9 HM) | (have q : dL HM = 9 := rfl; clear q HM; intro g10 u10 HM) | (have q : dL HM = 10 := rfl; clear q HM; intro g11 u11 HM) | (have q : dL HM = 11 := rfl; clear q HM; intro g12 u12 HM) | (have q : dL HM = 12 := rfl; clear q HM; intro g13 u13 HM) | (have q : dL HM = 13 := rfl; clear q HM; intro g14 u14 HM)) | (refine wl_load rfl _ _ rfl rfl (by exact arrOf) HM (by exact memOf) (by exact lenOf) ?_) | (refine wl_storeM rfl _ _ _ rfl rfl rfl (by exact arrOf) HM (by exact idxOf) (by exact lenOf) (by exact lenOf) ?_; clear HM; intro us HM; dsimp only [List.set] at HM) | (refine wl_zero rfl _ rfl (by exact arrOf) (by kernel_rfl) ?_))
  refine (F0.out _ (HE.out.mem HM.out)).mono ?_
  rintro e wq ⟨rfl, h1⟩
  have HM2 := Lib.hid (HM.out.below h1)
  clear h1 HM F0
  have HM := HM2
  clear HM2
  go_wp2_with (first | ((first | refine wl_box rfl _ _ rfl rfl HM ?_ | refine wl_alloc rfl _ rfl (by exact arrOf) HM ?_); first | (have q : dL HM = 0 := rfl; clear q HM; intro g1 u1 HM) | (have q : dL HM = 1 := rfl; clear q HM; intro g2 u2 HM) | (have q : dL HM = 2 := rfl; clear q HM; intro g3 u3 HM) | (have q : dL HM = 3 := rfl; clear q HM; intro g4 u4 HM) | (have q : dL HM = 4 := rfl; clear q HM; intro g5 u5 HM) | (have q : dL HM = 5 := rfl; clear q HM; intro g6 u6 HM) | (have q : dL HM = 6 := rfl; clear q HM; intro g7 u7 HM) | (have q : dL HM = 7 := rfl; clear q HM; intro g8 u8 HM) | (have q : dL HM = 8 := rfl; clear q HM; intro g9 u9 HM) | (have q : dL HM = 9 := rfl; clear q HM; intro g10 u10 HM) | (have q : dL HM = 10 := rfl; clear q HM; intro g11 u11 HM) | (have q : dL HM = 11 := rfl; clear q HM; intro g12 u12 HM) | (have q : dL HM = 12 := rfl; clear q HM; intro g13 u13 HM) | (have q : dL HM = 13 := rfl; clear q HM; intro g14 u14 HM)) | (refine wl_load rfl _ _ rfl rfl (by exact arrOf) HM (by exact memOf) (by exact lenOf) ?_) | (refine wl_storeM rfl _ _ _ rfl rfl rfl (by exact arrOf) HM (by exact idxOf) (by exact lenOf) (by exact lenOf) ?_; clear HM; intro us HM; dsimp only [List.set] at HM) | (refine wl_zero rfl _ rfl (by exact arrOf) (by kernel_rfl) ?_))
  refine (F1.out _ (HE.out.mem HM.out)).mono ?_
  rintro e wq ⟨rfl, h1⟩
  have HM2 := Lib.hid (HM.out.below h1)
  clear h1 HM F1
  have HM := HM2
  clear HM2
  go_wp2_with (first | ((first | refine wl_box rfl _ _ rfl rfl HM ?_ | refine wl_alloc rfl _ rfl (by exact arrOf) HM ?_); first | (have q : dL HM = 0 := rfl; clear q HM; intro g1 u1 HM) | (have q : dL HM = 1 := rfl; clear q HM; intro g2 u2 HM) | (have q : dL HM = 2 := rfl; clear q HM; intro g3 u3 HM) | (have q : dL HM = 3 := rfl; clear q HM; intro g4 u4 HM) | (have q : dL HM = 4 := rfl; clear q HM; intro g5 u5 HM) | (have q : dL HM = 5 := rfl; clear q HM; intro g6 u6 HM) | (have q : dL HM = 6 := rfl; clear q HM; intro g7 u7 HM) | (have q : dL HM = 7 := rfl; clear q HM; intro g8 u8 HM) | (have q : dL HM = 8 := rfl; clear q HM; intro g9 u9 HM) | (have q : dL HM = 9 := rfl; clear q HM; intro g10 u10 HM) | (have q : dL HM = 10 := rfl; clear q HM; intro g11 u11 HM) | (have q : dL HM = 11 := rfl; clear q HM; intro g12 u12 HM) | (have q : dL HM = 12 := rfl; clear q HM; intro g13 u13 HM) | (have q : dL HM = 13 := rfl; clear q HM; intro g14 u14 HM)) | (refine wl_load rfl _ _ rfl rfl (by exact arrOf) HM (by exact memOf) (by exact lenOf) ?_) | (refine wl_storeM rfl _ _ _ rfl rfl rfl (by exact arrOf) HM (by exact idxOf) (by exact lenOf) (by exact lenOf) ?_; clear HM; intro us HM; dsimp only [List.set] at HM) | (refine wl_zero rfl _ rfl (by exact arrOf) (by kernel_rfl) ?_))
  refine (F2.out _).mono ?_
  rintro e wq ⟨rfl, h1⟩
  have HM2 := Lib.hid (HM.out.below h1)
  clear h1 HM F2
  have HM := HM2
  clear HM2
  go_wp2_with (first | ((first | refine wl_box rfl _ _ rfl rfl HM ?_ | refine wl_alloc rfl _ rfl (by exact arrOf) HM ?_); first | (have q : dL HM = 0 := rfl; clear q HM; intro g1 u1 HM) | (have q : dL HM = 1 := rfl; clear q HM; intro g2 u2 HM) | (have q : dL HM = 2 := rfl; clear q HM; intro g3 u3 HM) | (have q : dL HM = 3 := rfl; clear q HM; intro g4 u4 HM) | (have q : dL HM = 4 := rfl; clear q HM; intro g5 u5 HM) | (have q : dL HM = 5 := rfl; clear q HM; intro g6 u6 HM) | (have q : dL HM = 6 := rfl; clear q HM; intro g7 u7 HM) | (have q : dL HM = 7 := rfl; clear q HM; intro g8 u8 HM) | (have q : dL HM = 8 := rfl; clear q HM; intro g9 u9 HM) | (have q : dL HM = 9 := rfl; clear q HM; intro g10 u10 HM) | (have q : dL HM = 10 := rfl; clear q HM; intro g11 u11 HM) | (have q : dL HM = 11 := rfl; clear q HM; intro g12 u12 HM) | (have q : dL HM = 12 := rfl; clear q HM; intro g13 u13 HM) | (have q : dL HM = 13 := rfl; clear q HM; intro g14 u14 HM)) | (refine wl_load rfl _ _ rfl rfl (by exact arrOf) HM (by exact memOf) (by exact lenOf) ?_) | (refine wl_storeM rfl _ _ _ rfl rfl rfl (by exact arrOf) HM (by exact idxOf) (by exact lenOf) (by exact lenOf) ?_; clear HM; intro us HM; dsimp only [List.set] at HM) | (refine wl_zero rfl _ rfl (by exact arrOf) (by kernel_rfl) ?_))
  refine (F3.out _ (HE.out.mem HM.out)).mono ?_
  rintro e wq ⟨rfl, h1⟩
  have HM2 := Lib.hid (HM.out.below h1)
  clear h1 HM F3
  have HM := HM2
  clear HM2
  go_wp2_with (first | ((first | refine wl_box rfl _ _ rfl rfl HM ?_ | refine wl_alloc rfl _ rfl (by exact arrOf) HM ?_); first | (have q : dL HM = 0 := rfl; clear q HM; intro g1 u1 HM) | (have q : dL HM = 1 := rfl; clear q HM; intro g2 u2 HM) | (have q : dL HM = 2 := rfl; clear q HM; intro g3 u3 HM) | (have q : dL HM = 3 := rfl; clear q HM; intro g4 u4 HM) | (have q : dL HM = 4 := rfl; clear q HM; intro g5 u5 HM) | (have q : dL HM = 5 := rfl; clear q HM; intro g6 u6 HM) | (have q : dL HM = 6 := rfl; clear q HM; intro g7 u7 HM) | (have q : dL HM = 7 := rfl; clear q HM; intro g8 u8 HM) | (have q : dL HM = 8 := rfl; clear q HM; intro g9 u9 HM) | (have q : dL HM = 9 := rfl; clear q HM; intro g10 u10 HM) | (have q : dL HM = 10 := rfl; clear q HM; intro g11 u11 HM) | (have q : dL HM = 11 := rfl; clear q HM; intro g12 u12 HM) | (have q : dL HM = 12 := rfl; clear q HM; intro g13 u13 HM) | (have q : dL HM = 13 := rfl; clear q HM; intro g14 u14 HM)) | (refine wl_load rfl _ _ rfl rfl (by exact arrOf) HM (by exact memOf) (by exact lenOf) ?_) | (refine wl_storeM rfl _ _ _ rfl rfl rfl (by exact arrOf) HM (by exact idxOf) (by exact lenOf) (by exact lenOf) ?_; clear HM; intro us HM; dsimp only [List.set] at HM) | (refine wl_zero rfl _ rfl (by exact arrOf) (by kernel_rfl) ?_))
  refine (F4.out _).mono ?_
  rintro e wq ⟨rfl, h1⟩
  have HM2 := Lib.hid (HM.out.below h1)
  clear h1 HM F4
  have HM := HM2
  clear HM2
  go_wp2_with (first | ((first | refine wl_box rfl _ _ rfl rfl HM ?_ | refine wl_alloc rfl _ rfl (by exact arrOf) HM ?_); first | (have q : dL HM = 0 := rfl; clear q HM; intro g1 u1 HM) | (have q : dL HM = 1 := rfl; clear q HM; intro g2 u2 HM) | (have q : dL HM = 2 := rfl; clear q HM; intro g3 u3 HM) | (have q : dL HM = 3 := rfl; clear q HM; intro g4 u4 HM) | (have q : dL HM = 4 := rfl; clear q HM; intro g5 u5 HM) | (have q : dL HM = 5 := rfl; clear q HM; intro g6 u6 HM) | (have q : dL HM = 6 := rfl; clear q HM; intro g7 u7 HM) | (have q : dL HM = 7 := rfl; clear q HM; intro g8 u8 HM) | (have q : dL HM = 8 := rfl; clear q HM; intro g9 u9 HM) | (have q : dL HM = 9 := rfl; clear q HM; intro g10 u10 HM) | (have q : dL HM = 10 := rfl; clear q HM; intro g11 u11 HM) | (have q : dL HM = 11 := rfl; clear q HM; intro g12 u12 HM) | (have q : dL HM = 12 := rfl; clear q HM; intro g13 u13 HM) | (have q : dL HM = 13 := rfl; clear q HM; intro g14 u14 HM)) | (refine wl_load rfl _ _ rfl rfl (by exact arrOf) HM (by exact memOf) (by exact lenOf) ?_) | (refine wl_storeM rfl _ _ _ rfl rfl rfl (by exact arrOf) HM (by exact idxOf) (by exact lenOf) (by exact lenOf) ?_; clear HM; intro us HM; dsimp only [List.set] at HM) | (refine wl_zero rfl _ rfl (by exact arrOf) (by kernel_rfl) ?_))
  refine (F5.out _ (HE.out.mem HM.out)).mono ?_
  rintro e wq ⟨rfl, h1⟩
  have HM2 := Lib.hid (HM.out.below h1)
  clear h1 HM F5
  have HM := HM2
  clear HM2
  go_wp2_with (first | ((first | refine wl_box rfl _ _ rfl rfl HM ?_ | refine wl_alloc rfl _ rfl (by exact arrOf) HM ?_); first | (have q : dL HM = 0 := rfl; clear q HM; intro g1 u1 HM) | (have q : dL HM = 1 := rfl; clear q HM; intro g2 u2 HM) | (have q : dL HM = 2 := rfl; clear q HM; intro g3 u3 HM) | (have q : dL HM = 3 := rfl; clear q HM; intro g4 u4 HM) | (have q : dL HM = 4 := rfl; clear q HM; intro g5 u5 HM) | (have q : dL HM = 5 := rfl; clear q HM; intro g6 u6 HM) | (have q : dL HM = 6 := rfl; clear q HM; intro g7 u7 HM) | (have q : dL HM = 7 := rfl; clear q HM; intro g8 u8 HM) | (have q : dL HM = 8 := rfl; clear q HM; intro g9 u9 HM) | (have q : dL HM = 9 := rfl; clear q HM; intro g10 u10 HM) | (have q : dL HM = 10 := rfl; clear q HM; intro g11 u11 HM) | (have q : dL HM = 11 := rfl; clear q HM; intro g12 u12 HM) | (have q : dL HM = 12 := rfl; clear q HM; intro g13 u13 HM) | (have q : dL HM = 13 := rfl; clear q HM; intro g14 u14 HM)) | (refine wl_load rfl _ _ rfl rfl (by exact arrOf) HM (by exact memOf) (by exact lenOf) ?_) | (refine wl_storeM rfl _ _ _ rfl rfl rfl (by exact arrOf) HM (by exact idxOf) (by exact lenOf) (by exact lenOf) ?_; clear HM; intro us HM; dsimp only [List.set] at HM) | (refine wl_zero rfl _ rfl (by exact arrOf) (by kernel_rfl) ?_))
  refine (F6.out _).mono ?_
  rintro e wq ⟨rfl, h1⟩
  have HM2 := Lib.hid (HM.out.below h1)
  clear h1 HM F6
  have HM := HM2
  clear HM2
  go_wp2_with (first | ((first | refine wl_box rfl _ _ rfl rfl HM ?_ | refine wl_alloc rfl _ rfl (by exact arrOf) HM ?_); first | (have q : dL HM = 0 := rfl; clear q HM; intro g1 u1 HM) | (have q : dL HM = 1 := rfl; clear q HM; intro g2 u2 HM) | (have q : dL HM = 2 := rfl; clear q HM; intro g3 u3 HM) | (have q : dL HM = 3 := rfl; clear q HM; intro g4 u4 HM) | (have q : dL HM = 4 := rfl; clear q HM; intro g5 u5 HM) | (have q : dL HM = 5 := rfl; clear q HM; intro g6 u6 HM) | (have q : dL HM = 6 := rfl; clear q HM; intro g7 u7 HM) | (have q : dL HM = 7 := rfl; clear q HM; intro g8 u8 HM) | (have q : dL HM = 8 := rfl; clear q HM; intro g9 u9 HM) | (have q : dL HM = 9 := rfl; clear q HM; intro g10 u10 HM) | (have q : dL HM = 10 := rfl; clear q HM; intro g11 u11 HM) | (have q : dL HM = 11 := rfl; clear q HM; intro g12 u12 HM) | (have q : dL HM = 12 := rfl; clear q HM; intro g13 u13 HM) | (have q : dL HM = 13 := rfl; clear q HM; intro g14 u14 HM)) | (refine wl_load rfl _ _ rfl rfl (by exact arrOf) HM (by exact memOf) (by exact lenOf) ?_) | (refine wl_storeM rfl _ _ _ rfl rfl rfl (by exact arrOf) HM (by exact idxOf) (by exact lenOf) (by exact lenOf) ?_; clear HM; intro us HM; dsimp only [List.set] at HM) | (refine wl_zero rfl _ rfl (by exact arrOf) (by kernel_rfl) ?_))
  refine wp_region_held_drew (S := Mem w [(g11, 30, nx), (g10, 30, nx), (g9, 30, gx), (g8, 30, gx), (g7, 34, sa), (g6, 29, sq), (g5, 34, sa), (g4, 29, sq), (g3, 32, l), (g2, 29, q)]) (by kernel_rfl) (HM.out.drew.sub (by exact subOf)) (fun hHeld => ?_)
  have HMd := Lib.hid HM.out.drew
  clear HM
  have HM := HMd
  clear HMd
  generalize World.drew _ = wd at HM hHeld ⊢
  (refine wa_take (i := 0) rfl (by kernel_rfl) (by kernel_rfl) (by kernel_rfl) (fun _ _ _ h => h) (yi_free rfl (fun u => rfl)) hHeld rfl ?_; (try simp only [Act.put, List.setIfInBounds_toArray, List.set_cons_zero, List.set_cons_succ]))
  (refine wa_take (i := 1) rfl (by kernel_rfl) (by kernel_rfl) (by kernel_rfl) (fun _ _ _ h => h) (yi_free rfl (fun u => rfl)) hHeld rfl ?_; (try simp only [Act.put, List.setIfInBounds_toArray, List.set_cons_zero, List.set_cons_succ]))
  (refine wa_take (i := 2) rfl (by kernel_rfl) (by kernel_rfl) (by kernel_rfl) (fun _ _ _ h => h) (yi_load rfl _ _ rfl rfl (by exact arrOf) (fun u hu => hu) (by exact memOf) (by exact lenOf)) hHeld rfl ?_; (try simp only [Act.put, List.setIfInBounds_toArray, List.set_cons_zero, List.set_cons_succ]))
  (refine wa_take (i := 3) rfl (by kernel_rfl) (by kernel_rfl) (by kernel_rfl) (fun _ _ _ h => h) (yi_load rfl _ _ rfl rfl (by exact arrOf) (fun u hu => hu) (by exact memOf) (by exact lenOf)) hHeld rfl ?_; (try simp only [Act.put, List.setIfInBounds_toArray, List.set_cons_zero, List.set_cons_succ]))
  (refine wa_take (i := 4) (v := .bool true) rfl (by kernel_rfl) (by kernel_rfl) (by kernel_rfl) (fun _ _ _ h => h) (yi_free rfl (fun u => by go_simp)) hHeld rfl ?_; (try simp only [Act.put, List.setIfInBounds_toArray, List.set_cons_zero, List.set_cons_succ]))
  (refine wa_take (i := 5) (v := .bool true) rfl (by kernel_rfl) (by kernel_rfl) (by kernel_rfl) (fun _ _ _ h => h) (yi_free rfl (fun u => by go_simp)) hHeld rfl ?_; (try simp only [Act.put, List.setIfInBounds_toArray, List.set_cons_zero, List.set_cons_succ]))
  (refine wa_take (i := 6) (v := .bool true) rfl (by kernel_rfl) (by kernel_rfl) (by kernel_rfl) (fun _ _ _ h => h) (yi_free rfl (fun u => by go_simp)) hHeld rfl ?_; (try simp only [Act.put, List.setIfInBounds_toArray, List.set_cons_zero, List.set_cons_succ]))
  (refine wa_take (i := 7) rfl (by kernel_rfl) (by kernel_rfl) (by kernel_rfl) (fun _ _ _ h => h) (yi_load rfl _ _ rfl rfl (by exact arrOf) (fun u hu => hu) (by exact memOf) (by exact lenOf)) hHeld rfl ?_; (try simp only [Act.put, List.setIfInBounds_toArray, List.set_cons_zero, List.set_cons_succ]))
  (refine wa_take (i := 8) rfl (by kernel_rfl) (by kernel_rfl) (by kernel_rfl) (fun _ _ _ h => h) (yi_load rfl _ _ rfl rfl (by exact arrOf) (fun u hu => hu) (by exact memOf) (by exact lenOf)) hHeld rfl ?_; (try simp only [Act.put, List.setIfInBounds_toArray, List.set_cons_zero, List.set_cons_succ]))
  (refine wa_take (i := 9) (v := .bool true) rfl (by kernel_rfl) (by kernel_rfl) (by kernel_rfl) (fun _ _ _ h => h) (yi_free rfl (fun u => by go_simp)) hHeld rfl ?_; (try simp only [Act.put, List.setIfInBounds_toArray, List.set_cons_zero, List.set_cons_succ]))
  (refine wa_take (i := 10) (v := .bool true) rfl (by kernel_rfl) (by kernel_rfl) (by kernel_rfl) (fun _ _ _ h => h) (yi_free rfl (fun u => by go_simp)) hHeld rfl ?_; (try simp only [Act.put, List.setIfInBounds_toArray, List.set_cons_zero, List.set_cons_succ]))
  (refine wa_take (i := 11) (v := .bool true) rfl (by kernel_rfl) (by kernel_rfl) (by kernel_rfl) (fun _ _ _ h => h) (yi_free rfl (fun u => by go_simp)) hHeld rfl ?_; (try simp only [Act.put, List.setIfInBounds_toArray, List.set_cons_zero, List.set_cons_succ]))
  (refine wa_take (i := 12) rfl (by kernel_rfl) (by kernel_rfl) (by kernel_rfl) (fun _ _ _ h => h) (yi_free rfl (fun u => rfl)) hHeld rfl ?_; (try simp only [Act.put, List.setIfInBounds_toArray, List.set_cons_zero, List.set_cons_succ]))
  (refine wa_take (i := 13) rfl (by kernel_rfl) (by kernel_rfl) (by kernel_rfl) (fun _ _ _ h => h) (yi_free rfl (fun u => rfl)) hHeld rfl ?_; (try simp only [Act.put, List.setIfInBounds_toArray, List.set_cons_zero, List.set_cons_succ]))
  (refine wa_take (i := 14) (v := .bool true) rfl (by kernel_rfl) (by kernel_rfl) (by kernel_rfl) (fun _ _ _ h => h) (yi_free rfl (fun u => by go_simp)) hHeld rfl ?_; (try simp only [Act.put, List.setIfInBounds_toArray, List.set_cons_zero, List.set_cons_succ]))
  (refine wa_take (i := 15) (v := .bool true) rfl (by kernel_rfl) (by kernel_rfl) (by kernel_rfl) (fun _ _ _ h => h) (yi_free rfl (fun u => by go_simp)) hHeld rfl ?_; (try simp only [Act.put, List.setIfInBounds_toArray, List.set_cons_zero, List.set_cons_succ]))
  (refine wa_take (i := 16) (v := .bool true) rfl (by kernel_rfl) (by kernel_rfl) (by kernel_rfl) (fun _ _ _ h => h) (yi_free rfl (fun u => by go_simp)) hHeld rfl ?_; (try simp only [Act.put, List.setIfInBounds_toArray, List.set_cons_zero, List.set_cons_succ]))
  (refine wa_take (i := 17) rfl (by kernel_rfl) (by kernel_rfl) (by kernel_rfl) (fun _ _ _ h => h) (yi_load rfl _ _ rfl rfl (by exact arrOf) (fun u hu => hu) (by exact memOf) (by exact lenOf)) hHeld rfl ?_; (try simp only [Act.put, List.setIfInBounds_toArray, List.set_cons_zero, List.set_cons_succ]))
  (refine wa_take (i := 18) rfl (by kernel_rfl) (by kernel_rfl) (by kernel_rfl) (fun _ _ _ h => h) (yi_load rfl _ _ rfl rfl (by exact arrOf) (fun u hu => hu) (by exact memOf) (by exact lenOf)) hHeld rfl ?_; (try simp only [Act.put, List.setIfInBounds_toArray, List.set_cons_zero, List.set_cons_succ]))
  (refine wa_take (i := 19) (v := .bool true) rfl (by kernel_rfl) (by kernel_rfl) (by kernel_rfl) (fun _ _ _ h => h) (yi_free rfl (fun u => by go_simp)) hHeld rfl ?_; (try simp only [Act.put, List.setIfInBounds_toArray, List.set_cons_zero, List.set_cons_succ]))
  (refine wa_take (i := 20) (v := .bool true) rfl (by kernel_rfl) (by kernel_rfl) (by kernel_rfl) (fun _ _ _ h => h) (yi_free rfl (fun u => by go_simp)) hHeld rfl ?_; (try simp only [Act.put, List.setIfInBounds_toArray, List.set_cons_zero, List.set_cons_succ]))
  (refine wa_take (i := 21) (v := .bool true) rfl (by kernel_rfl) (by kernel_rfl) (by kernel_rfl) (fun _ _ _ h => h) (yi_free rfl (fun u => by go_simp)) hHeld rfl ?_; (try simp only [Act.put, List.setIfInBounds_toArray, List.set_cons_zero, List.set_cons_succ]))
  (refine wa_take (i := 22) rfl (by kernel_rfl) (by kernel_rfl) (by kernel_rfl) (fun _ _ _ h => h) (yi_free rfl (fun u => rfl)) hHeld rfl ?_; (try simp only [Act.put, List.setIfInBounds_toArray, List.set_cons_zero, List.set_cons_succ]))
  (refine wa_take (i := 23) rfl (by kernel_rfl) (by kernel_rfl) (by kernel_rfl) (fun _ _ _ h => h) (yi_free rfl (fun u => rfl)) hHeld rfl ?_; (try simp only [Act.put, List.setIfInBounds_toArray, List.set_cons_zero, List.set_cons_succ]))
  (refine wa_take (i := 24) (v := .bool true) rfl (by kernel_rfl) (by kernel_rfl) (by kernel_rfl) (fun _ _ _ h => h) (yi_free rfl (fun u => by go_simp)) hHeld rfl ?_; (try simp only [Act.put, List.setIfInBounds_toArray, List.set_cons_zero, List.set_cons_succ]))
  (refine wa_take (i := 25) (v := .bool true) rfl (by kernel_rfl) (by kernel_rfl) (by kernel_rfl) (fun _ _ _ h => h) (yi_free rfl (fun u => by go_simp)) hHeld rfl ?_; (try simp only [Act.put, List.setIfInBounds_toArray, List.set_cons_zero, List.set_cons_succ]))
  (refine wa_take (i := 26) (v := .bool true) rfl (by kernel_rfl) (by kernel_rfl) (by kernel_rfl) (fun _ _ _ h => h) (yi_free rfl (fun u => by go_simp)) hHeld rfl ?_; (try simp only [Act.put, List.setIfInBounds_toArray, List.set_cons_zero, List.set_cons_succ]))
  (refine wa_take (i := 27) rfl (by kernel_rfl) (by kernel_rfl) (by kernel_rfl) (fun _ _ _ h => h) (yi_load rfl _ _ rfl rfl (by exact arrOf) (fun u hu => hu) (by exact memOf) (by exact lenOf)) hHeld rfl ?_; (try simp only [Act.put, List.setIfInBounds_toArray, List.set_cons_zero, List.set_cons_succ]))
  (refine wa_take (i := 28) rfl (by kernel_rfl) (by kernel_rfl) (by kernel_rfl) (fun _ _ _ h => h) (yi_load rfl _ _ rfl rfl (by exact arrOf) (fun u hu => hu) (by exact memOf) (by exact lenOf)) hHeld rfl ?_; (try simp only [Act.put, List.setIfInBounds_toArray, List.set_cons_zero, List.set_cons_succ]))
  (refine wa_take (i := 30) rfl (by kernel_rfl) (by kernel_rfl) (by kernel_rfl) (fun _ _ _ h => h) (yi_load rfl _ _ rfl rfl (by exact arrOf) (fun u hu => hu) (by exact memOf) (by exact lenOf)) hHeld rfl ?_; (try simp only [Act.put, List.setIfInBounds_toArray, List.set_cons_zero, List.set_cons_succ]))
  (refine wa_take (i := 31) rfl (by kernel_rfl) (by kernel_rfl) (by kernel_rfl) (fun _ _ _ h => h) (yi_load rfl _ _ rfl rfl (by exact arrOf) (fun u hu => hu) (by exact memOf) (by exact lenOf)) hHeld rfl ?_; (try simp only [Act.put, List.setIfInBounds_toArray, List.set_cons_zero, List.set_cons_succ]))
  refine wpAnyH_ready (rs := [29]) (by kernel_rfl) (by simp) ?_; refine AllReadyH.cons rfl (fun K hK => ?_) (AllReadyH.nil)
  rw [if_pos (by rfl)]; go_simp
  refine (F7.out _ (HE.out.mem HM.out)).mono ?_
  rintro e wb ⟨rfl, h1⟩
  have HM2 := Lib.hid (HM.out.below h1)
  clear h1 HM F7 hHeld
  have HM := HM2
  clear HM2
  go_wp2_with fail; refine hK.out _ _ (HM.out.sub (by exact subOf)) (fun hHeld => ?_); clear hK K; (try simp only [Act.put, List.setIfInBounds_toArray, List.set_cons_zero, List.set_cons_succ])
  refine wpAnyH_ready (rs := [32]) (by kernel_rfl) (by simp) ?_; refine AllReadyH.cons rfl (fun K hK => ?_) (AllReadyH.nil)
  rw [if_pos (by rfl)]; go_simp
  refine (F8.out _).mono ?_
  rintro e wb ⟨rfl, h1⟩
  have HM2 := Lib.hid (HM.out.below h1)
  clear h1 HM F8 hHeld
  have HM := HM2
  clear HM2
  go_wp2_with fail; refine hK.out _ _ (HM.out.sub (by exact subOf)) (fun hHeld => ?_); clear hK K; (try simp only [Act.put, List.setIfInBounds_toArray, List.set_cons_zero, List.set_cons_succ])
  (refine wa_take (i := 33) (v := .bool true) rfl (by kernel_rfl) (by kernel_rfl) (by kernel_rfl) (fun _ _ _ h => h) (yi_free rfl (fun u => by go_simp)) hHeld rfl ?_; (try simp only [Act.put, List.setIfInBounds_toArray, List.set_cons_zero, List.set_cons_succ]))
  (refine wa_take (i := 34) (v := .bool true) rfl (by kernel_rfl) (by kernel_rfl) (by kernel_rfl) (fun _ _ _ h => h) (yi_free rfl (fun u => by go_simp)) hHeld rfl ?_; (try simp only [Act.put, List.setIfInBounds_toArray, List.set_cons_zero, List.set_cons_succ]))
  (refine wa_take (i := 35) (v := .bool true) rfl (by kernel_rfl) (by kernel_rfl) (by kernel_rfl) (fun _ _ _ h => h) (yi_free rfl (fun u => by go_simp)) hHeld rfl ?_; (try simp only [Act.put, List.setIfInBounds_toArray, List.set_cons_zero, List.set_cons_succ]))
  (refine wa_take (i := 36) rfl (by kernel_rfl) (by kernel_rfl) (by kernel_rfl) (fun _ _ _ h => h) (yi_load rfl _ _ rfl rfl (by exact arrOf) (fun u hu => hu) (by exact memOf) (by exact lenOf)) hHeld rfl ?_; (try simp only [Act.put, List.setIfInBounds_toArray, List.set_cons_zero, List.set_cons_succ]))
  (refine wa_take (i := 37) rfl (by kernel_rfl) (by kernel_rfl) (by kernel_rfl) (fun _ _ _ h => h) (yi_load rfl _ _ rfl rfl (by exact arrOf) (fun u hu => hu) (by exact memOf) (by exact lenOf)) hHeld rfl ?_; (try simp only [Act.put, List.setIfInBounds_toArray, List.set_cons_zero, List.set_cons_succ]))
  (refine wa_take (i := 38) (v := .bool true) rfl (by kernel_rfl) (by kernel_rfl) (by kernel_rfl) (fun _ _ _ h => h) (yi_free rfl (fun u => by go_simp)) hHeld rfl ?_; (try simp only [Act.put, List.setIfInBounds_toArray, List.set_cons_zero, List.set_cons_succ]))
  (refine wa_take (i := 39) (v := .bool true) rfl (by kernel_rfl) (by kernel_rfl) (by kernel_rfl) (fun _ _ _ h => h) (yi_free rfl (fun u => by go_simp)) hHeld rfl ?_; (try simp only [Act.put, List.setIfInBounds_toArray, List.set_cons_zero, List.set_cons_succ]))
  (refine wa_take (i := 40) (v := .bool true) rfl (by kernel_rfl) (by kernel_rfl) (by kernel_rfl) (fun _ _ _ h => h) (yi_free rfl (fun u => by go_simp)) hHeld rfl ?_; (try simp only [Act.put, List.setIfInBounds_toArray, List.set_cons_zero, List.set_cons_succ]))
  (refine wa_take (i := 41) rfl (by kernel_rfl) (by kernel_rfl) (by kernel_rfl) (fun _ _ _ h => h) (yi_free rfl (fun u => rfl)) hHeld rfl ?_; (try simp only [Act.put, List.setIfInBounds_toArray, List.set_cons_zero, List.set_cons_succ]))
  (refine wa_take (i := 42) rfl (by kernel_rfl) (by kernel_rfl) (by kernel_rfl) (fun _ _ _ h => h) (yi_free rfl (fun u => rfl)) hHeld rfl ?_; (try simp only [Act.put, List.setIfInBounds_toArray, List.set_cons_zero, List.set_cons_succ]))
  (refine wa_take (i := 43) (v := .bool true) rfl (by kernel_rfl) (by kernel_rfl) (by kernel_rfl) (fun _ _ _ h => h) (yi_free rfl (fun u => by go_simp)) hHeld rfl ?_; (try simp only [Act.put, List.setIfInBounds_toArray, List.set_cons_zero, List.set_cons_succ]))
  (refine wa_take (i := 44) (v := .bool true) rfl (by kernel_rfl) (by kernel_rfl) (by kernel_rfl) (fun _ _ _ h => h) (yi_free rfl (fun u => by go_simp)) hHeld rfl ?_; (try simp only [Act.put, List.setIfInBounds_toArray, List.set_cons_zero, List.set_cons_succ]))
  (refine wa_take (i := 45) (v := .bool true) rfl (by kernel_rfl) (by kernel_rfl) (by kernel_rfl) (fun _ _ _ h => h) (yi_free rfl (fun u => by go_simp)) hHeld rfl ?_; (try simp only [Act.put, List.setIfInBounds_toArray, List.set_cons_zero, List.set_cons_succ]))
  (refine wa_take (i := 46) rfl (by kernel_rfl) (by kernel_rfl) (by kernel_rfl) (fun _ _ _ h => h) (yi_free rfl (fun u => rfl)) hHeld rfl ?_; (try simp only [Act.put, List.setIfInBounds_toArray, List.set_cons_zero, List.set_cons_succ]))
  (refine wa_take (i := 47) rfl (by kernel_rfl) (by kernel_rfl) (by kernel_rfl) (fun _ _ _ h => h) (yi_free rfl (fun u => rfl)) hHeld rfl ?_; (try simp only [Act.put, List.setIfInBounds_toArray, List.set_cons_zero, List.set_cons_succ]))
  (refine wa_take (i := 48) (v := .bool true) rfl (by kernel_rfl) (by kernel_rfl) (by kernel_rfl) (fun _ _ _ h => h) (yi_free rfl (fun u => by go_simp)) hHeld rfl ?_; (try simp only [Act.put, List.setIfInBounds_toArray, List.set_cons_zero, List.set_cons_succ]))
  (refine wa_take (i := 49) (v := .bool true) rfl (by kernel_rfl) (by kernel_rfl) (by kernel_rfl) (fun _ _ _ h => h) (yi_free rfl (fun u => by go_simp)) hHeld rfl ?_; (try simp only [Act.put, List.setIfInBounds_toArray, List.set_cons_zero, List.set_cons_succ]))
  (refine wa_take (i := 50) (v := .bool true) rfl (by kernel_rfl) (by kernel_rfl) (by kernel_rfl) (fun _ _ _ h => h) (yi_free rfl (fun u => by go_simp)) hHeld rfl ?_; (try simp only [Act.put, List.setIfInBounds_toArray, List.set_cons_zero, List.set_cons_succ]))
  refine wpAnyH_done (by kernel_rfl) ?_ _
  go_wp2
  go_ret
  exact ⟨rfl, HM.out.1⟩
end Go.Proofs.YtcnckamocbaceaaDoor.Lp
