/-
  What the document's Check answers.
-/
import Derived.Test.YtffapinabidkiaaU2
set_option linter.unusedSimpArgs false
set_option linter.unusedVariables false
/- U3 -/
namespace Go.Proofs.Ytffapinabidkiaa.Lp
open Go.RowKit Go.Proofs.Ytffapinabidkiaa.Fq
set_option maxRecDepth 100000 in
set_option maxHeartbeats 2000000 in
theorem rcheck_any (on : Bool) (nx dp dr : Int) (A : Option Addr) (n c : Nat) (ls : List Pk) (w : World) (h : Hid (RdP w A n ls)) (hn : n ≤ 4398046511104) :
    Calls Try.prog 20 #[jtV on nx dp dr A n c] w (ValQ w (.int .i64 (ckE ⟨on, nx, dp, dr, ls.map pl⟩))) := by
  have HM := Lib.hid (MV.start w)
  have hn9 : (n : Int) ≤ 4398046511104 := by omega
  have HNUM := Lib.hid (num_iff on nx dp dr)
  have HFAIL := Lib.hid (show ¬ NumOk on nx dp dr → ckE ⟨on, nx, dp, dr, ls.map pl⟩ = 1 from fun hk => if_neg fun hok => hk hok.1)
  obtain ⟨r, hr⟩ : ∃ r, r = ckE ⟨on, nx, dp, dr, ls.map pl⟩ := ⟨_, rfl⟩
  rw [← hr] at HFAIL ⊢
  have HR := Lib.hid hr
  clear hr
  by_cases h0 : dp < 1
  · have HV := Lib.hid (HFAIL.out fun hk => by have := HNUM.out.1 hk; omega)
    clear HNUM HFAIL
    go_enter Try.func20, Try.ntmps20
    go_wp2
    go_ret
    exact ⟨by rw [HV.out]; rfl, (Below.refl _ _).alloc (Nat.le_refl _) _⟩
  have p0 : 1 ≤ dp := by omega
  clear h0
  by_cases h1 : 16 < dp
  · have HV := Lib.hid (HFAIL.out fun hk => by have := HNUM.out.1 hk; omega)
    clear HNUM HFAIL
    go_enter Try.func20, Try.ntmps20
    go_wp2
    go_ret
    exact ⟨by rw [HV.out]; rfl, (Below.refl _ _).alloc (Nat.le_refl _) _⟩
  have p1 : dp ≤ 16 := by omega
  clear h1
  by_cases h2 : nx < 0
  · have HV := Lib.hid (HFAIL.out fun hk => by have := HNUM.out.1 hk; omega)
    clear HNUM HFAIL
    go_enter Try.func20, Try.ntmps20
    go_wp2
    go_ret
    exact ⟨by rw [HV.out]; rfl, (Below.refl _ _).alloc (Nat.le_refl _) _⟩
  have p2 : 0 ≤ nx := by omega
  clear h2
  by_cases h3 : 2199023255552 < nx
  · have HV := Lib.hid (HFAIL.out fun hk => by have := HNUM.out.1 hk; omega)
    clear HNUM HFAIL
    go_enter Try.func20, Try.ntmps20
    go_wp2
    go_ret
    exact ⟨by rw [HV.out]; rfl, (Below.refl _ _).alloc (Nat.le_refl _) _⟩
  have p3 : nx ≤ 2199023255552 := by omega
  clear h3
  by_cases h4 : dr < 0
  · have HV := Lib.hid (HFAIL.out fun hk => by have := HNUM.out.1 hk; omega)
    clear HNUM HFAIL
    go_enter Try.func20, Try.ntmps20
    go_wp2
    go_ret
    exact ⟨by rw [HV.out]; rfl, (Below.refl _ _).alloc (Nat.le_refl _) _⟩
  have p4 : 0 ≤ dr := by omega
  clear h4
  by_cases h5 : 12 ≤ dr
  · have HV := Lib.hid (HFAIL.out fun hk => by have := HNUM.out.1 hk; omega)
    clear HNUM HFAIL
    go_enter Try.func20, Try.ntmps20
    go_wp2
    go_ret
    exact ⟨by rw [HV.out]; rfl, (Below.refl _ _).alloc (Nat.le_refl _) _⟩
  have p5 : dr < 12 := by omega
  clear h5
  cases on
  · by_cases h6 : nx = 0
    · subst h6
      by_cases h7 : dr = 0
      · subst h7
        have HOKN := Lib.hid (HNUM.out.2 ⟨by omega, by omega, by omega, by omega, by omega, by omega, fun _ => ⟨rfl, rfl⟩⟩)
        have HAT := Lib.hid (okJ_at (on := false) (nx := 0) (dp := dp) (dr := 0) h.out HOKN.out)
        clear HNUM HFAIL HM
        go_enter Try.func20, Try.ntmps20
        go_wp2
        have HM := Lib.hid ((MV.start w).alloc 24 #[.bool false, .int .i64 0, .int .i64 dp, .int .i64 0, .slice A n c])
        generalize w.heap.size = g at HM ⊢
        generalize w.alloc _ = u at HM ⊢
        go_loopw [51] (fun vi wr => ∃ k : Nat, vi = .int .i64 (k : Int) ∧ k ≤ n ∧ Hid (∀ j x, j < k → ls[j]? = some x → okAt false 0 ls j x) ∧ Hid (MV w wr [(g, 24, #[.bool false, .int .i64 0, .int .i64 dp, .int .i64 0, .slice A n c])] wr)) (fun vi _ => n - (intOf vi).toNat)
        case atStart => exact ⟨0, rfl, by omega, Lib.hid (fun j x hj => absurd hj (by omega)), Lib.hid HM.out.base⟩
        case round =>
          clear HM
          obtain ⟨k, rfl, hk, HK, HM⟩ := hrel
          by_cases hlt : k < n
          · have kn : (k : Int) < (n : Int) := by omega
            obtain ⟨L, x, rfl, hL, hx, c0, c1, -, hxm⟩ := (h.out.keep HM.out.1).at_ hlt
            have hL2 : (L.add (k * 2)).block < wr.heap.size := by rw [block_of_add]; exact hL
            have HX := Lib.hid hx
            have HXM := Lib.hid hxm
            have HAK := Lib.hid (show ¬ okAt false 0 ls k x → r = 1 from fun hno => by rw [HR.out]; exact if_neg fun hok => hno (HAT.out.1 hok k x HX.out))
            clear hx hxm
            go_wp2_with (first | (refine jL ?_) | (refine jS ?_; clear HM; intro us HM; simp only [List.set, List.setIfInBounds_toArray, List.set_cons_zero, List.set_cons_succ] at HM) | (refine jN ?_; first | (have q : dV HM = 0 := rfl; clear q HM; intro g1 u1 HG1 HM) | (have q : dV HM = 1 := rfl; clear q HM; intro g2 u2 HG2 HM) | (have q : dV HM = 2 := rfl; clear q HM; intro g3 u3 HG3 HM) | (have q : dV HM = 3 := rfl; clear q HM; intro g4 u4 HG4 HM) | (have q : dV HM = 4 := rfl; clear q HM; intro g5 u5 HG5 HM) | (have q : dV HM = 5 := rfl; clear q HM; intro g6 u6 HG6 HM) | (have q : dV HM = 6 := rfl; clear q HM; intro g7 u7 HG7 HM) | (have q : dV HM = 7 := rfl; clear q HM; intro g8 u8 HG8 HM) | (have q : dV HM = 8 := rfl; clear q HM; intro g9 u9 HG9 HM) | (have q : dV HM = 9 := rfl; clear q HM; intro g10 u10 HG10 HM) | (have q : dV HM = 10 := rfl; clear q HM; intro g11 u11 HG11 HM) | (have q : dV HM = 11 := rfl; clear q HM; intro g12 u12 HG12 HM) | (have q : dV HM = 12 := rfl; clear q HM; intro g13 u13 HG13 HM) | (have q : dV HM = 13 := rfl; clear q HM; intro g14 u14 HG14 HM)))
            have HW := Lib.hid HM.out.1
            have HPB := HM.out.get (g := g2) (T := 46) (cs := #[.int .i64 x.s, .slice x.A x.n x.c]) (by exact vmemOf)
            have HJB := HM.out.get (g := g) (T := 24) (cs := #[.bool false, .int .i64 0, .int .i64 dp, .int .i64 0, .slice (some L) n c]) (by exact vmemOf)
            have HLP := Lib.hid (fun (u : World) (hu : Below us.heap.size us u) => run_load_blk (T := 46) rowPk (HPB.below hu HPB.lt) rfl)
            have HLS := Lib.hid (fun (u : World) (hu : Below us.heap.size us u) => run_load_one (T := 3) (ad := ⟨g2, 0, none⟩) (v := .int .i64 x.s) oneInt (((HPB.below hu HPB.lt).cell 0).trans rfl))
            have HLQ := Lib.hid (fun (u : World) (hu : Below us.heap.size us u) => run_load_one (T := 22) (ad := ⟨g, 4, none⟩) (v := .slice (some L) n c) onePacks (((HJB.below hu HJB.lt).cell 4).trans rfl))
            clear HPB HJB c0 c1
            cases hw : wrong x.s x.n with
            | true =>
              have HV := Lib.hid (HAK.out fun hok => by rw [hok.1] at hw; cases hw)
              have HWR := Lib.hid hw
              clear hw
              refine wp_region_held_drew (S := fun u => Below us.heap.size us u) (by kernel_rfl) (Below.drew (Below.refl _ _)) (fun hHeld => ?_); have HB := Lib.hid (show Below us.heap.size us (World.drew us) from Below.drew (Below.refl _ _)); generalize World.drew us = u0 at HB hHeld ⊢
              (refine wa_take (i := 0) rfl (by kernel_rfl) (by kernel_rfl) (by kernel_rfl) (fun _ _ _ h => h) (yv_load rfl _ _ rfl rfl (HLP.out)) hHeld rfl ?_; (try simp only [Act.put, List.setIfInBounds_toArray, List.set_cons_zero, List.set_cons_succ]))
              refine wpAnyH_ready (rs := [1]) (by kernel_rfl) (by simp) ?_; refine AllReadyH.cons rfl (fun K hK => ?_) (AllReadyH.nil)
              rw [if_pos (by rfl)]; go_simp
              refine (may_any x.s x.A x.n x.c _ HXM).mono ?_
              rw [HWR.out]
              rintro e u5 ⟨rfl, hb⟩
              have HB1 := Lib.hid (HB.out.trans (hb.mono HB.out.size)); clear hb HB; have HB := HB1; clear HB1; go_wp2_with fail; refine hK.out _ _ HB.out (fun hHeld => ?_); clear hK K; (try simp only [Act.put, List.setIfInBounds_toArray, List.set_cons_zero, List.set_cons_succ])
              (refine wa_take (i := 2) (v := .bool true) rfl (by kernel_rfl) (by kernel_rfl) (by kernel_rfl) (fun _ _ _ h => h) (yi_free rfl (fun u => by go_simp)) hHeld rfl ?_; (try simp only [Act.put, List.setIfInBounds_toArray, List.set_cons_zero, List.set_cons_succ]))
              (refine wa_take (i := 3) (v := .bool true) rfl (by kernel_rfl) (by kernel_rfl) (by kernel_rfl) (fun _ _ _ h => h) (yi_free rfl (fun u => rfl)) hHeld rfl ?_; (try simp only [Act.put, List.setIfInBounds_toArray, List.set_cons_zero, List.set_cons_succ]))
              (refine wa_take (i := 4) (v := undef) rfl (by kernel_rfl) (by kernel_rfl) (by kernel_rfl) (fun _ _ _ h => h) (.inr ⟨rfl, rfl⟩) hHeld rfl ?_; (try simp only [Act.put, List.setIfInBounds_toArray, List.set_cons_zero, List.set_cons_succ])); (refine wa_take (i := 5) (v := undef) rfl (by kernel_rfl) (by kernel_rfl) (by kernel_rfl) (fun _ _ _ h => h) (.inr ⟨rfl, rfl⟩) hHeld rfl ?_; (try simp only [Act.put, List.setIfInBounds_toArray, List.set_cons_zero, List.set_cons_succ])); (refine wa_take (i := 6) (v := undef) rfl (by kernel_rfl) (by kernel_rfl) (by kernel_rfl) (fun _ _ _ h => h) (.inr ⟨rfl, rfl⟩) hHeld rfl ?_; (try simp only [Act.put, List.setIfInBounds_toArray, List.set_cons_zero, List.set_cons_succ])); (refine wa_take (i := 7) (v := undef) rfl (by kernel_rfl) (by kernel_rfl) (by kernel_rfl) (fun _ _ _ h => h) (.inr ⟨rfl, rfl⟩) hHeld rfl ?_; (try simp only [Act.put, List.setIfInBounds_toArray, List.set_cons_zero, List.set_cons_succ])); (refine wa_take (i := 8) (v := undef) rfl (by kernel_rfl) (by kernel_rfl) (by kernel_rfl) (fun _ _ _ h => h) (.inr ⟨rfl, rfl⟩) hHeld rfl ?_; (try simp only [Act.put, List.setIfInBounds_toArray, List.set_cons_zero, List.set_cons_succ])); (refine wa_take (i := 9) (v := undef) rfl (by kernel_rfl) (by kernel_rfl) (by kernel_rfl) (fun _ _ _ h => h) (.inr ⟨rfl, rfl⟩) hHeld rfl ?_; (try simp only [Act.put, List.setIfInBounds_toArray, List.set_cons_zero, List.set_cons_succ])); (refine wa_take (i := 10) (v := undef) rfl (by kernel_rfl) (by kernel_rfl) (by kernel_rfl) (fun _ _ _ h => h) (.inr ⟨rfl, rfl⟩) hHeld rfl ?_; (try simp only [Act.put, List.setIfInBounds_toArray, List.set_cons_zero, List.set_cons_succ])); (refine wa_take (i := 11) (v := undef) rfl (by kernel_rfl) (by kernel_rfl) (by kernel_rfl) (fun _ _ _ h => h) (.inr ⟨rfl, rfl⟩) hHeld rfl ?_; (try simp only [Act.put, List.setIfInBounds_toArray, List.set_cons_zero, List.set_cons_succ])); (refine wa_take (i := 12) (v := undef) rfl (by kernel_rfl) (by kernel_rfl) (by kernel_rfl) (fun _ _ _ h => h) (.inr ⟨rfl, rfl⟩) hHeld rfl ?_; (try simp only [Act.put, List.setIfInBounds_toArray, List.set_cons_zero, List.set_cons_succ])); (refine wa_take (i := 13) (v := undef) rfl (by kernel_rfl) (by kernel_rfl) (by kernel_rfl) (fun _ _ _ h => h) (.inr ⟨rfl, rfl⟩) hHeld rfl ?_; (try simp only [Act.put, List.setIfInBounds_toArray, List.set_cons_zero, List.set_cons_succ])); (refine wa_take (i := 14) (v := undef) rfl (by kernel_rfl) (by kernel_rfl) (by kernel_rfl) (fun _ _ _ h => h) (.inr ⟨rfl, rfl⟩) hHeld rfl ?_; (try simp only [Act.put, List.setIfInBounds_toArray, List.set_cons_zero, List.set_cons_succ])); (refine wa_take (i := 15) (v := undef) rfl (by kernel_rfl) (by kernel_rfl) (by kernel_rfl) (fun _ _ _ h => h) (.inr ⟨rfl, rfl⟩) hHeld rfl ?_; (try simp only [Act.put, List.setIfInBounds_toArray, List.set_cons_zero, List.set_cons_succ])); (refine wa_take (i := 16) (v := undef) rfl (by kernel_rfl) (by kernel_rfl) (by kernel_rfl) (fun _ _ _ h => h) (.inr ⟨rfl, rfl⟩) hHeld rfl ?_; (try simp only [Act.put, List.setIfInBounds_toArray, List.set_cons_zero, List.set_cons_succ])); (refine wa_take (i := 17) (v := undef) rfl (by kernel_rfl) (by kernel_rfl) (by kernel_rfl) (fun _ _ _ h => h) (.inr ⟨rfl, rfl⟩) hHeld rfl ?_; (try simp only [Act.put, List.setIfInBounds_toArray, List.set_cons_zero, List.set_cons_succ]))
              (refine wa_take (i := 18) (v := .bool true) rfl (by kernel_rfl) (by kernel_rfl) (by kernel_rfl) (fun _ _ _ h => h) (yi_free rfl (fun u => rfl)) hHeld rfl ?_; (try simp only [Act.put, List.setIfInBounds_toArray, List.set_cons_zero, List.set_cons_succ]))
              refine wpAnyH_done (by kernel_rfl) ?_ _
              go_wp2_with fail
              go_ret
              exact ⟨by rw [HV.out]; rfl, HW.out.trans (HB.out.mono HW.out.size)⟩
            | false =>
              have HWR := Lib.hid hw
              clear hw
              rcases Nat.eq_zero_or_pos k with h0 | h0
              · have HPREV := Lib.hid (show ∀ y, 0 < k → ls[k - 1]? = some y → y.s < x.s from fun y h9 => absurd h9 (by omega))
                have q0 : (k : Int) ≤ 0 := by omega
                clear h0
                refine wp_region_held_drew (S := fun u => Below us.heap.size us u) (by kernel_rfl) (Below.drew (Below.refl _ _)) (fun hHeld => ?_); have HB := Lib.hid (show Below us.heap.size us (World.drew us) from Below.drew (Below.refl _ _)); generalize World.drew us = u0 at HB hHeld ⊢
                (refine wa_take (i := 0) rfl (by kernel_rfl) (by kernel_rfl) (by kernel_rfl) (fun _ _ _ h => h) (yv_load rfl _ _ rfl rfl (HLP.out)) hHeld rfl ?_; (try simp only [Act.put, List.setIfInBounds_toArray, List.set_cons_zero, List.set_cons_succ]))
                refine wpAnyH_ready (rs := [1]) (by kernel_rfl) (by simp) ?_; refine AllReadyH.cons rfl (fun K hK => ?_) (AllReadyH.nil)
                rw [if_pos (by rfl)]; go_simp
                refine (may_any x.s x.A x.n x.c _ HXM).mono ?_
                rw [HWR.out]
                rintro e u5 ⟨rfl, hb⟩
                have HB1 := Lib.hid (HB.out.trans (hb.mono HB.out.size)); clear hb HB; have HB := HB1; clear HB1; go_wp2_with fail; refine hK.out _ _ HB.out (fun hHeld => ?_); clear hK K; (try simp only [Act.put, List.setIfInBounds_toArray, List.set_cons_zero, List.set_cons_succ])
                (refine wa_take (i := 2) (v := .bool false) rfl (by kernel_rfl) (by kernel_rfl) (by kernel_rfl) (fun _ _ _ h => h) (yi_free rfl (fun u => by go_simp)) hHeld rfl ?_; (try simp only [Act.put, List.setIfInBounds_toArray, List.set_cons_zero, List.set_cons_succ]))
                (refine wa_take (i := 3) (v := .bool false) rfl (by kernel_rfl) (by kernel_rfl) (by kernel_rfl) (fun _ _ _ h => h) (yi_free rfl (fun u => rfl)) hHeld rfl ?_; (try simp only [Act.put, List.setIfInBounds_toArray, List.set_cons_zero, List.set_cons_succ]))
                (refine wa_take (i := 4) (v := .int .i64 (k : Int)) rfl (by kernel_rfl) (by kernel_rfl) (by kernel_rfl) (fun _ _ _ h => h) (yi_free rfl (fun u => rfl)) hHeld rfl ?_; (try simp only [Act.put, List.setIfInBounds_toArray, List.set_cons_zero, List.set_cons_succ]))
                (refine wa_take (i := 5) (v := .bool false) rfl (by kernel_rfl) (by kernel_rfl) (by kernel_rfl) (fun _ _ _ h => h) (yi_free rfl (fun u => by go_simp; try omega)) hHeld rfl ?_; (try simp only [Act.put, List.setIfInBounds_toArray, List.set_cons_zero, List.set_cons_succ]))
                (refine wa_take (i := 6) (v := .bool false) rfl (by kernel_rfl) (by kernel_rfl) (by kernel_rfl) (fun _ _ _ h => h) (yi_free rfl (fun u => rfl)) hHeld rfl ?_; (try simp only [Act.put, List.setIfInBounds_toArray, List.set_cons_zero, List.set_cons_succ]))
                (refine wa_take (i := 7) (v := undef) rfl (by kernel_rfl) (by kernel_rfl) (by kernel_rfl) (fun _ _ _ h => h) (.inr ⟨rfl, rfl⟩) hHeld rfl ?_; (try simp only [Act.put, List.setIfInBounds_toArray, List.set_cons_zero, List.set_cons_succ])); (refine wa_take (i := 8) (v := undef) rfl (by kernel_rfl) (by kernel_rfl) (by kernel_rfl) (fun _ _ _ h => h) (.inr ⟨rfl, rfl⟩) hHeld rfl ?_; (try simp only [Act.put, List.setIfInBounds_toArray, List.set_cons_zero, List.set_cons_succ])); (refine wa_take (i := 9) (v := undef) rfl (by kernel_rfl) (by kernel_rfl) (by kernel_rfl) (fun _ _ _ h => h) (.inr ⟨rfl, rfl⟩) hHeld rfl ?_; (try simp only [Act.put, List.setIfInBounds_toArray, List.set_cons_zero, List.set_cons_succ])); (refine wa_take (i := 10) (v := undef) rfl (by kernel_rfl) (by kernel_rfl) (by kernel_rfl) (fun _ _ _ h => h) (.inr ⟨rfl, rfl⟩) hHeld rfl ?_; (try simp only [Act.put, List.setIfInBounds_toArray, List.set_cons_zero, List.set_cons_succ])); (refine wa_take (i := 11) (v := undef) rfl (by kernel_rfl) (by kernel_rfl) (by kernel_rfl) (fun _ _ _ h => h) (.inr ⟨rfl, rfl⟩) hHeld rfl ?_; (try simp only [Act.put, List.setIfInBounds_toArray, List.set_cons_zero, List.set_cons_succ])); (refine wa_take (i := 12) (v := undef) rfl (by kernel_rfl) (by kernel_rfl) (by kernel_rfl) (fun _ _ _ h => h) (.inr ⟨rfl, rfl⟩) hHeld rfl ?_; (try simp only [Act.put, List.setIfInBounds_toArray, List.set_cons_zero, List.set_cons_succ])); (refine wa_take (i := 13) (v := undef) rfl (by kernel_rfl) (by kernel_rfl) (by kernel_rfl) (fun _ _ _ h => h) (.inr ⟨rfl, rfl⟩) hHeld rfl ?_; (try simp only [Act.put, List.setIfInBounds_toArray, List.set_cons_zero, List.set_cons_succ])); (refine wa_take (i := 14) (v := undef) rfl (by kernel_rfl) (by kernel_rfl) (by kernel_rfl) (fun _ _ _ h => h) (.inr ⟨rfl, rfl⟩) hHeld rfl ?_; (try simp only [Act.put, List.setIfInBounds_toArray, List.set_cons_zero, List.set_cons_succ])); (refine wa_take (i := 15) (v := undef) rfl (by kernel_rfl) (by kernel_rfl) (by kernel_rfl) (fun _ _ _ h => h) (.inr ⟨rfl, rfl⟩) hHeld rfl ?_; (try simp only [Act.put, List.setIfInBounds_toArray, List.set_cons_zero, List.set_cons_succ])); (refine wa_take (i := 16) (v := undef) rfl (by kernel_rfl) (by kernel_rfl) (by kernel_rfl) (fun _ _ _ h => h) (.inr ⟨rfl, rfl⟩) hHeld rfl ?_; (try simp only [Act.put, List.setIfInBounds_toArray, List.set_cons_zero, List.set_cons_succ]))
                (refine wa_take (i := 17) (v := .bool false) rfl (by kernel_rfl) (by kernel_rfl) (by kernel_rfl) (fun _ _ _ h => h) (yi_free rfl (fun u => rfl)) hHeld rfl ?_; (try simp only [Act.put, List.setIfInBounds_toArray, List.set_cons_zero, List.set_cons_succ]))
                (refine wa_take (i := 18) (v := .bool false) rfl (by kernel_rfl) (by kernel_rfl) (by kernel_rfl) (fun _ _ _ h => h) (yi_free rfl (fun u => rfl)) hHeld rfl ?_; (try simp only [Act.put, List.setIfInBounds_toArray, List.set_cons_zero, List.set_cons_succ]))
                refine wpAnyH_done (by kernel_rfl) ?_ _
                have HM2 := Lib.hid (HM.out.below HB.out)
                clear HM hHeld HLP HLS HLQ HW
                have HM := HM2
                clear HM2 HB
                obtain ⟨L', z, e, -, hz, z0, -, -, -⟩ := (h.out.keep HM.out.1).at_ (k := 0) (by omega)
                injection e with e
                subst e
                rw [Nat.zero_mul, Addr.add_zero'] at z0
                have HZ := Lib.hid hz
                have HXB := Lib.hid (show 0 ≤ x.s ∧ x.s ≤ 1099511627776 by have h9 := of_decide_eq_false HWR.out; omega)
                have HZB := Lib.hid (show 0 ≤ z.s ∧ z.s ≤ 1099511627776 by
                  rcases Nat.eq_zero_or_pos k with h0 | h0
                  · subst h0
                    have h8 := HX.out
                    rw [HZ.out] at h8
                    injection h8 with h8
                    rw [h8]
                    exact HXB.out
                  · have h9 := of_decide_eq_false (HK.out 0 z h0 HZ.out).1
                    omega)
                have c40 := HM.out.cell (g := g) (k := 0) (v := .bool false) (by exact vmemOf) rfl
                have c41 := HM.out.cell (g := g) (k := 1) (v := .int .i64 0) (by exact vmemOf) rfl
                have c44 := HM.out.cell (g := g) (k := 4) (v := .slice (some L) n c) (by exact vmemOf) rfl
                have s0 := HM.out.cell (g := g2) (k := 0) (v := .int .i64 x.s) (by exact vmemOf) rfl
                clear hz
                go_wp2_with fail
                by_cases hf : z.s + 64 ≤ x.s
                · have HV := Lib.hid (HAK.out fun hok => by have h9 := hok.2.2; simp only [Bool.false_eq_true, if_false] at h9; have := h9 z HZ.out; omega)
                  have w1 : IntKind.i64.wrap (z.s + 64) = z.s + 64 := IntWalk.i64_in _ (by have := HZB.out; omega)
                  have d1 : decide (z.s + 64 ≤ x.s) = true := decide_eq_true hf
                  go_quiet (fail)
                  go_wp2_with fail
                  go_ret
                  exact ⟨by rw [HV.out]; rfl, below_drewN HM.out.1 nq⟩
                · have HOKK := Lib.hid (show okAt false 0 ls k x from ⟨HWR.out, HPREV.out, by
                    simp only [Bool.false_eq_true, if_false]
                    intro y hy
                    rw [HZ.out] at hy
                    injection hy with hy
                    rw [← hy]
                    omega⟩)
                  have w1 : IntKind.i64.wrap (z.s + 64) = z.s + 64 := IntWalk.i64_in _ (by have := HZB.out; omega)
                  have d1 : decide (z.s + 64 ≤ x.s) = false := decide_eq_false hf
                  go_quiet (fail)
                  have HM2 := Lib.hid (HM.out.below (below_drewN (Below.refl _ _) nq))
                  clear HM c40 c41 c44 s0 z0
                  generalize World.drewN _ nq = wt at HM2 ⊢
                  go_wp2_with fail
                  go_roundw
                  case rel =>
                    refine ⟨k + 1, by first | rfl | go_num, by omega, Lib.hid fun j y hj hy => ?_, Lib.hid (HM2.out.sub (List.sublist_cons_self _ _)).base⟩
                    by_cases hjk : j < k
                    · exact HK.out j y hjk hy
                    · obtain rfl : j = k := by omega
                      rw [HX.out] at hy
                      injection hy with hy
                      rw [← hy]
                      exact HOKK.out
                  case measure => simp [intOf]; omega
              · obtain ⟨m, hkm⟩ : ∃ m, k = m + 1 := ⟨k - 1, by omega⟩
                obtain ⟨L', y, e, hLy, hy, y0, -, -, -⟩ := (h.out.keep HM.out.1).at_ (k := m) (by omega)
                injection e with e
                subst e
                have HY := Lib.hid hy
                have HLY := Lib.hid (fun (u : World) (hu : Below us.heap.size us u) => run_load_int (ad := L.add (m * 2)) (v := y.s) ((hu.cell (by rw [block_of_add]; exact hLy)).trans y0))
                clear y0 hy
                have q1 : (0 : Int) < (k : Int) := by omega
                have q2 : IntKind.i64.wrap ((k : Int) - 1) = (m : Int) := by rw [IntWalk.i64_in _ (by omega)]; omega
                have q3 : (m : Int) < (n : Int) := by omega
                have HKM := Lib.hid hkm
                clear hkm h0
                refine wp_region_held_drew (S := fun u => Below us.heap.size us u) (by kernel_rfl) (Below.drew (Below.refl _ _)) (fun hHeld => ?_); have HB := Lib.hid (show Below us.heap.size us (World.drew us) from Below.drew (Below.refl _ _)); generalize World.drew us = u0 at HB hHeld ⊢
                (refine wa_take (i := 0) rfl (by kernel_rfl) (by kernel_rfl) (by kernel_rfl) (fun _ _ _ h => h) (yv_load rfl _ _ rfl rfl (HLP.out)) hHeld rfl ?_; (try simp only [Act.put, List.setIfInBounds_toArray, List.set_cons_zero, List.set_cons_succ]))
                refine wpAnyH_ready (rs := [1]) (by kernel_rfl) (by simp) ?_; refine AllReadyH.cons rfl (fun K hK => ?_) (AllReadyH.nil)
                rw [if_pos (by rfl)]; go_simp
                refine (may_any x.s x.A x.n x.c _ HXM).mono ?_
                rw [HWR.out]
                rintro e u5 ⟨rfl, hb⟩
                have HB1 := Lib.hid (HB.out.trans (hb.mono HB.out.size)); clear hb HB; have HB := HB1; clear HB1; go_wp2_with fail; refine hK.out _ _ HB.out (fun hHeld => ?_); clear hK K; (try simp only [Act.put, List.setIfInBounds_toArray, List.set_cons_zero, List.set_cons_succ])
                (refine wa_take (i := 2) (v := .bool false) rfl (by kernel_rfl) (by kernel_rfl) (by kernel_rfl) (fun _ _ _ h => h) (yi_free rfl (fun u => by go_simp)) hHeld rfl ?_; (try simp only [Act.put, List.setIfInBounds_toArray, List.set_cons_zero, List.set_cons_succ]))
                (refine wa_take (i := 3) (v := .bool false) rfl (by kernel_rfl) (by kernel_rfl) (by kernel_rfl) (fun _ _ _ h => h) (yi_free rfl (fun u => rfl)) hHeld rfl ?_; (try simp only [Act.put, List.setIfInBounds_toArray, List.set_cons_zero, List.set_cons_succ]))
                (refine wa_take (i := 4) (v := .int .i64 (k : Int)) rfl (by kernel_rfl) (by kernel_rfl) (by kernel_rfl) (fun _ _ _ h => h) (yi_free rfl (fun u => rfl)) hHeld rfl ?_; (try simp only [Act.put, List.setIfInBounds_toArray, List.set_cons_zero, List.set_cons_succ]))
                (refine wa_take (i := 5) (v := .bool true) rfl (by kernel_rfl) (by kernel_rfl) (by kernel_rfl) (fun _ _ _ h => h) (yi_free rfl (fun u => by go_simp; try omega)) hHeld rfl ?_; (try simp only [Act.put, List.setIfInBounds_toArray, List.set_cons_zero, List.set_cons_succ]))
                (refine wa_take (i := 6) (v := .bool true) rfl (by kernel_rfl) (by kernel_rfl) (by kernel_rfl) (fun _ _ _ h => h) (yi_free rfl (fun u => rfl)) hHeld rfl ?_; (try simp only [Act.put, List.setIfInBounds_toArray, List.set_cons_zero, List.set_cons_succ]))
                (refine wa_take (i := 7) (v := .pointer (some ⟨g, 4, none⟩)) rfl (by kernel_rfl) (by kernel_rfl) (by kernel_rfl) (fun _ _ _ h => h) (yi_free rfl (fun u => by go_simp)) hHeld rfl ?_; (try simp only [Act.put, List.setIfInBounds_toArray, List.set_cons_zero, List.set_cons_succ]))
                (refine wa_take (i := 8) rfl (by kernel_rfl) (by kernel_rfl) (by kernel_rfl) (fun _ _ _ h => h) (yv_load rfl _ _ rfl rfl (HLQ.out)) hHeld rfl ?_; (try simp only [Act.put, List.setIfInBounds_toArray, List.set_cons_zero, List.set_cons_succ]))
                (refine wa_take (i := 9) (v := .int .i64 (k : Int)) rfl (by kernel_rfl) (by kernel_rfl) (by kernel_rfl) (fun _ _ _ h => h) (yi_free rfl (fun u => rfl)) hHeld rfl ?_; (try simp only [Act.put, List.setIfInBounds_toArray, List.set_cons_zero, List.set_cons_succ]))
                (refine wa_take (i := 10) (v := .int .i64 ((m : Int))) rfl (by kernel_rfl) (by kernel_rfl) (by kernel_rfl) (fun _ _ _ h => h) (yi_free rfl (fun u => by go_simp)) hHeld rfl ?_; (try simp only [Act.put, List.setIfInBounds_toArray, List.set_cons_zero, List.set_cons_succ]))
                (refine wa_take (i := 11) (v := .pointer (some (L.add (m * 2)))) rfl (by kernel_rfl) (by kernel_rfl) (by kernel_rfl) (fun _ _ _ h => h) (yi_free rfl (fun u => by go_simp)) hHeld rfl ?_; (try simp only [Act.put, List.setIfInBounds_toArray, List.set_cons_zero, List.set_cons_succ]))
                (refine wa_take (i := 12) (v := .pointer (some (L.add (m * 2)))) rfl (by kernel_rfl) (by kernel_rfl) (by kernel_rfl) (fun _ _ _ h => h) (yi_free rfl (fun u => by go_simp)) hHeld rfl ?_; (try simp only [Act.put, List.setIfInBounds_toArray, List.set_cons_zero, List.set_cons_succ]))
                (refine wa_take (i := 13) rfl (by kernel_rfl) (by kernel_rfl) (by kernel_rfl) (fun _ _ _ h => h) (yv_load rfl _ _ rfl rfl (HLY.out)) hHeld rfl ?_; (try simp only [Act.put, List.setIfInBounds_toArray, List.set_cons_zero, List.set_cons_succ]))
                (refine wa_take (i := 14) (v := .pointer (some ⟨g2, 0, none⟩)) rfl (by kernel_rfl) (by kernel_rfl) (by kernel_rfl) (fun _ _ _ h => h) (yi_free rfl (fun u => by go_simp)) hHeld rfl ?_; (try simp only [Act.put, List.setIfInBounds_toArray, List.set_cons_zero, List.set_cons_succ]))
                (refine wa_take (i := 15) rfl (by kernel_rfl) (by kernel_rfl) (by kernel_rfl) (fun _ _ _ h => h) (yv_load rfl _ _ rfl rfl (HLS.out)) hHeld rfl ?_; (try simp only [Act.put, List.setIfInBounds_toArray, List.set_cons_zero, List.set_cons_succ]))
                by_cases hyx : x.s ≤ y.s
                · have HV := Lib.hid (HAK.out fun hok => by have h9 := hok.2.1 y (by omega) (by rw [HKM.out]; exact HY.out); omega)
                  (refine wa_take (i := 16) (v := .bool true) rfl (by kernel_rfl) (by kernel_rfl) (by kernel_rfl) (fun _ _ _ h => h) (yi_free rfl (fun u => by go_simp; try omega)) hHeld rfl ?_; (try simp only [Act.put, List.setIfInBounds_toArray, List.set_cons_zero, List.set_cons_succ]))
                  (refine wa_take (i := 17) (v := .bool true) rfl (by kernel_rfl) (by kernel_rfl) (by kernel_rfl) (fun _ _ _ h => h) (yi_free rfl (fun u => rfl)) hHeld rfl ?_; (try simp only [Act.put, List.setIfInBounds_toArray, List.set_cons_zero, List.set_cons_succ]))
                  (refine wa_take (i := 18) (v := .bool true) rfl (by kernel_rfl) (by kernel_rfl) (by kernel_rfl) (fun _ _ _ h => h) (yi_free rfl (fun u => rfl)) hHeld rfl ?_; (try simp only [Act.put, List.setIfInBounds_toArray, List.set_cons_zero, List.set_cons_succ]))
                  refine wpAnyH_done (by kernel_rfl) ?_ _
                  go_wp2_with fail
                  go_ret
                  exact ⟨by rw [HV.out]; rfl, HW.out.trans (HB.out.mono HW.out.size)⟩
                · have HPREV := Lib.hid (show ∀ y, 0 < k → ls[k - 1]? = some y → y.s < x.s from fun y' _ h9 => by
                    rw [show k - 1 = m by have := HKM.out; omega, HY.out] at h9
                    injection h9 with h9
                    rw [← h9]
                    omega)
                  (refine wa_take (i := 16) (v := .bool false) rfl (by kernel_rfl) (by kernel_rfl) (by kernel_rfl) (fun _ _ _ h => h) (yi_free rfl (fun u => by go_simp; try omega)) hHeld rfl ?_; (try simp only [Act.put, List.setIfInBounds_toArray, List.set_cons_zero, List.set_cons_succ]))
                  (refine wa_take (i := 17) (v := .bool false) rfl (by kernel_rfl) (by kernel_rfl) (by kernel_rfl) (fun _ _ _ h => h) (yi_free rfl (fun u => rfl)) hHeld rfl ?_; (try simp only [Act.put, List.setIfInBounds_toArray, List.set_cons_zero, List.set_cons_succ]))
                  (refine wa_take (i := 18) (v := .bool false) rfl (by kernel_rfl) (by kernel_rfl) (by kernel_rfl) (fun _ _ _ h => h) (yi_free rfl (fun u => rfl)) hHeld rfl ?_; (try simp only [Act.put, List.setIfInBounds_toArray, List.set_cons_zero, List.set_cons_succ]))
                  refine wpAnyH_done (by kernel_rfl) ?_ _
                  have HM2 := Lib.hid (HM.out.below HB.out)
                  clear HM hHeld HLP HLS HLQ HW
                  have HM := HM2
                  clear HM2 HB
                  obtain ⟨L', z, e, -, hz, z0, -, -, -⟩ := (h.out.keep HM.out.1).at_ (k := 0) (by omega)
                  injection e with e
                  subst e
                  rw [Nat.zero_mul, Addr.add_zero'] at z0
                  have HZ := Lib.hid hz
                  have HXB := Lib.hid (show 0 ≤ x.s ∧ x.s ≤ 1099511627776 by have h9 := of_decide_eq_false HWR.out; omega)
                  have HZB := Lib.hid (show 0 ≤ z.s ∧ z.s ≤ 1099511627776 by
                    rcases Nat.eq_zero_or_pos k with h0 | h0
                    · subst h0
                      have h8 := HX.out
                      rw [HZ.out] at h8
                      injection h8 with h8
                      rw [h8]
                      exact HXB.out
                    · have h9 := of_decide_eq_false (HK.out 0 z h0 HZ.out).1
                      omega)
                  have c40 := HM.out.cell (g := g) (k := 0) (v := .bool false) (by exact vmemOf) rfl
                  have c41 := HM.out.cell (g := g) (k := 1) (v := .int .i64 0) (by exact vmemOf) rfl
                  have c44 := HM.out.cell (g := g) (k := 4) (v := .slice (some L) n c) (by exact vmemOf) rfl
                  have s0 := HM.out.cell (g := g2) (k := 0) (v := .int .i64 x.s) (by exact vmemOf) rfl
                  clear hz
                  go_wp2_with fail
                  by_cases hf : z.s + 64 ≤ x.s
                  · have HV := Lib.hid (HAK.out fun hok => by have h9 := hok.2.2; simp only [Bool.false_eq_true, if_false] at h9; have := h9 z HZ.out; omega)
                    have w1 : IntKind.i64.wrap (z.s + 64) = z.s + 64 := IntWalk.i64_in _ (by have := HZB.out; omega)
                    have d1 : decide (z.s + 64 ≤ x.s) = true := decide_eq_true hf
                    go_quiet (fail)
                    go_wp2_with fail
                    go_ret
                    exact ⟨by rw [HV.out]; rfl, below_drewN HM.out.1 nq⟩
                  · have HOKK := Lib.hid (show okAt false 0 ls k x from ⟨HWR.out, HPREV.out, by
                      simp only [Bool.false_eq_true, if_false]
                      intro y hy
                      rw [HZ.out] at hy
                      injection hy with hy
                      rw [← hy]
                      omega⟩)
                    have w1 : IntKind.i64.wrap (z.s + 64) = z.s + 64 := IntWalk.i64_in _ (by have := HZB.out; omega)
                    have d1 : decide (z.s + 64 ≤ x.s) = false := decide_eq_false hf
                    go_quiet (fail)
                    have HM2 := Lib.hid (HM.out.below (below_drewN (Below.refl _ _) nq))
                    clear HM c40 c41 c44 s0 z0
                    generalize World.drewN _ nq = wt at HM2 ⊢
                    go_wp2_with fail
                    go_roundw
                    case rel =>
                      refine ⟨k + 1, by first | rfl | go_num, by omega, Lib.hid fun j y hj hy => ?_, Lib.hid (HM2.out.sub (List.sublist_cons_self _ _)).base⟩
                      by_cases hjk : j < k
                      · exact HK.out j y hjk hy
                      · obtain rfl : j = k := by omega
                        rw [HX.out] at hy
                        injection hy with hy
                        rw [← hy]
                        exact HOKK.out
                    case measure => simp [intOf]; omega
          · obtain rfl : k = n := by omega
            have HV := Lib.hid (show r = 0 by
              rw [HR.out]
              exact if_pos (HAT.out.2 fun j x hx => HK.out j x (by rw [← h.out.1]; exact (List.getElem?_eq_some_iff.1 hx).1) hx))
            go_wp2_with (first | (refine jL ?_) | (refine jS ?_; clear HM; intro us HM; simp only [List.set, List.setIfInBounds_toArray, List.set_cons_zero, List.set_cons_succ] at HM) | (refine jN ?_; first | (have q : dV HM = 0 := rfl; clear q HM; intro g1 u1 HG1 HM) | (have q : dV HM = 1 := rfl; clear q HM; intro g2 u2 HG2 HM) | (have q : dV HM = 2 := rfl; clear q HM; intro g3 u3 HG3 HM) | (have q : dV HM = 3 := rfl; clear q HM; intro g4 u4 HG4 HM) | (have q : dV HM = 4 := rfl; clear q HM; intro g5 u5 HG5 HM) | (have q : dV HM = 5 := rfl; clear q HM; intro g6 u6 HG6 HM) | (have q : dV HM = 6 := rfl; clear q HM; intro g7 u7 HG7 HM) | (have q : dV HM = 7 := rfl; clear q HM; intro g8 u8 HG8 HM) | (have q : dV HM = 8 := rfl; clear q HM; intro g9 u9 HG9 HM) | (have q : dV HM = 9 := rfl; clear q HM; intro g10 u10 HG10 HM) | (have q : dV HM = 10 := rfl; clear q HM; intro g11 u11 HG11 HM) | (have q : dV HM = 11 := rfl; clear q HM; intro g12 u12 HG12 HM) | (have q : dV HM = 12 := rfl; clear q HM; intro g13 u13 HG13 HM) | (have q : dV HM = 13 := rfl; clear q HM; intro g14 u14 HG14 HM)))
            go_ret
            exact ⟨by rw [HV.out]; rfl, HM.out.1⟩
      · have d7 : (dr != 0) = true := by simpa using h7
        have HV := Lib.hid (HFAIL.out fun hk => by have := HNUM.out.1 hk; have := this.2.2.2.2.2.2 rfl; omega)
        clear HNUM HFAIL
        go_enter Try.func20, Try.ntmps20
        go_wp2
        go_ret
        exact ⟨by rw [HV.out]; rfl, (Below.refl _ _).alloc (Nat.le_refl _) _⟩
    · have d6 : (nx != 0) = true := by simpa using h6
      have HV := Lib.hid (HFAIL.out fun hk => by have := HNUM.out.1 hk; have := this.2.2.2.2.2.2 rfl; omega)
      clear HNUM HFAIL
      go_enter Try.func20, Try.ntmps20
      go_wp2
      go_ret
      exact ⟨by rw [HV.out]; rfl, (Below.refl _ _).alloc (Nat.le_refl _) _⟩
  · have HOKN := Lib.hid (HNUM.out.2 ⟨by omega, by omega, by omega, by omega, by omega, by omega, fun h => (nomatch h)⟩)
    have HAT := Lib.hid (okJ_at (on := true) (nx := nx) (dp := dp) (dr := dr) h.out HOKN.out)
    clear HNUM HFAIL HM
    go_enter Try.func20, Try.ntmps20
    go_wp2
    have HM := Lib.hid ((MV.start w).alloc 24 #[.bool true, .int .i64 nx, .int .i64 dp, .int .i64 dr, .slice A n c])
    generalize w.heap.size = g at HM ⊢
    generalize w.alloc _ = u at HM ⊢
    go_loopw [51] (fun vi wr => ∃ k : Nat, vi = .int .i64 (k : Int) ∧ k ≤ n ∧ Hid (∀ j x, j < k → ls[j]? = some x → okAt true nx ls j x) ∧ Hid (MV w wr [(g, 24, #[.bool true, .int .i64 nx, .int .i64 dp, .int .i64 dr, .slice A n c])] wr)) (fun vi _ => n - (intOf vi).toNat)
    case atStart => exact ⟨0, rfl, by omega, Lib.hid (fun j x hj => absurd hj (by omega)), Lib.hid HM.out.base⟩
    case round =>
      clear HM
      obtain ⟨k, rfl, hk, HK, HM⟩ := hrel
      by_cases hlt : k < n
      · have kn : (k : Int) < (n : Int) := by omega
        obtain ⟨L, x, rfl, hL, hx, c0, c1, -, hxm⟩ := (h.out.keep HM.out.1).at_ hlt
        have hL2 : (L.add (k * 2)).block < wr.heap.size := by rw [block_of_add]; exact hL
        have HX := Lib.hid hx
        have HXM := Lib.hid hxm
        have HAK := Lib.hid (show ¬ okAt true nx ls k x → r = 1 from fun hno => by rw [HR.out]; exact if_neg fun hok => hno (HAT.out.1 hok k x HX.out))
        clear hx hxm
        go_wp2_with (first | (refine jL ?_) | (refine jS ?_; clear HM; intro us HM; simp only [List.set, List.setIfInBounds_toArray, List.set_cons_zero, List.set_cons_succ] at HM) | (refine jN ?_; first | (have q : dV HM = 0 := rfl; clear q HM; intro g1 u1 HG1 HM) | (have q : dV HM = 1 := rfl; clear q HM; intro g2 u2 HG2 HM) | (have q : dV HM = 2 := rfl; clear q HM; intro g3 u3 HG3 HM) | (have q : dV HM = 3 := rfl; clear q HM; intro g4 u4 HG4 HM) | (have q : dV HM = 4 := rfl; clear q HM; intro g5 u5 HG5 HM) | (have q : dV HM = 5 := rfl; clear q HM; intro g6 u6 HG6 HM) | (have q : dV HM = 6 := rfl; clear q HM; intro g7 u7 HG7 HM) | (have q : dV HM = 7 := rfl; clear q HM; intro g8 u8 HG8 HM) | (have q : dV HM = 8 := rfl; clear q HM; intro g9 u9 HG9 HM) | (have q : dV HM = 9 := rfl; clear q HM; intro g10 u10 HG10 HM) | (have q : dV HM = 10 := rfl; clear q HM; intro g11 u11 HG11 HM) | (have q : dV HM = 11 := rfl; clear q HM; intro g12 u12 HG12 HM) | (have q : dV HM = 12 := rfl; clear q HM; intro g13 u13 HG13 HM) | (have q : dV HM = 13 := rfl; clear q HM; intro g14 u14 HG14 HM)))
        have HW := Lib.hid HM.out.1
        have HPB := HM.out.get (g := g2) (T := 46) (cs := #[.int .i64 x.s, .slice x.A x.n x.c]) (by exact vmemOf)
        have HJB := HM.out.get (g := g) (T := 24) (cs := #[.bool true, .int .i64 nx, .int .i64 dp, .int .i64 dr, .slice (some L) n c]) (by exact vmemOf)
        have HLP := Lib.hid (fun (u : World) (hu : Below us.heap.size us u) => run_load_blk (T := 46) rowPk (HPB.below hu HPB.lt) rfl)
        have HLS := Lib.hid (fun (u : World) (hu : Below us.heap.size us u) => run_load_one (T := 3) (ad := ⟨g2, 0, none⟩) (v := .int .i64 x.s) oneInt (((HPB.below hu HPB.lt).cell 0).trans rfl))
        have HLQ := Lib.hid (fun (u : World) (hu : Below us.heap.size us u) => run_load_one (T := 22) (ad := ⟨g, 4, none⟩) (v := .slice (some L) n c) onePacks (((HJB.below hu HJB.lt).cell 4).trans rfl))
        clear HPB HJB c0 c1
        cases hw : wrong x.s x.n with
        | true =>
          have HV := Lib.hid (HAK.out fun hok => by rw [hok.1] at hw; cases hw)
          have HWR := Lib.hid hw
          clear hw
          refine wp_region_held_drew (S := fun u => Below us.heap.size us u) (by kernel_rfl) (Below.drew (Below.refl _ _)) (fun hHeld => ?_); have HB := Lib.hid (show Below us.heap.size us (World.drew us) from Below.drew (Below.refl _ _)); generalize World.drew us = u0 at HB hHeld ⊢
          (refine wa_take (i := 0) rfl (by kernel_rfl) (by kernel_rfl) (by kernel_rfl) (fun _ _ _ h => h) (yv_load rfl _ _ rfl rfl (HLP.out)) hHeld rfl ?_; (try simp only [Act.put, List.setIfInBounds_toArray, List.set_cons_zero, List.set_cons_succ]))
          refine wpAnyH_ready (rs := [1]) (by kernel_rfl) (by simp) ?_; refine AllReadyH.cons rfl (fun K hK => ?_) (AllReadyH.nil)
          rw [if_pos (by rfl)]; go_simp
          refine (may_any x.s x.A x.n x.c _ HXM).mono ?_
          rw [HWR.out]
          rintro e u5 ⟨rfl, hb⟩
          have HB1 := Lib.hid (HB.out.trans (hb.mono HB.out.size)); clear hb HB; have HB := HB1; clear HB1; go_wp2_with fail; refine hK.out _ _ HB.out (fun hHeld => ?_); clear hK K; (try simp only [Act.put, List.setIfInBounds_toArray, List.set_cons_zero, List.set_cons_succ])
          (refine wa_take (i := 2) (v := .bool true) rfl (by kernel_rfl) (by kernel_rfl) (by kernel_rfl) (fun _ _ _ h => h) (yi_free rfl (fun u => by go_simp)) hHeld rfl ?_; (try simp only [Act.put, List.setIfInBounds_toArray, List.set_cons_zero, List.set_cons_succ]))
          (refine wa_take (i := 3) (v := .bool true) rfl (by kernel_rfl) (by kernel_rfl) (by kernel_rfl) (fun _ _ _ h => h) (yi_free rfl (fun u => rfl)) hHeld rfl ?_; (try simp only [Act.put, List.setIfInBounds_toArray, List.set_cons_zero, List.set_cons_succ]))
          (refine wa_take (i := 4) (v := undef) rfl (by kernel_rfl) (by kernel_rfl) (by kernel_rfl) (fun _ _ _ h => h) (.inr ⟨rfl, rfl⟩) hHeld rfl ?_; (try simp only [Act.put, List.setIfInBounds_toArray, List.set_cons_zero, List.set_cons_succ])); (refine wa_take (i := 5) (v := undef) rfl (by kernel_rfl) (by kernel_rfl) (by kernel_rfl) (fun _ _ _ h => h) (.inr ⟨rfl, rfl⟩) hHeld rfl ?_; (try simp only [Act.put, List.setIfInBounds_toArray, List.set_cons_zero, List.set_cons_succ])); (refine wa_take (i := 6) (v := undef) rfl (by kernel_rfl) (by kernel_rfl) (by kernel_rfl) (fun _ _ _ h => h) (.inr ⟨rfl, rfl⟩) hHeld rfl ?_; (try simp only [Act.put, List.setIfInBounds_toArray, List.set_cons_zero, List.set_cons_succ])); (refine wa_take (i := 7) (v := undef) rfl (by kernel_rfl) (by kernel_rfl) (by kernel_rfl) (fun _ _ _ h => h) (.inr ⟨rfl, rfl⟩) hHeld rfl ?_; (try simp only [Act.put, List.setIfInBounds_toArray, List.set_cons_zero, List.set_cons_succ])); (refine wa_take (i := 8) (v := undef) rfl (by kernel_rfl) (by kernel_rfl) (by kernel_rfl) (fun _ _ _ h => h) (.inr ⟨rfl, rfl⟩) hHeld rfl ?_; (try simp only [Act.put, List.setIfInBounds_toArray, List.set_cons_zero, List.set_cons_succ])); (refine wa_take (i := 9) (v := undef) rfl (by kernel_rfl) (by kernel_rfl) (by kernel_rfl) (fun _ _ _ h => h) (.inr ⟨rfl, rfl⟩) hHeld rfl ?_; (try simp only [Act.put, List.setIfInBounds_toArray, List.set_cons_zero, List.set_cons_succ])); (refine wa_take (i := 10) (v := undef) rfl (by kernel_rfl) (by kernel_rfl) (by kernel_rfl) (fun _ _ _ h => h) (.inr ⟨rfl, rfl⟩) hHeld rfl ?_; (try simp only [Act.put, List.setIfInBounds_toArray, List.set_cons_zero, List.set_cons_succ])); (refine wa_take (i := 11) (v := undef) rfl (by kernel_rfl) (by kernel_rfl) (by kernel_rfl) (fun _ _ _ h => h) (.inr ⟨rfl, rfl⟩) hHeld rfl ?_; (try simp only [Act.put, List.setIfInBounds_toArray, List.set_cons_zero, List.set_cons_succ])); (refine wa_take (i := 12) (v := undef) rfl (by kernel_rfl) (by kernel_rfl) (by kernel_rfl) (fun _ _ _ h => h) (.inr ⟨rfl, rfl⟩) hHeld rfl ?_; (try simp only [Act.put, List.setIfInBounds_toArray, List.set_cons_zero, List.set_cons_succ])); (refine wa_take (i := 13) (v := undef) rfl (by kernel_rfl) (by kernel_rfl) (by kernel_rfl) (fun _ _ _ h => h) (.inr ⟨rfl, rfl⟩) hHeld rfl ?_; (try simp only [Act.put, List.setIfInBounds_toArray, List.set_cons_zero, List.set_cons_succ])); (refine wa_take (i := 14) (v := undef) rfl (by kernel_rfl) (by kernel_rfl) (by kernel_rfl) (fun _ _ _ h => h) (.inr ⟨rfl, rfl⟩) hHeld rfl ?_; (try simp only [Act.put, List.setIfInBounds_toArray, List.set_cons_zero, List.set_cons_succ])); (refine wa_take (i := 15) (v := undef) rfl (by kernel_rfl) (by kernel_rfl) (by kernel_rfl) (fun _ _ _ h => h) (.inr ⟨rfl, rfl⟩) hHeld rfl ?_; (try simp only [Act.put, List.setIfInBounds_toArray, List.set_cons_zero, List.set_cons_succ])); (refine wa_take (i := 16) (v := undef) rfl (by kernel_rfl) (by kernel_rfl) (by kernel_rfl) (fun _ _ _ h => h) (.inr ⟨rfl, rfl⟩) hHeld rfl ?_; (try simp only [Act.put, List.setIfInBounds_toArray, List.set_cons_zero, List.set_cons_succ])); (refine wa_take (i := 17) (v := undef) rfl (by kernel_rfl) (by kernel_rfl) (by kernel_rfl) (fun _ _ _ h => h) (.inr ⟨rfl, rfl⟩) hHeld rfl ?_; (try simp only [Act.put, List.setIfInBounds_toArray, List.set_cons_zero, List.set_cons_succ]))
          (refine wa_take (i := 18) (v := .bool true) rfl (by kernel_rfl) (by kernel_rfl) (by kernel_rfl) (fun _ _ _ h => h) (yi_free rfl (fun u => rfl)) hHeld rfl ?_; (try simp only [Act.put, List.setIfInBounds_toArray, List.set_cons_zero, List.set_cons_succ]))
          refine wpAnyH_done (by kernel_rfl) ?_ _
          go_wp2_with fail
          go_ret
          exact ⟨by rw [HV.out]; rfl, HW.out.trans (HB.out.mono HW.out.size)⟩
        | false =>
          have HWR := Lib.hid hw
          clear hw
          rcases Nat.eq_zero_or_pos k with h0 | h0
          · have HPREV := Lib.hid (show ∀ y, 0 < k → ls[k - 1]? = some y → y.s < x.s from fun y h9 => absurd h9 (by omega))
            have q0 : (k : Int) ≤ 0 := by omega
            clear h0
            refine wp_region_held_drew (S := fun u => Below us.heap.size us u) (by kernel_rfl) (Below.drew (Below.refl _ _)) (fun hHeld => ?_); have HB := Lib.hid (show Below us.heap.size us (World.drew us) from Below.drew (Below.refl _ _)); generalize World.drew us = u0 at HB hHeld ⊢
            (refine wa_take (i := 0) rfl (by kernel_rfl) (by kernel_rfl) (by kernel_rfl) (fun _ _ _ h => h) (yv_load rfl _ _ rfl rfl (HLP.out)) hHeld rfl ?_; (try simp only [Act.put, List.setIfInBounds_toArray, List.set_cons_zero, List.set_cons_succ]))
            refine wpAnyH_ready (rs := [1]) (by kernel_rfl) (by simp) ?_; refine AllReadyH.cons rfl (fun K hK => ?_) (AllReadyH.nil)
            rw [if_pos (by rfl)]; go_simp
            refine (may_any x.s x.A x.n x.c _ HXM).mono ?_
            rw [HWR.out]
            rintro e u5 ⟨rfl, hb⟩
            have HB1 := Lib.hid (HB.out.trans (hb.mono HB.out.size)); clear hb HB; have HB := HB1; clear HB1; go_wp2_with fail; refine hK.out _ _ HB.out (fun hHeld => ?_); clear hK K; (try simp only [Act.put, List.setIfInBounds_toArray, List.set_cons_zero, List.set_cons_succ])
            (refine wa_take (i := 2) (v := .bool false) rfl (by kernel_rfl) (by kernel_rfl) (by kernel_rfl) (fun _ _ _ h => h) (yi_free rfl (fun u => by go_simp)) hHeld rfl ?_; (try simp only [Act.put, List.setIfInBounds_toArray, List.set_cons_zero, List.set_cons_succ]))
            (refine wa_take (i := 3) (v := .bool false) rfl (by kernel_rfl) (by kernel_rfl) (by kernel_rfl) (fun _ _ _ h => h) (yi_free rfl (fun u => rfl)) hHeld rfl ?_; (try simp only [Act.put, List.setIfInBounds_toArray, List.set_cons_zero, List.set_cons_succ]))
            (refine wa_take (i := 4) (v := .int .i64 (k : Int)) rfl (by kernel_rfl) (by kernel_rfl) (by kernel_rfl) (fun _ _ _ h => h) (yi_free rfl (fun u => rfl)) hHeld rfl ?_; (try simp only [Act.put, List.setIfInBounds_toArray, List.set_cons_zero, List.set_cons_succ]))
            (refine wa_take (i := 5) (v := .bool false) rfl (by kernel_rfl) (by kernel_rfl) (by kernel_rfl) (fun _ _ _ h => h) (yi_free rfl (fun u => by go_simp; try omega)) hHeld rfl ?_; (try simp only [Act.put, List.setIfInBounds_toArray, List.set_cons_zero, List.set_cons_succ]))
            (refine wa_take (i := 6) (v := .bool false) rfl (by kernel_rfl) (by kernel_rfl) (by kernel_rfl) (fun _ _ _ h => h) (yi_free rfl (fun u => rfl)) hHeld rfl ?_; (try simp only [Act.put, List.setIfInBounds_toArray, List.set_cons_zero, List.set_cons_succ]))
            (refine wa_take (i := 7) (v := undef) rfl (by kernel_rfl) (by kernel_rfl) (by kernel_rfl) (fun _ _ _ h => h) (.inr ⟨rfl, rfl⟩) hHeld rfl ?_; (try simp only [Act.put, List.setIfInBounds_toArray, List.set_cons_zero, List.set_cons_succ])); (refine wa_take (i := 8) (v := undef) rfl (by kernel_rfl) (by kernel_rfl) (by kernel_rfl) (fun _ _ _ h => h) (.inr ⟨rfl, rfl⟩) hHeld rfl ?_; (try simp only [Act.put, List.setIfInBounds_toArray, List.set_cons_zero, List.set_cons_succ])); (refine wa_take (i := 9) (v := undef) rfl (by kernel_rfl) (by kernel_rfl) (by kernel_rfl) (fun _ _ _ h => h) (.inr ⟨rfl, rfl⟩) hHeld rfl ?_; (try simp only [Act.put, List.setIfInBounds_toArray, List.set_cons_zero, List.set_cons_succ])); (refine wa_take (i := 10) (v := undef) rfl (by kernel_rfl) (by kernel_rfl) (by kernel_rfl) (fun _ _ _ h => h) (.inr ⟨rfl, rfl⟩) hHeld rfl ?_; (try simp only [Act.put, List.setIfInBounds_toArray, List.set_cons_zero, List.set_cons_succ])); (refine wa_take (i := 11) (v := undef) rfl (by kernel_rfl) (by kernel_rfl) (by kernel_rfl) (fun _ _ _ h => h) (.inr ⟨rfl, rfl⟩) hHeld rfl ?_; (try simp only [Act.put, List.setIfInBounds_toArray, List.set_cons_zero, List.set_cons_succ])); (refine wa_take (i := 12) (v := undef) rfl (by kernel_rfl) (by kernel_rfl) (by kernel_rfl) (fun _ _ _ h => h) (.inr ⟨rfl, rfl⟩) hHeld rfl ?_; (try simp only [Act.put, List.setIfInBounds_toArray, List.set_cons_zero, List.set_cons_succ])); (refine wa_take (i := 13) (v := undef) rfl (by kernel_rfl) (by kernel_rfl) (by kernel_rfl) (fun _ _ _ h => h) (.inr ⟨rfl, rfl⟩) hHeld rfl ?_; (try simp only [Act.put, List.setIfInBounds_toArray, List.set_cons_zero, List.set_cons_succ])); (refine wa_take (i := 14) (v := undef) rfl (by kernel_rfl) (by kernel_rfl) (by kernel_rfl) (fun _ _ _ h => h) (.inr ⟨rfl, rfl⟩) hHeld rfl ?_; (try simp only [Act.put, List.setIfInBounds_toArray, List.set_cons_zero, List.set_cons_succ])); (refine wa_take (i := 15) (v := undef) rfl (by kernel_rfl) (by kernel_rfl) (by kernel_rfl) (fun _ _ _ h => h) (.inr ⟨rfl, rfl⟩) hHeld rfl ?_; (try simp only [Act.put, List.setIfInBounds_toArray, List.set_cons_zero, List.set_cons_succ])); (refine wa_take (i := 16) (v := undef) rfl (by kernel_rfl) (by kernel_rfl) (by kernel_rfl) (fun _ _ _ h => h) (.inr ⟨rfl, rfl⟩) hHeld rfl ?_; (try simp only [Act.put, List.setIfInBounds_toArray, List.set_cons_zero, List.set_cons_succ]))
            (refine wa_take (i := 17) (v := .bool false) rfl (by kernel_rfl) (by kernel_rfl) (by kernel_rfl) (fun _ _ _ h => h) (yi_free rfl (fun u => rfl)) hHeld rfl ?_; (try simp only [Act.put, List.setIfInBounds_toArray, List.set_cons_zero, List.set_cons_succ]))
            (refine wa_take (i := 18) (v := .bool false) rfl (by kernel_rfl) (by kernel_rfl) (by kernel_rfl) (fun _ _ _ h => h) (yi_free rfl (fun u => rfl)) hHeld rfl ?_; (try simp only [Act.put, List.setIfInBounds_toArray, List.set_cons_zero, List.set_cons_succ]))
            refine wpAnyH_done (by kernel_rfl) ?_ _
            have HM2 := Lib.hid (HM.out.below HB.out)
            clear HM hHeld HLP HLS HLQ HW
            have HM := HM2
            clear HM2 HB
            obtain ⟨L', z, e, -, hz, z0, -, -, -⟩ := (h.out.keep HM.out.1).at_ (k := 0) (by omega)
            injection e with e
            subst e
            rw [Nat.zero_mul, Addr.add_zero'] at z0
            have HZ := Lib.hid hz
            have HXB := Lib.hid (show 0 ≤ x.s ∧ x.s ≤ 1099511627776 by have h9 := of_decide_eq_false HWR.out; omega)
            have HZB := Lib.hid (show 0 ≤ z.s ∧ z.s ≤ 1099511627776 by
              rcases Nat.eq_zero_or_pos k with h0 | h0
              · subst h0
                have h8 := HX.out
                rw [HZ.out] at h8
                injection h8 with h8
                rw [h8]
                exact HXB.out
              · have h9 := of_decide_eq_false (HK.out 0 z h0 HZ.out).1
                omega)
            have c40 := HM.out.cell (g := g) (k := 0) (v := .bool true) (by exact vmemOf) rfl
            have c41 := HM.out.cell (g := g) (k := 1) (v := .int .i64 nx) (by exact vmemOf) rfl
            have c44 := HM.out.cell (g := g) (k := 4) (v := .slice (some L) n c) (by exact vmemOf) rfl
            have s0 := HM.out.cell (g := g2) (k := 0) (v := .int .i64 x.s) (by exact vmemOf) rfl
            clear hz
            go_wp2_with fail
            have w1 : IntKind.i64.wrap (nx + 64) = nx + 64 := IntWalk.i64_in _ (by omega)
            by_cases hf1 : x.s < nx
            · have HV := Lib.hid (HAK.out fun hok => by have h9 := hok.2.2; simp only [if_true] at h9; omega)
              have d1 : decide (x.s < nx) = true := decide_eq_true hf1
              go_quiet (fail)
              go_wp2_with fail
              go_ret
              exact ⟨by rw [HV.out]; rfl, below_drewN HM.out.1 nq⟩
            · have d1 : decide (x.s < nx) = false := decide_eq_false hf1
              by_cases hf2 : nx + 64 ≤ x.s
              · have HV := Lib.hid (HAK.out fun hok => by have h9 := hok.2.2; simp only [if_true] at h9; omega)
                have d2 : decide (nx + 64 ≤ x.s) = true := decide_eq_true hf2
                go_quiet (fail)
                go_wp2_with fail
                go_ret
                exact ⟨by rw [HV.out]; rfl, below_drewN HM.out.1 nq⟩
              · have HOKK := Lib.hid (show okAt true nx ls k x from ⟨HWR.out, HPREV.out, by simp only [if_true]; omega⟩)
                have d2 : decide (nx + 64 ≤ x.s) = false := decide_eq_false hf2
                go_quiet (fail)
                have HM2 := Lib.hid (HM.out.below (below_drewN (Below.refl _ _) nq))
                clear HM c40 c41 c44 s0 z0
                generalize World.drewN _ nq = wt at HM2 ⊢
                go_wp2_with fail
                go_roundw
                case rel =>
                  refine ⟨k + 1, by first | rfl | go_num, by omega, Lib.hid fun j y hj hy => ?_, Lib.hid (HM2.out.sub (List.sublist_cons_self _ _)).base⟩
                  by_cases hjk : j < k
                  · exact HK.out j y hjk hy
                  · obtain rfl : j = k := by omega
                    rw [HX.out] at hy
                    injection hy with hy
                    rw [← hy]
                    exact HOKK.out
                case measure => simp [intOf]; omega
          · obtain ⟨m, hkm⟩ : ∃ m, k = m + 1 := ⟨k - 1, by omega⟩
            obtain ⟨L', y, e, hLy, hy, y0, -, -, -⟩ := (h.out.keep HM.out.1).at_ (k := m) (by omega)
            injection e with e
            subst e
            have HY := Lib.hid hy
            have HLY := Lib.hid (fun (u : World) (hu : Below us.heap.size us u) => run_load_int (ad := L.add (m * 2)) (v := y.s) ((hu.cell (by rw [block_of_add]; exact hLy)).trans y0))
            clear y0 hy
            have q1 : (0 : Int) < (k : Int) := by omega
            have q2 : IntKind.i64.wrap ((k : Int) - 1) = (m : Int) := by rw [IntWalk.i64_in _ (by omega)]; omega
            have q3 : (m : Int) < (n : Int) := by omega
            have HKM := Lib.hid hkm
            clear hkm h0
            refine wp_region_held_drew (S := fun u => Below us.heap.size us u) (by kernel_rfl) (Below.drew (Below.refl _ _)) (fun hHeld => ?_); have HB := Lib.hid (show Below us.heap.size us (World.drew us) from Below.drew (Below.refl _ _)); generalize World.drew us = u0 at HB hHeld ⊢
            (refine wa_take (i := 0) rfl (by kernel_rfl) (by kernel_rfl) (by kernel_rfl) (fun _ _ _ h => h) (yv_load rfl _ _ rfl rfl (HLP.out)) hHeld rfl ?_; (try simp only [Act.put, List.setIfInBounds_toArray, List.set_cons_zero, List.set_cons_succ]))
            refine wpAnyH_ready (rs := [1]) (by kernel_rfl) (by simp) ?_; refine AllReadyH.cons rfl (fun K hK => ?_) (AllReadyH.nil)
            rw [if_pos (by rfl)]; go_simp
            refine (may_any x.s x.A x.n x.c _ HXM).mono ?_
            rw [HWR.out]
            rintro e u5 ⟨rfl, hb⟩
            have HB1 := Lib.hid (HB.out.trans (hb.mono HB.out.size)); clear hb HB; have HB := HB1; clear HB1; go_wp2_with fail; refine hK.out _ _ HB.out (fun hHeld => ?_); clear hK K; (try simp only [Act.put, List.setIfInBounds_toArray, List.set_cons_zero, List.set_cons_succ])
            (refine wa_take (i := 2) (v := .bool false) rfl (by kernel_rfl) (by kernel_rfl) (by kernel_rfl) (fun _ _ _ h => h) (yi_free rfl (fun u => by go_simp)) hHeld rfl ?_; (try simp only [Act.put, List.setIfInBounds_toArray, List.set_cons_zero, List.set_cons_succ]))
            (refine wa_take (i := 3) (v := .bool false) rfl (by kernel_rfl) (by kernel_rfl) (by kernel_rfl) (fun _ _ _ h => h) (yi_free rfl (fun u => rfl)) hHeld rfl ?_; (try simp only [Act.put, List.setIfInBounds_toArray, List.set_cons_zero, List.set_cons_succ]))
            (refine wa_take (i := 4) (v := .int .i64 (k : Int)) rfl (by kernel_rfl) (by kernel_rfl) (by kernel_rfl) (fun _ _ _ h => h) (yi_free rfl (fun u => rfl)) hHeld rfl ?_; (try simp only [Act.put, List.setIfInBounds_toArray, List.set_cons_zero, List.set_cons_succ]))
            (refine wa_take (i := 5) (v := .bool true) rfl (by kernel_rfl) (by kernel_rfl) (by kernel_rfl) (fun _ _ _ h => h) (yi_free rfl (fun u => by go_simp; try omega)) hHeld rfl ?_; (try simp only [Act.put, List.setIfInBounds_toArray, List.set_cons_zero, List.set_cons_succ]))
            (refine wa_take (i := 6) (v := .bool true) rfl (by kernel_rfl) (by kernel_rfl) (by kernel_rfl) (fun _ _ _ h => h) (yi_free rfl (fun u => rfl)) hHeld rfl ?_; (try simp only [Act.put, List.setIfInBounds_toArray, List.set_cons_zero, List.set_cons_succ]))
            (refine wa_take (i := 7) (v := .pointer (some ⟨g, 4, none⟩)) rfl (by kernel_rfl) (by kernel_rfl) (by kernel_rfl) (fun _ _ _ h => h) (yi_free rfl (fun u => by go_simp)) hHeld rfl ?_; (try simp only [Act.put, List.setIfInBounds_toArray, List.set_cons_zero, List.set_cons_succ]))
            (refine wa_take (i := 8) rfl (by kernel_rfl) (by kernel_rfl) (by kernel_rfl) (fun _ _ _ h => h) (yv_load rfl _ _ rfl rfl (HLQ.out)) hHeld rfl ?_; (try simp only [Act.put, List.setIfInBounds_toArray, List.set_cons_zero, List.set_cons_succ]))
            (refine wa_take (i := 9) (v := .int .i64 (k : Int)) rfl (by kernel_rfl) (by kernel_rfl) (by kernel_rfl) (fun _ _ _ h => h) (yi_free rfl (fun u => rfl)) hHeld rfl ?_; (try simp only [Act.put, List.setIfInBounds_toArray, List.set_cons_zero, List.set_cons_succ]))
            (refine wa_take (i := 10) (v := .int .i64 ((m : Int))) rfl (by kernel_rfl) (by kernel_rfl) (by kernel_rfl) (fun _ _ _ h => h) (yi_free rfl (fun u => by go_simp)) hHeld rfl ?_; (try simp only [Act.put, List.setIfInBounds_toArray, List.set_cons_zero, List.set_cons_succ]))
            (refine wa_take (i := 11) (v := .pointer (some (L.add (m * 2)))) rfl (by kernel_rfl) (by kernel_rfl) (by kernel_rfl) (fun _ _ _ h => h) (yi_free rfl (fun u => by go_simp)) hHeld rfl ?_; (try simp only [Act.put, List.setIfInBounds_toArray, List.set_cons_zero, List.set_cons_succ]))
            (refine wa_take (i := 12) (v := .pointer (some (L.add (m * 2)))) rfl (by kernel_rfl) (by kernel_rfl) (by kernel_rfl) (fun _ _ _ h => h) (yi_free rfl (fun u => by go_simp)) hHeld rfl ?_; (try simp only [Act.put, List.setIfInBounds_toArray, List.set_cons_zero, List.set_cons_succ]))
            (refine wa_take (i := 13) rfl (by kernel_rfl) (by kernel_rfl) (by kernel_rfl) (fun _ _ _ h => h) (yv_load rfl _ _ rfl rfl (HLY.out)) hHeld rfl ?_; (try simp only [Act.put, List.setIfInBounds_toArray, List.set_cons_zero, List.set_cons_succ]))
            (refine wa_take (i := 14) (v := .pointer (some ⟨g2, 0, none⟩)) rfl (by kernel_rfl) (by kernel_rfl) (by kernel_rfl) (fun _ _ _ h => h) (yi_free rfl (fun u => by go_simp)) hHeld rfl ?_; (try simp only [Act.put, List.setIfInBounds_toArray, List.set_cons_zero, List.set_cons_succ]))
            (refine wa_take (i := 15) rfl (by kernel_rfl) (by kernel_rfl) (by kernel_rfl) (fun _ _ _ h => h) (yv_load rfl _ _ rfl rfl (HLS.out)) hHeld rfl ?_; (try simp only [Act.put, List.setIfInBounds_toArray, List.set_cons_zero, List.set_cons_succ]))
            by_cases hyx : x.s ≤ y.s
            · have HV := Lib.hid (HAK.out fun hok => by have h9 := hok.2.1 y (by omega) (by rw [HKM.out]; exact HY.out); omega)
              (refine wa_take (i := 16) (v := .bool true) rfl (by kernel_rfl) (by kernel_rfl) (by kernel_rfl) (fun _ _ _ h => h) (yi_free rfl (fun u => by go_simp; try omega)) hHeld rfl ?_; (try simp only [Act.put, List.setIfInBounds_toArray, List.set_cons_zero, List.set_cons_succ]))
              (refine wa_take (i := 17) (v := .bool true) rfl (by kernel_rfl) (by kernel_rfl) (by kernel_rfl) (fun _ _ _ h => h) (yi_free rfl (fun u => rfl)) hHeld rfl ?_; (try simp only [Act.put, List.setIfInBounds_toArray, List.set_cons_zero, List.set_cons_succ]))
              (refine wa_take (i := 18) (v := .bool true) rfl (by kernel_rfl) (by kernel_rfl) (by kernel_rfl) (fun _ _ _ h => h) (yi_free rfl (fun u => rfl)) hHeld rfl ?_; (try simp only [Act.put, List.setIfInBounds_toArray, List.set_cons_zero, List.set_cons_succ]))
              refine wpAnyH_done (by kernel_rfl) ?_ _
              go_wp2_with fail
              go_ret
              exact ⟨by rw [HV.out]; rfl, HW.out.trans (HB.out.mono HW.out.size)⟩
            · have HPREV := Lib.hid (show ∀ y, 0 < k → ls[k - 1]? = some y → y.s < x.s from fun y' _ h9 => by
                rw [show k - 1 = m by have := HKM.out; omega, HY.out] at h9
                injection h9 with h9
                rw [← h9]
                omega)
              (refine wa_take (i := 16) (v := .bool false) rfl (by kernel_rfl) (by kernel_rfl) (by kernel_rfl) (fun _ _ _ h => h) (yi_free rfl (fun u => by go_simp; try omega)) hHeld rfl ?_; (try simp only [Act.put, List.setIfInBounds_toArray, List.set_cons_zero, List.set_cons_succ]))
              (refine wa_take (i := 17) (v := .bool false) rfl (by kernel_rfl) (by kernel_rfl) (by kernel_rfl) (fun _ _ _ h => h) (yi_free rfl (fun u => rfl)) hHeld rfl ?_; (try simp only [Act.put, List.setIfInBounds_toArray, List.set_cons_zero, List.set_cons_succ]))
              (refine wa_take (i := 18) (v := .bool false) rfl (by kernel_rfl) (by kernel_rfl) (by kernel_rfl) (fun _ _ _ h => h) (yi_free rfl (fun u => rfl)) hHeld rfl ?_; (try simp only [Act.put, List.setIfInBounds_toArray, List.set_cons_zero, List.set_cons_succ]))
              refine wpAnyH_done (by kernel_rfl) ?_ _
              have HM2 := Lib.hid (HM.out.below HB.out)
              clear HM hHeld HLP HLS HLQ HW
              have HM := HM2
              clear HM2 HB
              obtain ⟨L', z, e, -, hz, z0, -, -, -⟩ := (h.out.keep HM.out.1).at_ (k := 0) (by omega)
              injection e with e
              subst e
              rw [Nat.zero_mul, Addr.add_zero'] at z0
              have HZ := Lib.hid hz
              have HXB := Lib.hid (show 0 ≤ x.s ∧ x.s ≤ 1099511627776 by have h9 := of_decide_eq_false HWR.out; omega)
              have HZB := Lib.hid (show 0 ≤ z.s ∧ z.s ≤ 1099511627776 by
                rcases Nat.eq_zero_or_pos k with h0 | h0
                · subst h0
                  have h8 := HX.out
                  rw [HZ.out] at h8
                  injection h8 with h8
                  rw [h8]
                  exact HXB.out
                · have h9 := of_decide_eq_false (HK.out 0 z h0 HZ.out).1
                  omega)
              have c40 := HM.out.cell (g := g) (k := 0) (v := .bool true) (by exact vmemOf) rfl
              have c41 := HM.out.cell (g := g) (k := 1) (v := .int .i64 nx) (by exact vmemOf) rfl
              have c44 := HM.out.cell (g := g) (k := 4) (v := .slice (some L) n c) (by exact vmemOf) rfl
              have s0 := HM.out.cell (g := g2) (k := 0) (v := .int .i64 x.s) (by exact vmemOf) rfl
              clear hz
              go_wp2_with fail
              have w1 : IntKind.i64.wrap (nx + 64) = nx + 64 := IntWalk.i64_in _ (by omega)
              by_cases hf1 : x.s < nx
              · have HV := Lib.hid (HAK.out fun hok => by have h9 := hok.2.2; simp only [if_true] at h9; omega)
                have d1 : decide (x.s < nx) = true := decide_eq_true hf1
                go_quiet (fail)
                go_wp2_with fail
                go_ret
                exact ⟨by rw [HV.out]; rfl, below_drewN HM.out.1 nq⟩
              · have d1 : decide (x.s < nx) = false := decide_eq_false hf1
                by_cases hf2 : nx + 64 ≤ x.s
                · have HV := Lib.hid (HAK.out fun hok => by have h9 := hok.2.2; simp only [if_true] at h9; omega)
                  have d2 : decide (nx + 64 ≤ x.s) = true := decide_eq_true hf2
                  go_quiet (fail)
                  go_wp2_with fail
                  go_ret
                  exact ⟨by rw [HV.out]; rfl, below_drewN HM.out.1 nq⟩
                · have HOKK := Lib.hid (show okAt true nx ls k x from ⟨HWR.out, HPREV.out, by simp only [if_true]; omega⟩)
                  have d2 : decide (nx + 64 ≤ x.s) = false := decide_eq_false hf2
                  go_quiet (fail)
                  have HM2 := Lib.hid (HM.out.below (below_drewN (Below.refl _ _) nq))
                  clear HM c40 c41 c44 s0 z0
                  generalize World.drewN _ nq = wt at HM2 ⊢
                  go_wp2_with fail
                  go_roundw
                  case rel =>
                    refine ⟨k + 1, by first | rfl | go_num, by omega, Lib.hid fun j y hj hy => ?_, Lib.hid (HM2.out.sub (List.sublist_cons_self _ _)).base⟩
                    by_cases hjk : j < k
                    · exact HK.out j y hjk hy
                    · obtain rfl : j = k := by omega
                      rw [HX.out] at hy
                      injection hy with hy
                      rw [← hy]
                      exact HOKK.out
                  case measure => simp [intOf]; omega
      · obtain rfl : k = n := by omega
        have HV := Lib.hid (show r = 0 by
          rw [HR.out]
          exact if_pos (HAT.out.2 fun j x hx => HK.out j x (by rw [← h.out.1]; exact (List.getElem?_eq_some_iff.1 hx).1) hx))
        go_wp2_with (first | (refine jL ?_) | (refine jS ?_; clear HM; intro us HM; simp only [List.set, List.setIfInBounds_toArray, List.set_cons_zero, List.set_cons_succ] at HM) | (refine jN ?_; first | (have q : dV HM = 0 := rfl; clear q HM; intro g1 u1 HG1 HM) | (have q : dV HM = 1 := rfl; clear q HM; intro g2 u2 HG2 HM) | (have q : dV HM = 2 := rfl; clear q HM; intro g3 u3 HG3 HM) | (have q : dV HM = 3 := rfl; clear q HM; intro g4 u4 HG4 HM) | (have q : dV HM = 4 := rfl; clear q HM; intro g5 u5 HG5 HM) | (have q : dV HM = 5 := rfl; clear q HM; intro g6 u6 HG6 HM) | (have q : dV HM = 6 := rfl; clear q HM; intro g7 u7 HG7 HM) | (have q : dV HM = 7 := rfl; clear q HM; intro g8 u8 HG8 HM) | (have q : dV HM = 8 := rfl; clear q HM; intro g9 u9 HG9 HM) | (have q : dV HM = 9 := rfl; clear q HM; intro g10 u10 HG10 HM) | (have q : dV HM = 10 := rfl; clear q HM; intro g11 u11 HG11 HM) | (have q : dV HM = 11 := rfl; clear q HM; intro g12 u12 HG12 HM) | (have q : dV HM = 12 := rfl; clear q HM; intro g13 u13 HG13 HM) | (have q : dV HM = 13 := rfl; clear q HM; intro g14 u14 HG14 HM)))
        go_ret
        exact ⟨by rw [HV.out]; rfl, HM.out.1⟩
end Go.Proofs.Ytffapinabidkiaa.Lp
