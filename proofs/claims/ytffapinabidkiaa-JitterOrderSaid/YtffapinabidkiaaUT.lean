/-
  What turn answers.
-/
import Derived.Test.YtffapinabidkiaaUS
set_option linter.unusedSimpArgs false
set_option linter.unusedVariables false
/- UT -/
namespace Go.Proofs.Ytffapinabidkiaa.Lp
open Go.RowKit Go.Proofs.Ytffapinabidkiaa.Fq
/-- a turn, in plain words -/
def turnR (j : Jp) : Int × List Nat × Jp :=
  if thereQ j.nx j.q = true then (1, (j.q.getD (atQ j.nx j.q) (0, [])).2, ⟨j.on, j.nx + 1, j.dp, 0, j.q.take (atQ j.nx j.q) ++ j.q.drop (atQ j.nx j.q + 1)⟩)
  else if j.dr + 1 = 12 then (3, [], ⟨false, 0, j.dp, 0, []⟩) else (2, [], ⟨j.on, j.nx + 1, j.dp, j.dr + 1, j.q⟩)
def TurnP (w0 w : World) (m g c : Nat) (cs : Array Value) (j : Jp) (ls : List Pk) (e : Ending) (w' : World) : Prop := Ch w w' [m, g] ∧ (
  (∃ y os' cs', e = .returned (.tuple #[.int .i64 1, .slice y.A y.n y.c]) ∧ turnR j = (1, y.bs, ⟨j.on, j.nx + 1, j.dp, 0, os'.map pl⟩) ∧ MV w0 w' [(m, 24, jC j.on (j.nx + 1) j.dp 0 g os'.length c), (g, 46, cs')] w' ∧ RowOk c cs' os' ∧ OwnL w0.heap.size w' [g, m] (y :: os')) ∨
  (e = .returned (.tuple #[.int .i64 2, .slice none 0 0]) ∧ turnR j = (2, [], ⟨j.on, j.nx + 1, j.dp, j.dr + 1, ls.map pl⟩) ∧ MV w0 w' [(m, 24, jC j.on (j.nx + 1) j.dp (j.dr + 1) g ls.length c), (g, 46, cs)] w' ∧ OwnL w0.heap.size w' [g, m] ls) ∨
  (e = .returned (.tuple #[.int .i64 3, .slice none 0 0]) ∧ turnR j = (3, [], ⟨false, 0, j.dp, 0, []⟩) ∧ MV w0 w' [(m, 24, #[.bool false, .int .i64 0, .int .i64 j.dp, .int .i64 0, .slice none 0 0]), (g, 46, cs)] w'))
theorem there_lt {seq : Int} {ls : List Pk} (h : thereP seq ls = true) : atP seq ls < ls.length := by
  unfold thereP at h
  rcases Nat.lt_or_ge (atP seq ls) ls.length with k | k
  · exact k
  · rw [List.getElem?_eq_none k] at h; cases h
theorem split_at {ls : List Pk} {k : Nat} {y : Pk} (h : ls[k]? = some y) : ls.Perm (y :: (ls.take k ++ ls.drop (k + 1))) := by
  obtain ⟨hl, e⟩ := List.getElem?_eq_some_iff.1 h
  have h1 : ls = ls.take k ++ y :: ls.drop (k + 1) := by
    conv => lhs; rw [← List.take_append_drop k ls, List.drop_eq_getElem_cons hl, e]
  conv => lhs; rw [h1]
  exact List.perm_middle
theorem OwnL.pull {B : Nat} {w : World} {gs : List Nat} {ls : List Pk} (h : OwnL B w gs ls) {k : Nat} {y : Pk} (hy : ls[k]? = some y) : OwnL B w gs (y :: (ls.take k ++ ls.drop (k + 1))) := by
  have hp := split_at hy
  exact ⟨fun x hx => h.1 x (hp.mem_iff.2 hx), (hp.map blkOf).nodup_iff.1 h.2⟩
set_option maxRecDepth 100000 in
set_option maxHeartbeats 8000000 in
theorem turn_any (w0 w : World) (m g c : Nat) (cs : Array Value) (on : Bool) (nx dp dr : Int) (ls : List Pk) (hm : Hid (MV w0 w [(m, 24, jC on nx dp dr g ls.length c), (g, 46, cs)] w)) (hr : Hid (RowOk c cs ls)) (ho : Hid (OwnL w0.heap.size w [g, m] ls))
    (h1 : 0 ≤ nx) (h2 : nx ≤ 2199023255552) (h3 : 0 ≤ dr) (h4 : dr ≤ 11) (hl : Hid (ls.length ≤ 64)) :
    Calls Try.prog 44 #[.pointer (some ⟨m, 0, none⟩)] w (TurnP w0 w m g c cs ⟨on, nx, dp, dr, ls.map pl⟩ ls) := by
  have HM := hm
  have bM := HM.out.get (g := m) (T := 24) (cs := jC on nx dp dr g ls.length c) (by exact vmemOf)
  have bG := HM.out.get (g := g) (T := 46) (cs := cs) (by exact vmemOf)
  have HLQ := Lib.hid (fun (u : World) (hu : Below w.heap.size w u) => run_load_one (T := 22) (ad := ⟨m, 4, none⟩) (v := .slice (some ⟨g, 0, none⟩) ls.length c) onePacks (((bM.below hu bM.lt).cell 4).trans rfl))
  have HLN := Lib.hid (fun (u : World) (hu : Below w.heap.size w u) => run_load_one (T := 3) (ad := ⟨m, 1, none⟩) (v := .int .i64 nx) oneInt (((bM.below hu bM.lt).cell 1).trans rfl))
  have HRP := Lib.hid (ho.out.rdP hr.out bG)
  have HL1 := Lib.hid (show ls.length ≤ 281474976710656 by have := hl.out; omega)
  have HO := ho
  clear bM bG hm ho
  go_enter Try.func44, Try.ntmps44
  go_wp2_with fail
  refine wp_region_held_drew (S := fun u => Below w.heap.size w u) (by kernel_rfl) (Below.drew (Below.refl _ _)) (fun hHeld => ?_); have HB := Lib.hid (show Below w.heap.size w (World.drew w) from Below.drew (Below.refl _ _)); generalize World.drew w = u0 at HB hHeld ⊢
  (refine wa_take (i := 0) (v := .pointer (some ⟨m, 0, none⟩)) rfl (by kernel_rfl) (by kernel_rfl) (by kernel_rfl) (fun _ _ _ h => h) (yi_free rfl (fun u => rfl)) hHeld rfl ?_; (try simp only [Act.put, List.setIfInBounds_toArray, List.set_cons_zero, List.set_cons_succ]))
  (refine wa_take (i := 1) (v := .pointer (some ⟨m, 0, none⟩)) rfl (by kernel_rfl) (by kernel_rfl) (by kernel_rfl) (fun _ _ _ h => h) (yi_free rfl (fun u => by go_simp)) hHeld rfl ?_; (try simp only [Act.put, List.setIfInBounds_toArray, List.set_cons_zero, List.set_cons_succ]))
  (refine wa_take (i := 2) (v := .pointer (some ⟨m, 4, none⟩)) rfl (by kernel_rfl) (by kernel_rfl) (by kernel_rfl) (fun _ _ _ h => h) (yi_free rfl (fun u => by go_simp)) hHeld rfl ?_; (try simp only [Act.put, List.setIfInBounds_toArray, List.set_cons_zero, List.set_cons_succ]))
  (refine wa_take (i := 3) rfl (by kernel_rfl) (by kernel_rfl) (by kernel_rfl) (fun _ _ _ h => h) (yv_load rfl _ _ rfl rfl (HLQ.out)) hHeld rfl ?_; (try simp only [Act.put, List.setIfInBounds_toArray, List.set_cons_zero, List.set_cons_succ]))
  (refine wa_take (i := 4) (v := .pointer (some ⟨m, 0, none⟩)) rfl (by kernel_rfl) (by kernel_rfl) (by kernel_rfl) (fun _ _ _ h => h) (yi_free rfl (fun u => rfl)) hHeld rfl ?_; (try simp only [Act.put, List.setIfInBounds_toArray, List.set_cons_zero, List.set_cons_succ]))
  (refine wa_take (i := 5) (v := .pointer (some ⟨m, 0, none⟩)) rfl (by kernel_rfl) (by kernel_rfl) (by kernel_rfl) (fun _ _ _ h => h) (yi_free rfl (fun u => by go_simp)) hHeld rfl ?_; (try simp only [Act.put, List.setIfInBounds_toArray, List.set_cons_zero, List.set_cons_succ]))
  (refine wa_take (i := 6) (v := .pointer (some ⟨m, 1, none⟩)) rfl (by kernel_rfl) (by kernel_rfl) (by kernel_rfl) (fun _ _ _ h => h) (yi_free rfl (fun u => by go_simp)) hHeld rfl ?_; (try simp only [Act.put, List.setIfInBounds_toArray, List.set_cons_zero, List.set_cons_succ]))
  (refine wa_take (i := 7) rfl (by kernel_rfl) (by kernel_rfl) (by kernel_rfl) (fun _ _ _ h => h) (yv_load rfl _ _ rfl rfl (HLN.out)) hHeld rfl ?_; (try simp only [Act.put, List.setIfInBounds_toArray, List.set_cons_zero, List.set_cons_succ]))
  refine wpAnyH_ready (rs := [8]) (by kernel_rfl) (by simp) ?_; refine AllReadyH.cons rfl (fun K hK => ?_) (AllReadyH.nil)
  rw [if_pos (by rfl)]; go_simp
  refine (find_any (some ⟨g, 0, none⟩) ls.length c ls nx _ (Lib.hid (HRP.out.keep HB.out)) HL1.out).mono ?_
  rintro e u4 ⟨rfl, hb⟩
  have HB1 := Lib.hid (HB.out.trans (hb.mono HB.out.size)); clear hb HB; have HB := HB1; clear HB1; go_wp2_with fail; refine hK.out _ _ HB.out (fun hHeld => ?_); clear hK K; (try simp only [Act.put, List.setIfInBounds_toArray, List.set_cons_zero, List.set_cons_succ])
  obtain ⟨k, hk⟩ : ∃ k, k = atP nx ls := ⟨_, rfl⟩
  obtain ⟨th, hth⟩ : ∃ th, th = thereP nx ls := ⟨_, rfl⟩
  rw [← hk, ← hth]
  have HK := Lib.hid hk
  have HTH := Lib.hid hth
  clear hk hth
  (refine wa_take (i := 9) (v := .tuple #[.int .i64 (k : Int), .bool th]) rfl (by kernel_rfl) (by kernel_rfl) (by kernel_rfl) (fun _ _ _ h => h) (yi_free rfl (fun u => rfl)) hHeld rfl ?_; (try simp only [Act.put, List.setIfInBounds_toArray, List.set_cons_zero, List.set_cons_succ]))
  (refine wa_take (i := 10) (v := .int .i64 (k : Int)) rfl (by kernel_rfl) (by kernel_rfl) (by kernel_rfl) (fun _ _ _ h => h) (yi_free rfl (fun u => rfl)) hHeld rfl ?_; (try simp only [Act.put, List.setIfInBounds_toArray, List.set_cons_zero, List.set_cons_succ]))
  (refine wa_take (i := 11) (v := .bool th) rfl (by kernel_rfl) (by kernel_rfl) (by kernel_rfl) (fun _ _ _ h => h) (yi_free rfl (fun u => rfl)) hHeld rfl ?_; (try simp only [Act.put, List.setIfInBounds_toArray, List.set_cons_zero, List.set_cons_succ]))
  (refine wa_take (i := 12) (v := .int .i64 (k : Int)) rfl (by kernel_rfl) (by kernel_rfl) (by kernel_rfl) (fun _ _ _ h => h) (yi_free rfl (fun u => rfl)) hHeld rfl ?_; (try simp only [Act.put, List.setIfInBounds_toArray, List.set_cons_zero, List.set_cons_succ]))
  (refine wa_take (i := 13) (v := .bool th) rfl (by kernel_rfl) (by kernel_rfl) (by kernel_rfl) (fun _ _ _ h => h) (yi_free rfl (fun u => rfl)) hHeld rfl ?_; (try simp only [Act.put, List.setIfInBounds_toArray, List.set_cons_zero, List.set_cons_succ]))
  refine wpAnyH_done (by kernel_rfl) ?_ _
  have HM4 := Lib.hid (HM.out.below HB.out).base
  have HO4 := Lib.hid (HO.out.below HB.out)
  have HC4 := Lib.hid (Ch.of_below HB.out [m, g])
  have H04 := Lib.hid HM4.out.1
  clear hHeld HM HO HLQ HLN HRP HB
  have HM := HM4
  clear HM4
  cases th with
  | true =>
    have hkl : k < ls.length := by rw [HK.out]; exact there_lt HTH.out.symm
    obtain ⟨y, hy⟩ : ∃ y, ls[k]? = some y := ⟨_, List.getElem?_eq_getElem hkl⟩
    have HY := Lib.hid hy
    have hbv := (hr.out.at_ hy).2
    have HKL := Lib.hid hkl
    have kn : (k : Int) < (ls.length : Int) := by omega
    have k64 : (ls.length : Int) ≤ 64 := by have := hl.out; omega
    clear hy hkl
    go_wp2_with (first | (first | (refine jL ?_) | (refine jS ?_; clear HM; intro us HM; simp only [List.set, List.setIfInBounds_toArray, List.set_cons_zero, List.set_cons_succ] at HM) | (refine jN ?_; first | (have q : dV HM = 0 := rfl; clear q HM; intro g1 u1 HG1 HM) | (have q : dV HM = 1 := rfl; clear q HM; intro g2 u2 HG2 HM) | (have q : dV HM = 2 := rfl; clear q HM; intro g3 u3 HG3 HM) | (have q : dV HM = 3 := rfl; clear q HM; intro g4 u4 HG4 HM) | (have q : dV HM = 4 := rfl; clear q HM; intro g5 u5 HG5 HM) | (have q : dV HM = 5 := rfl; clear q HM; intro g6 u6 HG6 HM) | (have q : dV HM = 6 := rfl; clear q HM; intro g7 u7 HG7 HM) | (have q : dV HM = 7 := rfl; clear q HM; intro g8 u8 HG8 HM) | (have q : dV HM = 8 := rfl; clear q HM; intro g9 u9 HG9 HM) | (have q : dV HM = 9 := rfl; clear q HM; intro g10 u10 HG10 HM) | (have q : dV HM = 10 := rfl; clear q HM; intro g11 u11 HG11 HM) | (have q : dV HM = 11 := rfl; clear q HM; intro g12 u12 HG12 HM) | (have q : dV HM = 12 := rfl; clear q HM; intro g13 u13 HG13 HM) | (have q : dV HM = 13 := rfl; clear q HM; intro g14 u14 HG14 HM))) | (refine wv_stP (by rfl) _ _ rfl rfl rfl HM (by exact vidxOf) (by with_reducible assumption) ?_; clear HM; intro us HM; dsimp only [List.set] at HM) | (refine wv_make (by rfl) _ _ _ rfl rfl rfl _ _ _ (by first | exact Try.underlying22 | exact Try.underlying35) HI0 HZ0 HY0 HM (by with_reducible assumption) ?_; first | (have q : dV HM = 0 := rfl; clear q HM; intro g1 u1 HG1 HM) | (have q : dV HM = 1 := rfl; clear q HM; intro g2 u2 HG2 HM) | (have q : dV HM = 2 := rfl; clear q HM; intro g3 u3 HG3 HM) | (have q : dV HM = 3 := rfl; clear q HM; intro g4 u4 HG4 HM) | (have q : dV HM = 4 := rfl; clear q HM; intro g5 u5 HG5 HM) | (have q : dV HM = 5 := rfl; clear q HM; intro g6 u6 HG6 HM) | (have q : dV HM = 6 := rfl; clear q HM; intro g7 u7 HG7 HM) | (have q : dV HM = 7 := rfl; clear q HM; intro g8 u8 HG8 HM) | (have q : dV HM = 8 := rfl; clear q HM; intro g9 u9 HG9 HM) | (have q : dV HM = 9 := rfl; clear q HM; intro g10 u10 HG10 HM) | (have q : dV HM = 10 := rfl; clear q HM; intro g11 u11 HG11 HM) | (have q : dV HM = 11 := rfl; clear q HM; intro g12 u12 HG12 HM) | (have q : dV HM = 12 := rfl; clear q HM; intro g13 u13 HG13 HM) | (have q : dV HM = 13 := rfl; clear q HM; intro g14 u14 HG14 HM)))
    refine (delete_any g k c cs ls _ (HM.out.get (by exact vmemOf)) hr HKL.out (by omega)).mono ?_
    rintro e u6 ⟨cs', rfl, hg6, hr6, hgr⟩
    have HM2 := Lib.hid (HM.out.turn 1 rfl cs' hgr hg6)
    have HR6 := Lib.hid hr6
    have HLL := Lib.hid (show (ls.take k ++ ls.drop (k + 1)).length = ls.length - 1 by simp; omega)
    have HT := Lib.hid (show turnR ⟨on, nx, dp, dr, ls.map pl⟩ = (1, y.bs, ⟨on, nx + 1, dp, 0, (ls.take k ++ ls.drop (k + 1)).map pl⟩) by
      unfold turnR
      rw [if_pos (show thereQ nx (ls.map pl) = true by rw [← thereP_map]; exact HTH.out.symm)]
      show (_, ((ls.map pl).getD (atQ nx (ls.map pl)) (0, [])).2, _) = _
      rw [← atP_map, ← HK.out, List.getD_eq_getElem?_getD, List.getElem?_map, HY.out]
      simp [List.map_take, List.map_drop, pl])
    clear HM hg6 hr6 hgr hbv
    have HM := HM2
    clear HM2
    dsimp only [List.set] at HM
    go_wp2_with (first | (first | (refine jL ?_) | (refine jS ?_; clear HM; intro us HM; simp only [List.set, List.setIfInBounds_toArray, List.set_cons_zero, List.set_cons_succ] at HM) | (refine jN ?_; first | (have q : dV HM = 0 := rfl; clear q HM; intro g1 u1 HG1 HM) | (have q : dV HM = 1 := rfl; clear q HM; intro g2 u2 HG2 HM) | (have q : dV HM = 2 := rfl; clear q HM; intro g3 u3 HG3 HM) | (have q : dV HM = 3 := rfl; clear q HM; intro g4 u4 HG4 HM) | (have q : dV HM = 4 := rfl; clear q HM; intro g5 u5 HG5 HM) | (have q : dV HM = 5 := rfl; clear q HM; intro g6 u6 HG6 HM) | (have q : dV HM = 6 := rfl; clear q HM; intro g7 u7 HG7 HM) | (have q : dV HM = 7 := rfl; clear q HM; intro g8 u8 HG8 HM) | (have q : dV HM = 8 := rfl; clear q HM; intro g9 u9 HG9 HM) | (have q : dV HM = 9 := rfl; clear q HM; intro g10 u10 HG10 HM) | (have q : dV HM = 10 := rfl; clear q HM; intro g11 u11 HG11 HM) | (have q : dV HM = 11 := rfl; clear q HM; intro g12 u12 HG12 HM) | (have q : dV HM = 12 := rfl; clear q HM; intro g13 u13 HG13 HM) | (have q : dV HM = 13 := rfl; clear q HM; intro g14 u14 HG14 HM))) | (refine wv_stP (by rfl) _ _ rfl rfl rfl HM (by exact vidxOf) (by with_reducible assumption) ?_; clear HM; intro us HM; dsimp only [List.set] at HM) | (refine wv_make (by rfl) _ _ _ rfl rfl rfl _ _ _ (by first | exact Try.underlying22 | exact Try.underlying35) HI0 HZ0 HY0 HM (by with_reducible assumption) ?_; first | (have q : dV HM = 0 := rfl; clear q HM; intro g1 u1 HG1 HM) | (have q : dV HM = 1 := rfl; clear q HM; intro g2 u2 HG2 HM) | (have q : dV HM = 2 := rfl; clear q HM; intro g3 u3 HG3 HM) | (have q : dV HM = 3 := rfl; clear q HM; intro g4 u4 HG4 HM) | (have q : dV HM = 4 := rfl; clear q HM; intro g5 u5 HG5 HM) | (have q : dV HM = 5 := rfl; clear q HM; intro g6 u6 HG6 HM) | (have q : dV HM = 6 := rfl; clear q HM; intro g7 u7 HG7 HM) | (have q : dV HM = 7 := rfl; clear q HM; intro g8 u8 HG8 HM) | (have q : dV HM = 8 := rfl; clear q HM; intro g9 u9 HG9 HM) | (have q : dV HM = 9 := rfl; clear q HM; intro g10 u10 HG10 HM) | (have q : dV HM = 10 := rfl; clear q HM; intro g11 u11 HG11 HM) | (have q : dV HM = 11 := rfl; clear q HM; intro g12 u12 HG12 HM) | (have q : dV HM = 12 := rfl; clear q HM; intro g13 u13 HG13 HM) | (have q : dV HM = 13 := rfl; clear q HM; intro g14 u14 HG14 HM)))
    have HO6 := Lib.hid ((HO4.out.keep HM.out (fun e he => by
      simp only [List.mem_cons, List.not_mem_nil, or_false] at he ⊢
      rcases he with rfl | rfl
      · exact .inl (.inr rfl)
      · exact .inl (.inl rfl))).pull HY.out)
    have HMF := Lib.hid HM.out.base
    rw [← HLL.out] at HMF
    go_ret2
    exact ⟨HC4.out.trans (Ch.mv (gs := [m, g]) H04.out HM.out (fun e he => by
        simp only [List.mem_cons, List.not_mem_nil, or_false] at he ⊢
        rcases he with rfl | rfl
        · exact .inl (.inl rfl)
        · exact .inl (.inr rfl))) (fun x hx => .inl hx), .inl ⟨y, _, cs', rfl, HT.out, HMF.out, HR6.out, HO6.out⟩⟩
  | false =>
    have HT := Lib.hid (show ¬ thereQ nx (ls.map pl) = true by rw [← thereP_map, ← HTH.out]; simp)
    by_cases hd : dr + 1 = 12
    · obtain rfl : dr = 11 := by omega
      have HE := Lib.hid (show turnR ⟨on, nx, dp, 11, ls.map pl⟩ = (3, [], ⟨false, 0, dp, 0, []⟩) by
        unfold turnR
        rw [if_neg HT.out, if_pos (by rfl)])
      clear hd
      go_wp2_with (first | (first | (refine jL ?_) | (refine jS ?_; clear HM; intro us HM; simp only [List.set, List.setIfInBounds_toArray, List.set_cons_zero, List.set_cons_succ] at HM) | (refine jN ?_; first | (have q : dV HM = 0 := rfl; clear q HM; intro g1 u1 HG1 HM) | (have q : dV HM = 1 := rfl; clear q HM; intro g2 u2 HG2 HM) | (have q : dV HM = 2 := rfl; clear q HM; intro g3 u3 HG3 HM) | (have q : dV HM = 3 := rfl; clear q HM; intro g4 u4 HG4 HM) | (have q : dV HM = 4 := rfl; clear q HM; intro g5 u5 HG5 HM) | (have q : dV HM = 5 := rfl; clear q HM; intro g6 u6 HG6 HM) | (have q : dV HM = 6 := rfl; clear q HM; intro g7 u7 HG7 HM) | (have q : dV HM = 7 := rfl; clear q HM; intro g8 u8 HG8 HM) | (have q : dV HM = 8 := rfl; clear q HM; intro g9 u9 HG9 HM) | (have q : dV HM = 9 := rfl; clear q HM; intro g10 u10 HG10 HM) | (have q : dV HM = 10 := rfl; clear q HM; intro g11 u11 HG11 HM) | (have q : dV HM = 11 := rfl; clear q HM; intro g12 u12 HG12 HM) | (have q : dV HM = 12 := rfl; clear q HM; intro g13 u13 HG13 HM) | (have q : dV HM = 13 := rfl; clear q HM; intro g14 u14 HG14 HM))) | (refine wv_stP (by rfl) _ _ rfl rfl rfl HM (by exact vidxOf) (by with_reducible assumption) ?_; clear HM; intro us HM; dsimp only [List.set] at HM) | (refine wv_make (by rfl) _ _ _ rfl rfl rfl _ _ _ (by first | exact Try.underlying22 | exact Try.underlying35) HI0 HZ0 HY0 HM (by with_reducible assumption) ?_; first | (have q : dV HM = 0 := rfl; clear q HM; intro g1 u1 HG1 HM) | (have q : dV HM = 1 := rfl; clear q HM; intro g2 u2 HG2 HM) | (have q : dV HM = 2 := rfl; clear q HM; intro g3 u3 HG3 HM) | (have q : dV HM = 3 := rfl; clear q HM; intro g4 u4 HG4 HM) | (have q : dV HM = 4 := rfl; clear q HM; intro g5 u5 HG5 HM) | (have q : dV HM = 5 := rfl; clear q HM; intro g6 u6 HG6 HM) | (have q : dV HM = 6 := rfl; clear q HM; intro g7 u7 HG7 HM) | (have q : dV HM = 7 := rfl; clear q HM; intro g8 u8 HG8 HM) | (have q : dV HM = 8 := rfl; clear q HM; intro g9 u9 HG9 HM) | (have q : dV HM = 9 := rfl; clear q HM; intro g10 u10 HG10 HM) | (have q : dV HM = 10 := rfl; clear q HM; intro g11 u11 HG11 HM) | (have q : dV HM = 11 := rfl; clear q HM; intro g12 u12 HG12 HM) | (have q : dV HM = 12 := rfl; clear q HM; intro g13 u13 HG13 HM) | (have q : dV HM = 13 := rfl; clear q HM; intro g14 u14 HG14 HM)))
      refine (fresh_any dp _).mono ?_
      rintro e u6 ⟨rfl, hb⟩
      have HM2 := Lib.hid (HM.out.below hb)
      clear hb HM
      have HM := HM2
      clear HM2
      go_wp2_with (first | (first | (refine jL ?_) | (refine jS ?_; clear HM; intro us HM; simp only [List.set, List.setIfInBounds_toArray, List.set_cons_zero, List.set_cons_succ] at HM) | (refine jN ?_; first | (have q : dV HM = 0 := rfl; clear q HM; intro g1 u1 HG1 HM) | (have q : dV HM = 1 := rfl; clear q HM; intro g2 u2 HG2 HM) | (have q : dV HM = 2 := rfl; clear q HM; intro g3 u3 HG3 HM) | (have q : dV HM = 3 := rfl; clear q HM; intro g4 u4 HG4 HM) | (have q : dV HM = 4 := rfl; clear q HM; intro g5 u5 HG5 HM) | (have q : dV HM = 5 := rfl; clear q HM; intro g6 u6 HG6 HM) | (have q : dV HM = 6 := rfl; clear q HM; intro g7 u7 HG7 HM) | (have q : dV HM = 7 := rfl; clear q HM; intro g8 u8 HG8 HM) | (have q : dV HM = 8 := rfl; clear q HM; intro g9 u9 HG9 HM) | (have q : dV HM = 9 := rfl; clear q HM; intro g10 u10 HG10 HM) | (have q : dV HM = 10 := rfl; clear q HM; intro g11 u11 HG11 HM) | (have q : dV HM = 11 := rfl; clear q HM; intro g12 u12 HG12 HM) | (have q : dV HM = 12 := rfl; clear q HM; intro g13 u13 HG13 HM) | (have q : dV HM = 13 := rfl; clear q HM; intro g14 u14 HG14 HM))) | (refine wv_stP (by rfl) _ _ rfl rfl rfl HM (by exact vidxOf) (by with_reducible assumption) ?_; clear HM; intro us HM; dsimp only [List.set] at HM) | (refine wv_make (by rfl) _ _ _ rfl rfl rfl _ _ _ (by first | exact Try.underlying22 | exact Try.underlying35) HI0 HZ0 HY0 HM (by with_reducible assumption) ?_; first | (have q : dV HM = 0 := rfl; clear q HM; intro g1 u1 HG1 HM) | (have q : dV HM = 1 := rfl; clear q HM; intro g2 u2 HG2 HM) | (have q : dV HM = 2 := rfl; clear q HM; intro g3 u3 HG3 HM) | (have q : dV HM = 3 := rfl; clear q HM; intro g4 u4 HG4 HM) | (have q : dV HM = 4 := rfl; clear q HM; intro g5 u5 HG5 HM) | (have q : dV HM = 5 := rfl; clear q HM; intro g6 u6 HG6 HM) | (have q : dV HM = 6 := rfl; clear q HM; intro g7 u7 HG7 HM) | (have q : dV HM = 7 := rfl; clear q HM; intro g8 u8 HG8 HM) | (have q : dV HM = 8 := rfl; clear q HM; intro g9 u9 HG9 HM) | (have q : dV HM = 9 := rfl; clear q HM; intro g10 u10 HG10 HM) | (have q : dV HM = 10 := rfl; clear q HM; intro g11 u11 HG11 HM) | (have q : dV HM = 11 := rfl; clear q HM; intro g12 u12 HG12 HM) | (have q : dV HM = 12 := rfl; clear q HM; intro g13 u13 HG13 HM) | (have q : dV HM = 13 := rfl; clear q HM; intro g14 u14 HG14 HM)))
      go_ret2
      exact ⟨HC4.out.trans (Ch.mv (gs := [m, g]) H04.out HM.out (fun e he => by
        simp only [List.mem_cons, List.not_mem_nil, or_false] at he ⊢
        rcases he with rfl | rfl
        · exact .inl (.inl rfl)
        · exact .inl (.inr rfl))) (fun x hx => .inl hx), .inr (.inr ⟨rfl, HE.out, HM.out.base⟩)⟩
    · have HE := Lib.hid (show turnR ⟨on, nx, dp, dr, ls.map pl⟩ = (2, [], ⟨on, nx + 1, dp, dr + 1, ls.map pl⟩) by
        unfold turnR
        rw [if_neg HT.out, if_neg hd])
      have hd2 : ((dr + 1) == 12) = false := by simpa using hd
      go_wp2_with (first | (first | (refine jL ?_) | (refine jS ?_; clear HM; intro us HM; simp only [List.set, List.setIfInBounds_toArray, List.set_cons_zero, List.set_cons_succ] at HM) | (refine jN ?_; first | (have q : dV HM = 0 := rfl; clear q HM; intro g1 u1 HG1 HM) | (have q : dV HM = 1 := rfl; clear q HM; intro g2 u2 HG2 HM) | (have q : dV HM = 2 := rfl; clear q HM; intro g3 u3 HG3 HM) | (have q : dV HM = 3 := rfl; clear q HM; intro g4 u4 HG4 HM) | (have q : dV HM = 4 := rfl; clear q HM; intro g5 u5 HG5 HM) | (have q : dV HM = 5 := rfl; clear q HM; intro g6 u6 HG6 HM) | (have q : dV HM = 6 := rfl; clear q HM; intro g7 u7 HG7 HM) | (have q : dV HM = 7 := rfl; clear q HM; intro g8 u8 HG8 HM) | (have q : dV HM = 8 := rfl; clear q HM; intro g9 u9 HG9 HM) | (have q : dV HM = 9 := rfl; clear q HM; intro g10 u10 HG10 HM) | (have q : dV HM = 10 := rfl; clear q HM; intro g11 u11 HG11 HM) | (have q : dV HM = 11 := rfl; clear q HM; intro g12 u12 HG12 HM) | (have q : dV HM = 12 := rfl; clear q HM; intro g13 u13 HG13 HM) | (have q : dV HM = 13 := rfl; clear q HM; intro g14 u14 HG14 HM))) | (refine wv_stP (by rfl) _ _ rfl rfl rfl HM (by exact vidxOf) (by with_reducible assumption) ?_; clear HM; intro us HM; dsimp only [List.set] at HM) | (refine wv_make (by rfl) _ _ _ rfl rfl rfl _ _ _ (by first | exact Try.underlying22 | exact Try.underlying35) HI0 HZ0 HY0 HM (by with_reducible assumption) ?_; first | (have q : dV HM = 0 := rfl; clear q HM; intro g1 u1 HG1 HM) | (have q : dV HM = 1 := rfl; clear q HM; intro g2 u2 HG2 HM) | (have q : dV HM = 2 := rfl; clear q HM; intro g3 u3 HG3 HM) | (have q : dV HM = 3 := rfl; clear q HM; intro g4 u4 HG4 HM) | (have q : dV HM = 4 := rfl; clear q HM; intro g5 u5 HG5 HM) | (have q : dV HM = 5 := rfl; clear q HM; intro g6 u6 HG6 HM) | (have q : dV HM = 6 := rfl; clear q HM; intro g7 u7 HG7 HM) | (have q : dV HM = 7 := rfl; clear q HM; intro g8 u8 HG8 HM) | (have q : dV HM = 8 := rfl; clear q HM; intro g9 u9 HG9 HM) | (have q : dV HM = 9 := rfl; clear q HM; intro g10 u10 HG10 HM) | (have q : dV HM = 10 := rfl; clear q HM; intro g11 u11 HG11 HM) | (have q : dV HM = 11 := rfl; clear q HM; intro g12 u12 HG12 HM) | (have q : dV HM = 12 := rfl; clear q HM; intro g13 u13 HG13 HM) | (have q : dV HM = 13 := rfl; clear q HM; intro g14 u14 HG14 HM)))
      have HO6 := Lib.hid (HO4.out.keep HM.out (fun e he => by
        simp only [List.mem_cons, List.not_mem_nil, or_false] at he ⊢
        rcases he with rfl | rfl
        · exact .inl (.inr rfl)
        · exact .inl (.inl rfl)))
      go_ret2
      exact ⟨HC4.out.trans (Ch.mv (gs := [m, g]) H04.out HM.out (fun e he => by
        simp only [List.mem_cons, List.not_mem_nil, or_false] at he ⊢
        rcases he with rfl | rfl
        · exact .inl (.inl rfl)
        · exact .inl (.inr rfl))) (fun x hx => .inl hx), .inr (.inl ⟨rfl, HE.out, HM.out.base, HO6.out⟩)⟩
end Go.Proofs.Ytffapinabidkiaa.Lp
