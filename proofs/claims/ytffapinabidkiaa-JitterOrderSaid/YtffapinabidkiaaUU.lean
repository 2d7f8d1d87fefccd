/-
  What Pull answers.
-/
import Derived.Test.YtffapinabidkiaaUT
set_option linter.unusedSimpArgs false
set_option linter.unusedVariables false
/- UU -/
namespace Go.Proofs.Ytffapinabidkiaa.Lp
open Go.RowKit Go.Proofs.Ytffapinabidkiaa.Fq
/-- what comes, in plain words -/
def pullR (j : Jp) : Int × List Nat × Jp :=
  if j.on = false ∧ (j.q.length : Int) < j.dp then (0, [], j) else turnR ⟨true, if j.on then j.nx else (j.q.headD (0, [])).1, j.dp, j.dr, j.q⟩
def PullP (w : World) (j : Jp) (e : Ending) (w' : World) : Prop :=
  if OkJ j then
    ∃ (on' : Bool) (nx' dp' dr' : Int) (A' : Option Addr) (c' : Nat) (os' : List Pk) (Ab : Option Addr) (nb cb : Nat) (bs : List Nat) (r : Int), e = .returned (.tuple #[jtV on' nx' dp' dr' A' os'.length c', .int .i64 r, .slice Ab nb cb, .int .i64 0]) ∧ pullR j = (r, bs, ⟨on', nx', dp', dr', os'.map pl⟩) ∧
      RdP w' A' os'.length os' ∧ Rd w' Ab nb bs ∧ Below w.heap.size w w' ∧ (0 < nb → ∃ gb, Ab = some ⟨gb, 0, none⟩ ∧ w.heap.size ≤ gb ∧ ∀ u, Ch w' u [gb] → RdP u A' os'.length os') ∧
      ∀ u gs, Ch w' u gs → (∀ b ∈ gs, b < w.heap.size) → RdP u A' os'.length os' ∧ Rd u Ab nb bs
  else e = .returned (.tuple #[zeroJ, .int .i64 0, .slice none 0 0, .int .i64 1]) ∧ Below w.heap.size w w'
theorem OwnL.mk {B : Nat} {w : World} {gs : List Nat} {ls : List Pk} (h : (ls.map blkOf).Nodup) (h1 : ∀ x ∈ ls, Byt B w gs x) : OwnL B w gs ls := ⟨h1, h⟩
/-- one's own, with a packet's bytes apart, stays as it is where those turn -/
theorem OwnL.sep {B : Nat} {w : World} {gs : List Nat} {y : Pk} {ls : List Pk} (h : OwnL B w gs (y :: ls)) {g c : Nat} {T : TypeId} {cs : Array Value} (hr : RowOk c cs ls) (hb : Blk w g T cs) (hg : g ∈ gs) : ∃ gb, y.A = some ⟨gb, 0, none⟩ ∧ B ≤ gb ∧ Rd w y.A y.n y.bs ∧ ∀ u, Ch w u [gb] → RdP u (some ⟨g, 0, none⟩) ls.length ls := by
  obtain ⟨gb, e, h1, h2, h3, h4⟩ := h.1 y (.head _)
  have hn := (List.nodup_cons.1 h.2).1
  refine ⟨gb, e, h1, h3, fun u hu => ?_⟩
  have hbu := hu.blk hb (fun hm => h2 (by rw [← List.mem_singleton.1 hm]; exact hg))
  refine OwnL.rdP (B := B) (gs := [g]) ⟨fun x hx => ?_, (List.nodup_cons.1 h.2).2⟩ hr hbu
  obtain ⟨gx, ex, k1, k2, k3, k4⟩ := h.1 x (.tail _ hx)
  have hne : gx ≠ gb := fun e' => hn (by
    refine List.mem_map.2 ⟨x, hx, ?_⟩
    unfold blkOf
    rw [ex, e, e'])
  rw [ex] at k3
  refine ⟨gx, ex, k1, fun hm => k2 (by rw [List.mem_singleton.1 hm]; exact hg), ?_, k4⟩
  rw [ex]
  exact hu.rd k3 (fun hm => hne (List.mem_singleton.1 hm))
theorem OwnL.apart {B : Nat} {w u : World} {gs hs : List Nat} {ls : List Pk} {g c : Nat} {T : TypeId} {cs : Array Value} (h : OwnL B w gs ls) (hr : RowOk c cs ls) (hb : Blk w g T cs) (hg : B ≤ g) (hc : Ch w u hs) (hh : ∀ b ∈ hs, b < B) : RdP u (some ⟨g, 0, none⟩) ls.length ls :=
  ((h.also (hs := hs) fun x hx => .inr (hh x hx)).ch hc (fun _ hx => hx) (hs := hs) (fun x hx => .inl hx)).rdP hr (hc.blk hb fun hm => by have := hh _ hm; omega)
theorem OwnL.apart2 {B : Nat} {w u : World} {gs hs : List Nat} {y : Pk} {ls : List Pk} {g c : Nat} {T : TypeId} {cs : Array Value} (h : OwnL B w gs (y :: ls)) (hr : RowOk c cs ls) (hb : Blk w g T cs) (hg : B ≤ g) (hc : Ch w u hs) (hh : ∀ b ∈ hs, b < B) : RdP u (some ⟨g, 0, none⟩) ls.length ls ∧ Rd u y.A y.n y.bs := by
  refine ⟨OwnL.apart (OwnL.mk (List.nodup_cons.1 h.2).2 (fun x hx => h.1 x (.tail _ hx))) hr hb hg hc hh, ?_⟩
  obtain ⟨gx, e, h1, h2, h3, h4⟩ := ((h.also (hs := hs) fun x hx => .inr (hh x hx)).ch hc (fun _ hx => hx) (hs := hs) (fun x hx => .inl hx)).1 y (.head _)
  exact h3
set_option maxRecDepth 100000 in
set_option maxHeartbeats 8000000 in
theorem Pull_any (on : Bool) (nx dp dr : Int) (A : Option Addr) (n c : Nat) (ls : List Pk) (w : World) (h : Hid (RdP w A n ls)) (hn : n ≤ 281474976710656) :
    Calls Try.prog 25 #[jtV on nx dp dr A n c] w (PullP w ⟨on, nx, dp, dr, ls.map pl⟩) := by
  have HM := Lib.hid (MV.start w)
  have HN := Lib.hid hn
  obtain ⟨ck, hck⟩ : ∃ ck, ck = ckE ⟨on, nx, dp, dr, ls.map pl⟩ := ⟨_, rfl⟩
  have HCK := Lib.hid (fun u (hu : Below w.heap.size w u) => check_any on nx dp dr A n c ls u (Lib.hid (h.out.keep hu)) hn)
  rw [← hck] at HCK
  have HCE := Lib.hid hck
  clear hn hck
  by_cases hok : OkJ ⟨on, nx, dp, dr, ls.map pl⟩
  · obtain rfl : ck = 0 := by rw [HCE.out]; exact if_pos hok
    have HOK := Lib.hid hok
    have HL64 := Lib.hid (show n ≤ 64 by have h1 := okJ_len hok; have h3 := h.out.1; simp only [List.length_map] at h1; omega)
    have HOW := Lib.hid (fun u (hu : Below w.heap.size w u) => own_any on nx dp dr A n c ls u (Lib.hid (h.out.keep hu)) (by have := HL64.out; omega) (Lib.hid (fun x hx => by
      have h1 := bad_iff (HOK.out.2.1 (pl x) (List.mem_map.2 ⟨x, hx, rfl⟩))
      have h3 := (h.out.len hx).1
      unfold pl at h1
      simp only at h1
      omega)))
    clear hok
    go_enter Try.func25, Try.ntmps25
    go_wp2_with (first | (refine jL ?_) | (refine jS ?_; clear HM; intro us HM; simp only [List.set, List.setIfInBounds_toArray, List.set_cons_zero, List.set_cons_succ] at HM) | (refine jN ?_; first | (have q : dV HM = 0 := rfl; clear q HM; intro g1 u1 HG1 HM) | (have q : dV HM = 1 := rfl; clear q HM; intro g2 u2 HG2 HM) | (have q : dV HM = 2 := rfl; clear q HM; intro g3 u3 HG3 HM) | (have q : dV HM = 3 := rfl; clear q HM; intro g4 u4 HG4 HM) | (have q : dV HM = 4 := rfl; clear q HM; intro g5 u5 HG5 HM) | (have q : dV HM = 5 := rfl; clear q HM; intro g6 u6 HG6 HM) | (have q : dV HM = 6 := rfl; clear q HM; intro g7 u7 HG7 HM) | (have q : dV HM = 7 := rfl; clear q HM; intro g8 u8 HG8 HM) | (have q : dV HM = 8 := rfl; clear q HM; intro g9 u9 HG9 HM) | (have q : dV HM = 9 := rfl; clear q HM; intro g10 u10 HG10 HM) | (have q : dV HM = 10 := rfl; clear q HM; intro g11 u11 HG11 HM) | (have q : dV HM = 11 := rfl; clear q HM; intro g12 u12 HG12 HM) | (have q : dV HM = 12 := rfl; clear q HM; intro g13 u13 HG13 HM) | (have q : dV HM = 13 := rfl; clear q HM; intro g14 u14 HG14 HM)))
    refine (HCK.out _ HM.out.1).mono ?_
    rintro e u3 ⟨rfl, hb⟩
    have HM2 := Lib.hid (HM.out.below hb)
    clear hb HM HCK
    have HM := HM2
    clear HM2
    go_wp2_with (first | (refine jL ?_) | (refine jS ?_; clear HM; intro us HM; simp only [List.set, List.setIfInBounds_toArray, List.set_cons_zero, List.set_cons_succ] at HM) | (refine jN ?_; first | (have q : dV HM = 0 := rfl; clear q HM; intro g1 u1 HG1 HM) | (have q : dV HM = 1 := rfl; clear q HM; intro g2 u2 HG2 HM) | (have q : dV HM = 2 := rfl; clear q HM; intro g3 u3 HG3 HM) | (have q : dV HM = 3 := rfl; clear q HM; intro g4 u4 HG4 HM) | (have q : dV HM = 4 := rfl; clear q HM; intro g5 u5 HG5 HM) | (have q : dV HM = 5 := rfl; clear q HM; intro g6 u6 HG6 HM) | (have q : dV HM = 6 := rfl; clear q HM; intro g7 u7 HG7 HM) | (have q : dV HM = 7 := rfl; clear q HM; intro g8 u8 HG8 HM) | (have q : dV HM = 8 := rfl; clear q HM; intro g9 u9 HG9 HM) | (have q : dV HM = 9 := rfl; clear q HM; intro g10 u10 HG10 HM) | (have q : dV HM = 10 := rfl; clear q HM; intro g11 u11 HG11 HM) | (have q : dV HM = 11 := rfl; clear q HM; intro g12 u12 HG12 HM) | (have q : dV HM = 12 := rfl; clear q HM; intro g13 u13 HG13 HM) | (have q : dV HM = 13 := rfl; clear q HM; intro g14 u14 HG14 HM)))
    refine (HOW.out _ HM.out.1).mono ?_
    rintro e u5 ⟨g, os, cs, rfl, hal, hge, hbg, hro, hol, hb⟩
    have hl1 := (HM.out.get (g := g1) (by exact vmemOf)).lt
    have hl2 := (HM.out.get (g := g2) (by exact vmemOf)).lt
    have HM2 := Lib.hid (HM.out.add hb hge hbg).base
    have HAL := Lib.hid hal
    have HRO := Lib.hid hro
    have HSZ := Lib.hid HM.out.1.size
    have HB5 := Lib.hid (HM2.out.1)
    have HOL := Lib.hid (hol.also (hs := [g, g2, g1]) (fun x hx => by
      simp only [List.mem_cons, List.not_mem_nil, or_false] at hx ⊢
      rcases hx with rfl | rfl | rfl
      · exact .inl rfl
      · exact .inr hl2
      · exact .inr hl1))
    have HOSL := Lib.hid (show os.length ≤ 64 by rw [hal.len, h.out.1]; exact HL64.out)
    clear hb HM HOW hal hge hbg hro hol hl1 hl2
    have HM := HM2
    clear HM2
    have HQE := Lib.hid (show pullR ⟨on, nx, dp, dr, ls.map pl⟩ = pullR ⟨on, nx, dp, dr, os.map pl⟩ by rw [HAL.out.1])
    rcases (by cases on <;> simp <;> omega : (on = false ∧ (os.length : Int) < dp) ∨ (on = false ∧ ¬ (os.length : Int) < dp) ∨ on = true) with ⟨rfl, hd⟩ | ⟨rfl, hd⟩ | rfl
    · have HE := Lib.hid (show pullR ⟨false, nx, dp, dr, os.map pl⟩ = (0, [], ⟨false, nx, dp, dr, os.map pl⟩) by unfold pullR; rw [if_pos ⟨rfl, by simpa using hd⟩])
      have hd2 : decide ((os.length : Int) < dp) = true := decide_eq_true hd
      go_wp2_with (first | (first | (refine jL ?_) | (refine jS ?_; clear HM; intro us HM; simp only [List.set, List.setIfInBounds_toArray, List.set_cons_zero, List.set_cons_succ] at HM) | (refine jN ?_; first | (have q : dV HM = 0 := rfl; clear q HM; intro g1 u1 HG1 HM) | (have q : dV HM = 1 := rfl; clear q HM; intro g2 u2 HG2 HM) | (have q : dV HM = 2 := rfl; clear q HM; intro g3 u3 HG3 HM) | (have q : dV HM = 3 := rfl; clear q HM; intro g4 u4 HG4 HM) | (have q : dV HM = 4 := rfl; clear q HM; intro g5 u5 HG5 HM) | (have q : dV HM = 5 := rfl; clear q HM; intro g6 u6 HG6 HM) | (have q : dV HM = 6 := rfl; clear q HM; intro g7 u7 HG7 HM) | (have q : dV HM = 7 := rfl; clear q HM; intro g8 u8 HG8 HM) | (have q : dV HM = 8 := rfl; clear q HM; intro g9 u9 HG9 HM) | (have q : dV HM = 9 := rfl; clear q HM; intro g10 u10 HG10 HM) | (have q : dV HM = 10 := rfl; clear q HM; intro g11 u11 HG11 HM) | (have q : dV HM = 11 := rfl; clear q HM; intro g12 u12 HG12 HM) | (have q : dV HM = 12 := rfl; clear q HM; intro g13 u13 HG13 HM) | (have q : dV HM = 13 := rfl; clear q HM; intro g14 u14 HG14 HM))) | (refine wv_stP (by rfl) _ _ rfl rfl rfl HM (by exact vidxOf) (by with_reducible assumption) ?_; clear HM; intro us HM; dsimp only [List.set] at HM) | (refine wv_make (by rfl) _ _ _ rfl rfl rfl _ _ _ (by first | exact Try.underlying22 | exact Try.underlying35) HI0 HZ0 HY0 HM (by with_reducible assumption) ?_; first | (have q : dV HM = 0 := rfl; clear q HM; intro g1 u1 HG1 HM) | (have q : dV HM = 1 := rfl; clear q HM; intro g2 u2 HG2 HM) | (have q : dV HM = 2 := rfl; clear q HM; intro g3 u3 HG3 HM) | (have q : dV HM = 3 := rfl; clear q HM; intro g4 u4 HG4 HM) | (have q : dV HM = 4 := rfl; clear q HM; intro g5 u5 HG5 HM) | (have q : dV HM = 5 := rfl; clear q HM; intro g6 u6 HG6 HM) | (have q : dV HM = 6 := rfl; clear q HM; intro g7 u7 HG7 HM) | (have q : dV HM = 7 := rfl; clear q HM; intro g8 u8 HG8 HM) | (have q : dV HM = 8 := rfl; clear q HM; intro g9 u9 HG9 HM) | (have q : dV HM = 9 := rfl; clear q HM; intro g10 u10 HG10 HM) | (have q : dV HM = 10 := rfl; clear q HM; intro g11 u11 HG11 HM) | (have q : dV HM = 11 := rfl; clear q HM; intro g12 u12 HG12 HM) | (have q : dV HM = 12 := rfl; clear q HM; intro g13 u13 HG13 HM) | (have q : dV HM = 13 := rfl; clear q HM; intro g14 u14 HG14 HM)))
      refine bodyPost_ret (v := .tuple #[jtV false nx dp dr (some ⟨g, 0, none⟩) os.length os.length, .int .i64 0, .slice none 0 0, .int .i64 0]) (vres_four rfl _ rfl rfl rfl rfl rowJt HM (by exact vmemOf) (Lib.hid rfl)) rfl ?_
      unfold PullP
      rw [if_pos HOK.out]
      have HO9 := HOL.out.keep HM.out (fun e he => by
        simp only [List.mem_cons, List.not_mem_nil, or_false] at he ⊢
        rcases he with rfl | rfl | rfl | rfl
        · exact .inr HG4.out
        · exact .inl (.inl rfl)
        · exact .inl (.inr (.inl rfl))
        · exact .inl (.inr (.inr rfl)))
      exact ⟨false, nx, dp, dr, some ⟨g, 0, none⟩, os.length, os, none, 0, 0, [], 0, rfl, by rw [HQE.out]; exact HE.out, HO9.rdP HRO.out (HM.out.get (g := g) (by exact vmemOf)), Rd.none_, HM.out.1, fun h => absurd h (by omega), fun u gs hu hh => ⟨(HO9.base HSZ.out).apart HRO.out (HM.out.get (g := g) (by exact vmemOf)) (HM.out.2.2.1 (g, _, _) (by exact vmemOf)) hu hh, Rd.none_⟩⟩
    · have hd2 : decide ((os.length : Int) < dp) = false := decide_eq_false hd
      have HN1 := Lib.hid HOK.out.1
      have hol0 : 0 < os.length := by have := HN1.out.1; simp only at this; omega
      obtain ⟨x0, hx0⟩ : ∃ x0, os[0]? = some x0 := ⟨_, List.getElem?_eq_getElem hol0⟩
      have HX0 := Lib.hid hx0
      have HLO := Lib.hid hol0
      have hxr := bad_iff (HOK.out.2.1 (pl x0) (by rw [← HAL.out.1]; exact List.mem_map.2 ⟨x0, List.mem_of_getElem? hx0, rfl⟩))
      have HNX := Lib.hid (show 0 ≤ x0.s ∧ x0.s ≤ 2199023255552 by unfold pl at hxr; simp only at hxr; omega)
      have HDR := Lib.hid (show 0 ≤ dr ∧ dr ≤ 11 by have := HN1.out.2.2.2.2; simp only [mostD] at this; simp at this; omega)
      have HE := Lib.hid (show pullR ⟨false, nx, dp, dr, os.map pl⟩ = turnR ⟨true, x0.s, dp, dr, os.map pl⟩ by
        unfold pullR
        rw [if_neg (by simpa using hd)]
        have : (os.map pl).headD (0, []) = pl x0 := head_of (by rw [List.getElem?_map, hx0]; rfl)
        simp only [this, Bool.false_eq_true, if_false]
        rfl)
      clear hx0 hol0 hxr hd
      go_wp2_with (first | (first | (refine jL ?_) | (refine jS ?_; clear HM; intro us HM; simp only [List.set, List.setIfInBounds_toArray, List.set_cons_zero, List.set_cons_succ] at HM) | (refine jN ?_; first | (have q : dV HM = 0 := rfl; clear q HM; intro g1 u1 HG1 HM) | (have q : dV HM = 1 := rfl; clear q HM; intro g2 u2 HG2 HM) | (have q : dV HM = 2 := rfl; clear q HM; intro g3 u3 HG3 HM) | (have q : dV HM = 3 := rfl; clear q HM; intro g4 u4 HG4 HM) | (have q : dV HM = 4 := rfl; clear q HM; intro g5 u5 HG5 HM) | (have q : dV HM = 5 := rfl; clear q HM; intro g6 u6 HG6 HM) | (have q : dV HM = 6 := rfl; clear q HM; intro g7 u7 HG7 HM) | (have q : dV HM = 7 := rfl; clear q HM; intro g8 u8 HG8 HM) | (have q : dV HM = 8 := rfl; clear q HM; intro g9 u9 HG9 HM) | (have q : dV HM = 9 := rfl; clear q HM; intro g10 u10 HG10 HM) | (have q : dV HM = 10 := rfl; clear q HM; intro g11 u11 HG11 HM) | (have q : dV HM = 11 := rfl; clear q HM; intro g12 u12 HG12 HM) | (have q : dV HM = 12 := rfl; clear q HM; intro g13 u13 HG13 HM) | (have q : dV HM = 13 := rfl; clear q HM; intro g14 u14 HG14 HM))) | (refine wv_stP (by rfl) _ _ rfl rfl rfl HM (by exact vidxOf) (by with_reducible assumption) ?_; clear HM; intro us HM; dsimp only [List.set] at HM) | (refine wv_make (by rfl) _ _ _ rfl rfl rfl _ _ _ (by first | exact Try.underlying22 | exact Try.underlying35) HI0 HZ0 HY0 HM (by with_reducible assumption) ?_; first | (have q : dV HM = 0 := rfl; clear q HM; intro g1 u1 HG1 HM) | (have q : dV HM = 1 := rfl; clear q HM; intro g2 u2 HG2 HM) | (have q : dV HM = 2 := rfl; clear q HM; intro g3 u3 HG3 HM) | (have q : dV HM = 3 := rfl; clear q HM; intro g4 u4 HG4 HM) | (have q : dV HM = 4 := rfl; clear q HM; intro g5 u5 HG5 HM) | (have q : dV HM = 5 := rfl; clear q HM; intro g6 u6 HG6 HM) | (have q : dV HM = 6 := rfl; clear q HM; intro g7 u7 HG7 HM) | (have q : dV HM = 7 := rfl; clear q HM; intro g8 u8 HG8 HM) | (have q : dV HM = 8 := rfl; clear q HM; intro g9 u9 HG9 HM) | (have q : dV HM = 9 := rfl; clear q HM; intro g10 u10 HG10 HM) | (have q : dV HM = 10 := rfl; clear q HM; intro g11 u11 HG11 HM) | (have q : dV HM = 11 := rfl; clear q HM; intro g12 u12 HG12 HM) | (have q : dV HM = 12 := rfl; clear q HM; intro g13 u13 HG13 HM) | (have q : dV HM = 13 := rfl; clear q HM; intro g14 u14 HG14 HM)))
      refine (first_any false nx dp dr (some ⟨g, 0, none⟩) os.length os.length os x0 _ (Lib.hid ((HOL.out.keep HM.out (fun e he => by
        simp only [List.mem_cons, List.not_mem_nil, or_false] at he ⊢
        rcases he with rfl | rfl | rfl | rfl
        · exact .inr HG4.out
        · exact .inl (.inl rfl)
        · exact .inl (.inr (.inl rfl))
        · exact .inl (.inr (.inr rfl)))).rdP HRO.out (HM.out.get (g := g) (by exact vmemOf)))) (fun _ => HLO.out) (Lib.hid (fun _ => HX0.out))).mono ?_
      rw [show (if (false : Bool) = true then nx else x0.s) = x0.s from rfl]
      rintro e u7 ⟨rfl, hb⟩
      have HM2 := Lib.hid (HM.out.below hb)
      clear hb HM
      have HM := HM2
      clear HM2
      go_wp2_with (first | (first | (refine jL ?_) | (refine jS ?_; clear HM; intro us HM; simp only [List.set, List.setIfInBounds_toArray, List.set_cons_zero, List.set_cons_succ] at HM) | (refine jN ?_; first | (have q : dV HM = 0 := rfl; clear q HM; intro g1 u1 HG1 HM) | (have q : dV HM = 1 := rfl; clear q HM; intro g2 u2 HG2 HM) | (have q : dV HM = 2 := rfl; clear q HM; intro g3 u3 HG3 HM) | (have q : dV HM = 3 := rfl; clear q HM; intro g4 u4 HG4 HM) | (have q : dV HM = 4 := rfl; clear q HM; intro g5 u5 HG5 HM) | (have q : dV HM = 5 := rfl; clear q HM; intro g6 u6 HG6 HM) | (have q : dV HM = 6 := rfl; clear q HM; intro g7 u7 HG7 HM) | (have q : dV HM = 7 := rfl; clear q HM; intro g8 u8 HG8 HM) | (have q : dV HM = 8 := rfl; clear q HM; intro g9 u9 HG9 HM) | (have q : dV HM = 9 := rfl; clear q HM; intro g10 u10 HG10 HM) | (have q : dV HM = 10 := rfl; clear q HM; intro g11 u11 HG11 HM) | (have q : dV HM = 11 := rfl; clear q HM; intro g12 u12 HG12 HM) | (have q : dV HM = 12 := rfl; clear q HM; intro g13 u13 HG13 HM) | (have q : dV HM = 13 := rfl; clear q HM; intro g14 u14 HG14 HM))) | (refine wv_stP (by rfl) _ _ rfl rfl rfl HM (by exact vidxOf) (by with_reducible assumption) ?_; clear HM; intro us HM; dsimp only [List.set] at HM) | (refine wv_make (by rfl) _ _ _ rfl rfl rfl _ _ _ (by first | exact Try.underlying22 | exact Try.underlying35) HI0 HZ0 HY0 HM (by with_reducible assumption) ?_; first | (have q : dV HM = 0 := rfl; clear q HM; intro g1 u1 HG1 HM) | (have q : dV HM = 1 := rfl; clear q HM; intro g2 u2 HG2 HM) | (have q : dV HM = 2 := rfl; clear q HM; intro g3 u3 HG3 HM) | (have q : dV HM = 3 := rfl; clear q HM; intro g4 u4 HG4 HM) | (have q : dV HM = 4 := rfl; clear q HM; intro g5 u5 HG5 HM) | (have q : dV HM = 5 := rfl; clear q HM; intro g6 u6 HG6 HM) | (have q : dV HM = 6 := rfl; clear q HM; intro g7 u7 HG7 HM) | (have q : dV HM = 7 := rfl; clear q HM; intro g8 u8 HG8 HM) | (have q : dV HM = 8 := rfl; clear q HM; intro g9 u9 HG9 HM) | (have q : dV HM = 9 := rfl; clear q HM; intro g10 u10 HG10 HM) | (have q : dV HM = 10 := rfl; clear q HM; intro g11 u11 HG11 HM) | (have q : dV HM = 11 := rfl; clear q HM; intro g12 u12 HG12 HM) | (have q : dV HM = 12 := rfl; clear q HM; intro g13 u13 HG13 HM) | (have q : dV HM = 13 := rfl; clear q HM; intro g14 u14 HG14 HM)))
      have HOL2 := Lib.hid ((HOL.out.ch (hs := [g, g4]) (cs := [g, g2, g1]) (Ch.mv (gs := [g, g2, g1]) HB5.out HM.out (fun e he => by
        simp only [List.mem_cons, List.not_mem_nil, or_false] at he ⊢
        rcases he with rfl | rfl | rfl | rfl
        · exact .inr HG4.out
        · exact .inl (.inl rfl)
        · exact .inl (.inr (.inl rfl))
        · exact .inl (.inr (.inr rfl)))) (fun x hx => hx) (fun x hx => by
        simp only [List.mem_cons, List.not_mem_nil, or_false] at hx ⊢
        rcases hx with rfl | rfl
        · exact .inl (.inl rfl)
        · exact .inr HG4.out)).base HSZ.out)
      refine (turn_any w _ g4 g os.length cs true x0.s dp dr os (Lib.hid (HM.out.sub ((List.Sublist.refl [_, _]).append (List.nil_sublist _)))) HRO HOL2 HNX.out.1 HNX.out.2 HDR.out.1 HDR.out.2 HOSL).mono ?_
      rintro e u8 ⟨hch, hcase⟩
      rcases hcase with ⟨y, os', cs', rfl, ht, hm8, hr8, ho8⟩ | ⟨rfl, ht, hm8, ho8⟩ | ⟨rfl, ht, hm8⟩
      · have HM2 := Lib.hid (HM.out.join hch hm8 (.inl rfl))
        have HT := Lib.hid ht
        have HR8 := Lib.hid hr8
        have HO8 := Lib.hid ((ho8.add (HM2.out.get (g := g2) (by exact vmemOf)) (by intro v hv; cases hv)).add (HM2.out.get (g := g1) (by exact vmemOf)) (by intro v hv; cases hv))
        clear HM hch ht hm8 hr8 ho8
        have HM := HM2
        clear HM2
        go_wp2_with (first | (first | (refine jL ?_) | (refine jS ?_; clear HM; intro us HM; simp only [List.set, List.setIfInBounds_toArray, List.set_cons_zero, List.set_cons_succ] at HM) | (refine jN ?_; first | (have q : dV HM = 0 := rfl; clear q HM; intro g1 u1 HG1 HM) | (have q : dV HM = 1 := rfl; clear q HM; intro g2 u2 HG2 HM) | (have q : dV HM = 2 := rfl; clear q HM; intro g3 u3 HG3 HM) | (have q : dV HM = 3 := rfl; clear q HM; intro g4 u4 HG4 HM) | (have q : dV HM = 4 := rfl; clear q HM; intro g5 u5 HG5 HM) | (have q : dV HM = 5 := rfl; clear q HM; intro g6 u6 HG6 HM) | (have q : dV HM = 6 := rfl; clear q HM; intro g7 u7 HG7 HM) | (have q : dV HM = 7 := rfl; clear q HM; intro g8 u8 HG8 HM) | (have q : dV HM = 8 := rfl; clear q HM; intro g9 u9 HG9 HM) | (have q : dV HM = 9 := rfl; clear q HM; intro g10 u10 HG10 HM) | (have q : dV HM = 10 := rfl; clear q HM; intro g11 u11 HG11 HM) | (have q : dV HM = 11 := rfl; clear q HM; intro g12 u12 HG12 HM) | (have q : dV HM = 12 := rfl; clear q HM; intro g13 u13 HG13 HM) | (have q : dV HM = 13 := rfl; clear q HM; intro g14 u14 HG14 HM))) | (refine wv_stP (by rfl) _ _ rfl rfl rfl HM (by exact vidxOf) (by with_reducible assumption) ?_; clear HM; intro us HM; dsimp only [List.set] at HM) | (refine wv_make (by rfl) _ _ _ rfl rfl rfl _ _ _ (by first | exact Try.underlying22 | exact Try.underlying35) HI0 HZ0 HY0 HM (by with_reducible assumption) ?_; first | (have q : dV HM = 0 := rfl; clear q HM; intro g1 u1 HG1 HM) | (have q : dV HM = 1 := rfl; clear q HM; intro g2 u2 HG2 HM) | (have q : dV HM = 2 := rfl; clear q HM; intro g3 u3 HG3 HM) | (have q : dV HM = 3 := rfl; clear q HM; intro g4 u4 HG4 HM) | (have q : dV HM = 4 := rfl; clear q HM; intro g5 u5 HG5 HM) | (have q : dV HM = 5 := rfl; clear q HM; intro g6 u6 HG6 HM) | (have q : dV HM = 6 := rfl; clear q HM; intro g7 u7 HG7 HM) | (have q : dV HM = 7 := rfl; clear q HM; intro g8 u8 HG8 HM) | (have q : dV HM = 8 := rfl; clear q HM; intro g9 u9 HG9 HM) | (have q : dV HM = 9 := rfl; clear q HM; intro g10 u10 HG10 HM) | (have q : dV HM = 10 := rfl; clear q HM; intro g11 u11 HG11 HM) | (have q : dV HM = 11 := rfl; clear q HM; intro g12 u12 HG12 HM) | (have q : dV HM = 12 := rfl; clear q HM; intro g13 u13 HG13 HM) | (have q : dV HM = 13 := rfl; clear q HM; intro g14 u14 HG14 HM)))
        have HO9 := Lib.hid (HO8.out.keep HM.out (fun e he => by
          simp only [List.mem_cons, List.not_mem_nil, or_false] at he ⊢
          rcases he with rfl | rfl | rfl | rfl
          · exact .inl (.inr (.inr (.inr rfl)))
          · exact .inl (.inr (.inr (.inl rfl)))
          · exact .inl (.inr (.inl rfl))
          · exact .inl (.inl rfl)))
        refine bodyPost_ret (v := .tuple #[jtV true (x0.s + 1) dp 0 (some ⟨g, 0, none⟩) os'.length os.length, .int .i64 1, .slice y.A y.n y.c, .int .i64 0]) (vres_four rfl _ rfl rfl rfl rfl rowJt HM (by exact vmemOf) (Lib.hid rfl)) rfl ?_
        unfold PullP
        rw [if_pos HOK.out]
        obtain ⟨gb, hgb, hB, hrd, hsep⟩ := HO9.out.sep HR8.out (HM.out.get (g := g) (by exact vmemOf)) (by simp)
        exact ⟨true, x0.s + 1, dp, 0, some ⟨g, 0, none⟩, os.length, os', y.A, y.n, y.c, y.bs, 1, rfl, by rw [HQE.out, HE.out]; exact HT.out, OwnL.rdP (OwnL.mk (List.nodup_cons.1 HO9.out.2).2 (fun x hx => HO9.out.1 x (.tail _ hx))) HR8.out (HM.out.get (g := g) (by exact vmemOf)), hrd, HM.out.1, fun _ => ⟨gb, hgb, hB, hsep⟩, fun u gs hu hh => HO9.out.apart2 HR8.out (HM.out.get (g := g) (by exact vmemOf)) (HM.out.2.2.1 (g, _, _) (by exact vmemOf)) hu hh⟩
      · have HM2 := Lib.hid (HM.out.join hch hm8 (.inl rfl))
        have HT := Lib.hid ht
        have HO8 := Lib.hid ((ho8.add (HM2.out.get (g := g2) (by exact vmemOf)) (by intro v hv; cases hv)).add (HM2.out.get (g := g1) (by exact vmemOf)) (by intro v hv; cases hv))
        clear HM hch ht hm8 ho8
        have HM := HM2
        clear HM2
        go_wp2_with (first | (first | (refine jL ?_) | (refine jS ?_; clear HM; intro us HM; simp only [List.set, List.setIfInBounds_toArray, List.set_cons_zero, List.set_cons_succ] at HM) | (refine jN ?_; first | (have q : dV HM = 0 := rfl; clear q HM; intro g1 u1 HG1 HM) | (have q : dV HM = 1 := rfl; clear q HM; intro g2 u2 HG2 HM) | (have q : dV HM = 2 := rfl; clear q HM; intro g3 u3 HG3 HM) | (have q : dV HM = 3 := rfl; clear q HM; intro g4 u4 HG4 HM) | (have q : dV HM = 4 := rfl; clear q HM; intro g5 u5 HG5 HM) | (have q : dV HM = 5 := rfl; clear q HM; intro g6 u6 HG6 HM) | (have q : dV HM = 6 := rfl; clear q HM; intro g7 u7 HG7 HM) | (have q : dV HM = 7 := rfl; clear q HM; intro g8 u8 HG8 HM) | (have q : dV HM = 8 := rfl; clear q HM; intro g9 u9 HG9 HM) | (have q : dV HM = 9 := rfl; clear q HM; intro g10 u10 HG10 HM) | (have q : dV HM = 10 := rfl; clear q HM; intro g11 u11 HG11 HM) | (have q : dV HM = 11 := rfl; clear q HM; intro g12 u12 HG12 HM) | (have q : dV HM = 12 := rfl; clear q HM; intro g13 u13 HG13 HM) | (have q : dV HM = 13 := rfl; clear q HM; intro g14 u14 HG14 HM))) | (refine wv_stP (by rfl) _ _ rfl rfl rfl HM (by exact vidxOf) (by with_reducible assumption) ?_; clear HM; intro us HM; dsimp only [List.set] at HM) | (refine wv_make (by rfl) _ _ _ rfl rfl rfl _ _ _ (by first | exact Try.underlying22 | exact Try.underlying35) HI0 HZ0 HY0 HM (by with_reducible assumption) ?_; first | (have q : dV HM = 0 := rfl; clear q HM; intro g1 u1 HG1 HM) | (have q : dV HM = 1 := rfl; clear q HM; intro g2 u2 HG2 HM) | (have q : dV HM = 2 := rfl; clear q HM; intro g3 u3 HG3 HM) | (have q : dV HM = 3 := rfl; clear q HM; intro g4 u4 HG4 HM) | (have q : dV HM = 4 := rfl; clear q HM; intro g5 u5 HG5 HM) | (have q : dV HM = 5 := rfl; clear q HM; intro g6 u6 HG6 HM) | (have q : dV HM = 6 := rfl; clear q HM; intro g7 u7 HG7 HM) | (have q : dV HM = 7 := rfl; clear q HM; intro g8 u8 HG8 HM) | (have q : dV HM = 8 := rfl; clear q HM; intro g9 u9 HG9 HM) | (have q : dV HM = 9 := rfl; clear q HM; intro g10 u10 HG10 HM) | (have q : dV HM = 10 := rfl; clear q HM; intro g11 u11 HG11 HM) | (have q : dV HM = 11 := rfl; clear q HM; intro g12 u12 HG12 HM) | (have q : dV HM = 12 := rfl; clear q HM; intro g13 u13 HG13 HM) | (have q : dV HM = 13 := rfl; clear q HM; intro g14 u14 HG14 HM)))
        have HO9 := Lib.hid (HO8.out.keep HM.out (fun e he => by
          simp only [List.mem_cons, List.not_mem_nil, or_false] at he ⊢
          rcases he with rfl | rfl | rfl | rfl
          · exact .inl (.inr (.inr (.inr rfl)))
          · exact .inl (.inr (.inr (.inl rfl)))
          · exact .inl (.inr (.inl rfl))
          · exact .inl (.inl rfl)))
        refine bodyPost_ret (v := .tuple #[jtV true (x0.s + 1) dp (dr + 1) (some ⟨g, 0, none⟩) os.length os.length, .int .i64 2, .slice none 0 0, .int .i64 0]) (vres_four rfl _ rfl rfl rfl rfl rowJt HM (by exact vmemOf) (Lib.hid rfl)) rfl ?_
        unfold PullP
        rw [if_pos HOK.out]
        exact ⟨true, x0.s + 1, dp, dr + 1, some ⟨g, 0, none⟩, os.length, os, none, 0, 0, [], 2, rfl, by rw [HQE.out, HE.out]; exact HT.out, HO9.out.rdP HRO.out (HM.out.get (g := g) (by exact vmemOf)), Rd.none_, HM.out.1, fun h => absurd h (by omega), fun u gs hu hh => ⟨HO9.out.apart HRO.out (HM.out.get (g := g) (by exact vmemOf)) (HM.out.2.2.1 (g, _, _) (by exact vmemOf)) hu hh, Rd.none_⟩⟩
      · have HM2 := Lib.hid (HM.out.join hch hm8 (.inl rfl))
        have HT := Lib.hid ht
        clear HM hch ht hm8
        have HM := HM2
        clear HM2
        go_wp2_with (first | (first | (refine jL ?_) | (refine jS ?_; clear HM; intro us HM; simp only [List.set, List.setIfInBounds_toArray, List.set_cons_zero, List.set_cons_succ] at HM) | (refine jN ?_; first | (have q : dV HM = 0 := rfl; clear q HM; intro g1 u1 HG1 HM) | (have q : dV HM = 1 := rfl; clear q HM; intro g2 u2 HG2 HM) | (have q : dV HM = 2 := rfl; clear q HM; intro g3 u3 HG3 HM) | (have q : dV HM = 3 := rfl; clear q HM; intro g4 u4 HG4 HM) | (have q : dV HM = 4 := rfl; clear q HM; intro g5 u5 HG5 HM) | (have q : dV HM = 5 := rfl; clear q HM; intro g6 u6 HG6 HM) | (have q : dV HM = 6 := rfl; clear q HM; intro g7 u7 HG7 HM) | (have q : dV HM = 7 := rfl; clear q HM; intro g8 u8 HG8 HM) | (have q : dV HM = 8 := rfl; clear q HM; intro g9 u9 HG9 HM) | (have q : dV HM = 9 := rfl; clear q HM; intro g10 u10 HG10 HM) | (have q : dV HM = 10 := rfl; clear q HM; intro g11 u11 HG11 HM) | (have q : dV HM = 11 := rfl; clear q HM; intro g12 u12 HG12 HM) | (have q : dV HM = 12 := rfl; clear q HM; intro g13 u13 HG13 HM) | (have q : dV HM = 13 := rfl; clear q HM; intro g14 u14 HG14 HM))) | (refine wv_stP (by rfl) _ _ rfl rfl rfl HM (by exact vidxOf) (by with_reducible assumption) ?_; clear HM; intro us HM; dsimp only [List.set] at HM) | (refine wv_make (by rfl) _ _ _ rfl rfl rfl _ _ _ (by first | exact Try.underlying22 | exact Try.underlying35) HI0 HZ0 HY0 HM (by with_reducible assumption) ?_; first | (have q : dV HM = 0 := rfl; clear q HM; intro g1 u1 HG1 HM) | (have q : dV HM = 1 := rfl; clear q HM; intro g2 u2 HG2 HM) | (have q : dV HM = 2 := rfl; clear q HM; intro g3 u3 HG3 HM) | (have q : dV HM = 3 := rfl; clear q HM; intro g4 u4 HG4 HM) | (have q : dV HM = 4 := rfl; clear q HM; intro g5 u5 HG5 HM) | (have q : dV HM = 5 := rfl; clear q HM; intro g6 u6 HG6 HM) | (have q : dV HM = 6 := rfl; clear q HM; intro g7 u7 HG7 HM) | (have q : dV HM = 7 := rfl; clear q HM; intro g8 u8 HG8 HM) | (have q : dV HM = 8 := rfl; clear q HM; intro g9 u9 HG9 HM) | (have q : dV HM = 9 := rfl; clear q HM; intro g10 u10 HG10 HM) | (have q : dV HM = 10 := rfl; clear q HM; intro g11 u11 HG11 HM) | (have q : dV HM = 11 := rfl; clear q HM; intro g12 u12 HG12 HM) | (have q : dV HM = 12 := rfl; clear q HM; intro g13 u13 HG13 HM) | (have q : dV HM = 13 := rfl; clear q HM; intro g14 u14 HG14 HM)))
        refine bodyPost_ret (v := .tuple #[jtV false 0 dp 0 none 0 0, .int .i64 3, .slice none 0 0, .int .i64 0]) (vres_four rfl _ rfl rfl rfl rfl rowJt HM (by exact vmemOf) (Lib.hid rfl)) rfl ?_
        unfold PullP
        rw [if_pos HOK.out]
        exact ⟨false, 0, dp, 0, none, 0, [], none, 0, 0, [], 3, rfl, by rw [HQE.out, HE.out]; exact HT.out, RdP.none_, Rd.none_, HM.out.1, fun h => absurd h (by omega), fun _ _ _ _ => ⟨RdP.none_, Rd.none_⟩⟩
    · have HN1 := Lib.hid HOK.out.1
      have HNX := Lib.hid (show 0 ≤ nx ∧ nx ≤ 2199023255552 by have h1 := HN1.out.2.2.1; have h2 := HN1.out.2.2.2.1; simp only [mostX] at h1 h2; simp at h2; omega)
      have HDR := Lib.hid (show 0 ≤ dr ∧ dr ≤ 11 by have := HN1.out.2.2.2.2; simp only [mostD] at this; simp at this; omega)
      have HE := Lib.hid (show pullR ⟨true, nx, dp, dr, os.map pl⟩ = turnR ⟨true, nx, dp, dr, os.map pl⟩ by
        unfold pullR
        rw [if_neg (by simp)]
        rfl)
      go_wp2_with (first | (first | (refine jL ?_) | (refine jS ?_; clear HM; intro us HM; simp only [List.set, List.setIfInBounds_toArray, List.set_cons_zero, List.set_cons_succ] at HM) | (refine jN ?_; first | (have q : dV HM = 0 := rfl; clear q HM; intro g1 u1 HG1 HM) | (have q : dV HM = 1 := rfl; clear q HM; intro g2 u2 HG2 HM) | (have q : dV HM = 2 := rfl; clear q HM; intro g3 u3 HG3 HM) | (have q : dV HM = 3 := rfl; clear q HM; intro g4 u4 HG4 HM) | (have q : dV HM = 4 := rfl; clear q HM; intro g5 u5 HG5 HM) | (have q : dV HM = 5 := rfl; clear q HM; intro g6 u6 HG6 HM) | (have q : dV HM = 6 := rfl; clear q HM; intro g7 u7 HG7 HM) | (have q : dV HM = 7 := rfl; clear q HM; intro g8 u8 HG8 HM) | (have q : dV HM = 8 := rfl; clear q HM; intro g9 u9 HG9 HM) | (have q : dV HM = 9 := rfl; clear q HM; intro g10 u10 HG10 HM) | (have q : dV HM = 10 := rfl; clear q HM; intro g11 u11 HG11 HM) | (have q : dV HM = 11 := rfl; clear q HM; intro g12 u12 HG12 HM) | (have q : dV HM = 12 := rfl; clear q HM; intro g13 u13 HG13 HM) | (have q : dV HM = 13 := rfl; clear q HM; intro g14 u14 HG14 HM))) | (refine wv_stP (by rfl) _ _ rfl rfl rfl HM (by exact vidxOf) (by with_reducible assumption) ?_; clear HM; intro us HM; dsimp only [List.set] at HM) | (refine wv_make (by rfl) _ _ _ rfl rfl rfl _ _ _ (by first | exact Try.underlying22 | exact Try.underlying35) HI0 HZ0 HY0 HM (by with_reducible assumption) ?_; first | (have q : dV HM = 0 := rfl; clear q HM; intro g1 u1 HG1 HM) | (have q : dV HM = 1 := rfl; clear q HM; intro g2 u2 HG2 HM) | (have q : dV HM = 2 := rfl; clear q HM; intro g3 u3 HG3 HM) | (have q : dV HM = 3 := rfl; clear q HM; intro g4 u4 HG4 HM) | (have q : dV HM = 4 := rfl; clear q HM; intro g5 u5 HG5 HM) | (have q : dV HM = 5 := rfl; clear q HM; intro g6 u6 HG6 HM) | (have q : dV HM = 6 := rfl; clear q HM; intro g7 u7 HG7 HM) | (have q : dV HM = 7 := rfl; clear q HM; intro g8 u8 HG8 HM) | (have q : dV HM = 8 := rfl; clear q HM; intro g9 u9 HG9 HM) | (have q : dV HM = 9 := rfl; clear q HM; intro g10 u10 HG10 HM) | (have q : dV HM = 10 := rfl; clear q HM; intro g11 u11 HG11 HM) | (have q : dV HM = 11 := rfl; clear q HM; intro g12 u12 HG12 HM) | (have q : dV HM = 12 := rfl; clear q HM; intro g13 u13 HG13 HM) | (have q : dV HM = 13 := rfl; clear q HM; intro g14 u14 HG14 HM)))
      refine (first_any true nx dp dr (some ⟨g, 0, none⟩) os.length os.length os ⟨0, none, 0, 0, []⟩ _ (Lib.hid ((HOL.out.keep HM.out (fun e he => by
        simp only [List.mem_cons, List.not_mem_nil, or_false] at he ⊢
        rcases he with rfl | rfl | rfl | rfl
        · exact .inr HG4.out
        · exact .inl (.inl rfl)
        · exact .inl (.inr (.inl rfl))
        · exact .inl (.inr (.inr rfl)))).rdP HRO.out (HM.out.get (g := g) (by exact vmemOf)))) (fun h => (nomatch h)) (Lib.hid (fun h => (nomatch h)))).mono ?_
      rw [show (if (true : Bool) = true then nx else (⟨0, none, 0, 0, []⟩ : Pk).s) = nx from rfl]
      rintro e u7 ⟨rfl, hb⟩
      have HM2 := Lib.hid (HM.out.below hb)
      clear hb HM
      have HM := HM2
      clear HM2
      go_wp2_with (first | (first | (refine jL ?_) | (refine jS ?_; clear HM; intro us HM; simp only [List.set, List.setIfInBounds_toArray, List.set_cons_zero, List.set_cons_succ] at HM) | (refine jN ?_; first | (have q : dV HM = 0 := rfl; clear q HM; intro g1 u1 HG1 HM) | (have q : dV HM = 1 := rfl; clear q HM; intro g2 u2 HG2 HM) | (have q : dV HM = 2 := rfl; clear q HM; intro g3 u3 HG3 HM) | (have q : dV HM = 3 := rfl; clear q HM; intro g4 u4 HG4 HM) | (have q : dV HM = 4 := rfl; clear q HM; intro g5 u5 HG5 HM) | (have q : dV HM = 5 := rfl; clear q HM; intro g6 u6 HG6 HM) | (have q : dV HM = 6 := rfl; clear q HM; intro g7 u7 HG7 HM) | (have q : dV HM = 7 := rfl; clear q HM; intro g8 u8 HG8 HM) | (have q : dV HM = 8 := rfl; clear q HM; intro g9 u9 HG9 HM) | (have q : dV HM = 9 := rfl; clear q HM; intro g10 u10 HG10 HM) | (have q : dV HM = 10 := rfl; clear q HM; intro g11 u11 HG11 HM) | (have q : dV HM = 11 := rfl; clear q HM; intro g12 u12 HG12 HM) | (have q : dV HM = 12 := rfl; clear q HM; intro g13 u13 HG13 HM) | (have q : dV HM = 13 := rfl; clear q HM; intro g14 u14 HG14 HM))) | (refine wv_stP (by rfl) _ _ rfl rfl rfl HM (by exact vidxOf) (by with_reducible assumption) ?_; clear HM; intro us HM; dsimp only [List.set] at HM) | (refine wv_make (by rfl) _ _ _ rfl rfl rfl _ _ _ (by first | exact Try.underlying22 | exact Try.underlying35) HI0 HZ0 HY0 HM (by with_reducible assumption) ?_; first | (have q : dV HM = 0 := rfl; clear q HM; intro g1 u1 HG1 HM) | (have q : dV HM = 1 := rfl; clear q HM; intro g2 u2 HG2 HM) | (have q : dV HM = 2 := rfl; clear q HM; intro g3 u3 HG3 HM) | (have q : dV HM = 3 := rfl; clear q HM; intro g4 u4 HG4 HM) | (have q : dV HM = 4 := rfl; clear q HM; intro g5 u5 HG5 HM) | (have q : dV HM = 5 := rfl; clear q HM; intro g6 u6 HG6 HM) | (have q : dV HM = 6 := rfl; clear q HM; intro g7 u7 HG7 HM) | (have q : dV HM = 7 := rfl; clear q HM; intro g8 u8 HG8 HM) | (have q : dV HM = 8 := rfl; clear q HM; intro g9 u9 HG9 HM) | (have q : dV HM = 9 := rfl; clear q HM; intro g10 u10 HG10 HM) | (have q : dV HM = 10 := rfl; clear q HM; intro g11 u11 HG11 HM) | (have q : dV HM = 11 := rfl; clear q HM; intro g12 u12 HG12 HM) | (have q : dV HM = 12 := rfl; clear q HM; intro g13 u13 HG13 HM) | (have q : dV HM = 13 := rfl; clear q HM; intro g14 u14 HG14 HM)))
      have HOL2 := Lib.hid ((HOL.out.ch (hs := [g, g4]) (cs := [g, g2, g1]) (Ch.mv (gs := [g, g2, g1]) HB5.out HM.out (fun e he => by
        simp only [List.mem_cons, List.not_mem_nil, or_false] at he ⊢
        rcases he with rfl | rfl | rfl | rfl
        · exact .inr HG4.out
        · exact .inl (.inl rfl)
        · exact .inl (.inr (.inl rfl))
        · exact .inl (.inr (.inr rfl)))) (fun x hx => hx) (fun x hx => by
        simp only [List.mem_cons, List.not_mem_nil, or_false] at hx ⊢
        rcases hx with rfl | rfl
        · exact .inl (.inl rfl)
        · exact .inr HG4.out)).base HSZ.out)
      refine (turn_any w _ g4 g os.length cs true nx dp dr os (Lib.hid (HM.out.sub ((List.Sublist.refl [_, _]).append (List.nil_sublist _)))) HRO HOL2 HNX.out.1 HNX.out.2 HDR.out.1 HDR.out.2 HOSL).mono ?_
      rintro e u8 ⟨hch, hcase⟩
      rcases hcase with ⟨y, os', cs', rfl, ht, hm8, hr8, ho8⟩ | ⟨rfl, ht, hm8, ho8⟩ | ⟨rfl, ht, hm8⟩
      · have HM2 := Lib.hid (HM.out.join hch hm8 (.inl rfl))
        have HT := Lib.hid ht
        have HR8 := Lib.hid hr8
        have HO8 := Lib.hid ((ho8.add (HM2.out.get (g := g2) (by exact vmemOf)) (by intro v hv; cases hv)).add (HM2.out.get (g := g1) (by exact vmemOf)) (by intro v hv; cases hv))
        clear HM hch ht hm8 hr8 ho8
        have HM := HM2
        clear HM2
        go_wp2_with (first | (first | (refine jL ?_) | (refine jS ?_; clear HM; intro us HM; simp only [List.set, List.setIfInBounds_toArray, List.set_cons_zero, List.set_cons_succ] at HM) | (refine jN ?_; first | (have q : dV HM = 0 := rfl; clear q HM; intro g1 u1 HG1 HM) | (have q : dV HM = 1 := rfl; clear q HM; intro g2 u2 HG2 HM) | (have q : dV HM = 2 := rfl; clear q HM; intro g3 u3 HG3 HM) | (have q : dV HM = 3 := rfl; clear q HM; intro g4 u4 HG4 HM) | (have q : dV HM = 4 := rfl; clear q HM; intro g5 u5 HG5 HM) | (have q : dV HM = 5 := rfl; clear q HM; intro g6 u6 HG6 HM) | (have q : dV HM = 6 := rfl; clear q HM; intro g7 u7 HG7 HM) | (have q : dV HM = 7 := rfl; clear q HM; intro g8 u8 HG8 HM) | (have q : dV HM = 8 := rfl; clear q HM; intro g9 u9 HG9 HM) | (have q : dV HM = 9 := rfl; clear q HM; intro g10 u10 HG10 HM) | (have q : dV HM = 10 := rfl; clear q HM; intro g11 u11 HG11 HM) | (have q : dV HM = 11 := rfl; clear q HM; intro g12 u12 HG12 HM) | (have q : dV HM = 12 := rfl; clear q HM; intro g13 u13 HG13 HM) | (have q : dV HM = 13 := rfl; clear q HM; intro g14 u14 HG14 HM))) | (refine wv_stP (by rfl) _ _ rfl rfl rfl HM (by exact vidxOf) (by with_reducible assumption) ?_; clear HM; intro us HM; dsimp only [List.set] at HM) | (refine wv_make (by rfl) _ _ _ rfl rfl rfl _ _ _ (by first | exact Try.underlying22 | exact Try.underlying35) HI0 HZ0 HY0 HM (by with_reducible assumption) ?_; first | (have q : dV HM = 0 := rfl; clear q HM; intro g1 u1 HG1 HM) | (have q : dV HM = 1 := rfl; clear q HM; intro g2 u2 HG2 HM) | (have q : dV HM = 2 := rfl; clear q HM; intro g3 u3 HG3 HM) | (have q : dV HM = 3 := rfl; clear q HM; intro g4 u4 HG4 HM) | (have q : dV HM = 4 := rfl; clear q HM; intro g5 u5 HG5 HM) | (have q : dV HM = 5 := rfl; clear q HM; intro g6 u6 HG6 HM) | (have q : dV HM = 6 := rfl; clear q HM; intro g7 u7 HG7 HM) | (have q : dV HM = 7 := rfl; clear q HM; intro g8 u8 HG8 HM) | (have q : dV HM = 8 := rfl; clear q HM; intro g9 u9 HG9 HM) | (have q : dV HM = 9 := rfl; clear q HM; intro g10 u10 HG10 HM) | (have q : dV HM = 10 := rfl; clear q HM; intro g11 u11 HG11 HM) | (have q : dV HM = 11 := rfl; clear q HM; intro g12 u12 HG12 HM) | (have q : dV HM = 12 := rfl; clear q HM; intro g13 u13 HG13 HM) | (have q : dV HM = 13 := rfl; clear q HM; intro g14 u14 HG14 HM)))
        have HO9 := Lib.hid (HO8.out.keep HM.out (fun e he => by
          simp only [List.mem_cons, List.not_mem_nil, or_false] at he ⊢
          rcases he with rfl | rfl | rfl | rfl
          · exact .inl (.inr (.inr (.inr rfl)))
          · exact .inl (.inr (.inr (.inl rfl)))
          · exact .inl (.inr (.inl rfl))
          · exact .inl (.inl rfl)))
        refine bodyPost_ret (v := .tuple #[jtV true (nx + 1) dp 0 (some ⟨g, 0, none⟩) os'.length os.length, .int .i64 1, .slice y.A y.n y.c, .int .i64 0]) (vres_four rfl _ rfl rfl rfl rfl rowJt HM (by exact vmemOf) (Lib.hid rfl)) rfl ?_
        unfold PullP
        rw [if_pos HOK.out]
        obtain ⟨gb, hgb, hB, hrd, hsep⟩ := HO9.out.sep HR8.out (HM.out.get (g := g) (by exact vmemOf)) (by simp)
        exact ⟨true, nx + 1, dp, 0, some ⟨g, 0, none⟩, os.length, os', y.A, y.n, y.c, y.bs, 1, rfl, by rw [HQE.out, HE.out]; exact HT.out, OwnL.rdP (OwnL.mk (List.nodup_cons.1 HO9.out.2).2 (fun x hx => HO9.out.1 x (.tail _ hx))) HR8.out (HM.out.get (g := g) (by exact vmemOf)), hrd, HM.out.1, fun _ => ⟨gb, hgb, hB, hsep⟩, fun u gs hu hh => HO9.out.apart2 HR8.out (HM.out.get (g := g) (by exact vmemOf)) (HM.out.2.2.1 (g, _, _) (by exact vmemOf)) hu hh⟩
      · have HM2 := Lib.hid (HM.out.join hch hm8 (.inl rfl))
        have HT := Lib.hid ht
        have HO8 := Lib.hid ((ho8.add (HM2.out.get (g := g2) (by exact vmemOf)) (by intro v hv; cases hv)).add (HM2.out.get (g := g1) (by exact vmemOf)) (by intro v hv; cases hv))
        clear HM hch ht hm8 ho8
        have HM := HM2
        clear HM2
        go_wp2_with (first | (first | (refine jL ?_) | (refine jS ?_; clear HM; intro us HM; simp only [List.set, List.setIfInBounds_toArray, List.set_cons_zero, List.set_cons_succ] at HM) | (refine jN ?_; first | (have q : dV HM = 0 := rfl; clear q HM; intro g1 u1 HG1 HM) | (have q : dV HM = 1 := rfl; clear q HM; intro g2 u2 HG2 HM) | (have q : dV HM = 2 := rfl; clear q HM; intro g3 u3 HG3 HM) | (have q : dV HM = 3 := rfl; clear q HM; intro g4 u4 HG4 HM) | (have q : dV HM = 4 := rfl; clear q HM; intro g5 u5 HG5 HM) | (have q : dV HM = 5 := rfl; clear q HM; intro g6 u6 HG6 HM) | (have q : dV HM = 6 := rfl; clear q HM; intro g7 u7 HG7 HM) | (have q : dV HM = 7 := rfl; clear q HM; intro g8 u8 HG8 HM) | (have q : dV HM = 8 := rfl; clear q HM; intro g9 u9 HG9 HM) | (have q : dV HM = 9 := rfl; clear q HM; intro g10 u10 HG10 HM) | (have q : dV HM = 10 := rfl; clear q HM; intro g11 u11 HG11 HM) | (have q : dV HM = 11 := rfl; clear q HM; intro g12 u12 HG12 HM) | (have q : dV HM = 12 := rfl; clear q HM; intro g13 u13 HG13 HM) | (have q : dV HM = 13 := rfl; clear q HM; intro g14 u14 HG14 HM))) | (refine wv_stP (by rfl) _ _ rfl rfl rfl HM (by exact vidxOf) (by with_reducible assumption) ?_; clear HM; intro us HM; dsimp only [List.set] at HM) | (refine wv_make (by rfl) _ _ _ rfl rfl rfl _ _ _ (by first | exact Try.underlying22 | exact Try.underlying35) HI0 HZ0 HY0 HM (by with_reducible assumption) ?_; first | (have q : dV HM = 0 := rfl; clear q HM; intro g1 u1 HG1 HM) | (have q : dV HM = 1 := rfl; clear q HM; intro g2 u2 HG2 HM) | (have q : dV HM = 2 := rfl; clear q HM; intro g3 u3 HG3 HM) | (have q : dV HM = 3 := rfl; clear q HM; intro g4 u4 HG4 HM) | (have q : dV HM = 4 := rfl; clear q HM; intro g5 u5 HG5 HM) | (have q : dV HM = 5 := rfl; clear q HM; intro g6 u6 HG6 HM) | (have q : dV HM = 6 := rfl; clear q HM; intro g7 u7 HG7 HM) | (have q : dV HM = 7 := rfl; clear q HM; intro g8 u8 HG8 HM) | (have q : dV HM = 8 := rfl; clear q HM; intro g9 u9 HG9 HM) | (have q : dV HM = 9 := rfl; clear q HM; intro g10 u10 HG10 HM) | (have q : dV HM = 10 := rfl; clear q HM; intro g11 u11 HG11 HM) | (have q : dV HM = 11 := rfl; clear q HM; intro g12 u12 HG12 HM) | (have q : dV HM = 12 := rfl; clear q HM; intro g13 u13 HG13 HM) | (have q : dV HM = 13 := rfl; clear q HM; intro g14 u14 HG14 HM)))
        have HO9 := Lib.hid (HO8.out.keep HM.out (fun e he => by
          simp only [List.mem_cons, List.not_mem_nil, or_false] at he ⊢
          rcases he with rfl | rfl | rfl | rfl
          · exact .inl (.inr (.inr (.inr rfl)))
          · exact .inl (.inr (.inr (.inl rfl)))
          · exact .inl (.inr (.inl rfl))
          · exact .inl (.inl rfl)))
        refine bodyPost_ret (v := .tuple #[jtV true (nx + 1) dp (dr + 1) (some ⟨g, 0, none⟩) os.length os.length, .int .i64 2, .slice none 0 0, .int .i64 0]) (vres_four rfl _ rfl rfl rfl rfl rowJt HM (by exact vmemOf) (Lib.hid rfl)) rfl ?_
        unfold PullP
        rw [if_pos HOK.out]
        exact ⟨true, nx + 1, dp, dr + 1, some ⟨g, 0, none⟩, os.length, os, none, 0, 0, [], 2, rfl, by rw [HQE.out, HE.out]; exact HT.out, HO9.out.rdP HRO.out (HM.out.get (g := g) (by exact vmemOf)), Rd.none_, HM.out.1, fun h => absurd h (by omega), fun u gs hu hh => ⟨HO9.out.apart HRO.out (HM.out.get (g := g) (by exact vmemOf)) (HM.out.2.2.1 (g, _, _) (by exact vmemOf)) hu hh, Rd.none_⟩⟩
      · have HM2 := Lib.hid (HM.out.join hch hm8 (.inl rfl))
        have HT := Lib.hid ht
        clear HM hch ht hm8
        have HM := HM2
        clear HM2
        go_wp2_with (first | (first | (refine jL ?_) | (refine jS ?_; clear HM; intro us HM; simp only [List.set, List.setIfInBounds_toArray, List.set_cons_zero, List.set_cons_succ] at HM) | (refine jN ?_; first | (have q : dV HM = 0 := rfl; clear q HM; intro g1 u1 HG1 HM) | (have q : dV HM = 1 := rfl; clear q HM; intro g2 u2 HG2 HM) | (have q : dV HM = 2 := rfl; clear q HM; intro g3 u3 HG3 HM) | (have q : dV HM = 3 := rfl; clear q HM; intro g4 u4 HG4 HM) | (have q : dV HM = 4 := rfl; clear q HM; intro g5 u5 HG5 HM) | (have q : dV HM = 5 := rfl; clear q HM; intro g6 u6 HG6 HM) | (have q : dV HM = 6 := rfl; clear q HM; intro g7 u7 HG7 HM) | (have q : dV HM = 7 := rfl; clear q HM; intro g8 u8 HG8 HM) | (have q : dV HM = 8 := rfl; clear q HM; intro g9 u9 HG9 HM) | (have q : dV HM = 9 := rfl; clear q HM; intro g10 u10 HG10 HM) | (have q : dV HM = 10 := rfl; clear q HM; intro g11 u11 HG11 HM) | (have q : dV HM = 11 := rfl; clear q HM; intro g12 u12 HG12 HM) | (have q : dV HM = 12 := rfl; clear q HM; intro g13 u13 HG13 HM) | (have q : dV HM = 13 := rfl; clear q HM; intro g14 u14 HG14 HM))) | (refine wv_stP (by rfl) _ _ rfl rfl rfl HM (by exact vidxOf) (by with_reducible assumption) ?_; clear HM; intro us HM; dsimp only [List.set] at HM) | (refine wv_make (by rfl) _ _ _ rfl rfl rfl _ _ _ (by first | exact Try.underlying22 | exact Try.underlying35) HI0 HZ0 HY0 HM (by with_reducible assumption) ?_; first | (have q : dV HM = 0 := rfl; clear q HM; intro g1 u1 HG1 HM) | (have q : dV HM = 1 := rfl; clear q HM; intro g2 u2 HG2 HM) | (have q : dV HM = 2 := rfl; clear q HM; intro g3 u3 HG3 HM) | (have q : dV HM = 3 := rfl; clear q HM; intro g4 u4 HG4 HM) | (have q : dV HM = 4 := rfl; clear q HM; intro g5 u5 HG5 HM) | (have q : dV HM = 5 := rfl; clear q HM; intro g6 u6 HG6 HM) | (have q : dV HM = 6 := rfl; clear q HM; intro g7 u7 HG7 HM) | (have q : dV HM = 7 := rfl; clear q HM; intro g8 u8 HG8 HM) | (have q : dV HM = 8 := rfl; clear q HM; intro g9 u9 HG9 HM) | (have q : dV HM = 9 := rfl; clear q HM; intro g10 u10 HG10 HM) | (have q : dV HM = 10 := rfl; clear q HM; intro g11 u11 HG11 HM) | (have q : dV HM = 11 := rfl; clear q HM; intro g12 u12 HG12 HM) | (have q : dV HM = 12 := rfl; clear q HM; intro g13 u13 HG13 HM) | (have q : dV HM = 13 := rfl; clear q HM; intro g14 u14 HG14 HM)))
        refine bodyPost_ret (v := .tuple #[jtV false 0 dp 0 none 0 0, .int .i64 3, .slice none 0 0, .int .i64 0]) (vres_four rfl _ rfl rfl rfl rfl rowJt HM (by exact vmemOf) (Lib.hid rfl)) rfl ?_
        unfold PullP
        rw [if_pos HOK.out]
        exact ⟨false, 0, dp, 0, none, 0, [], none, 0, 0, [], 3, rfl, by rw [HQE.out, HE.out]; exact HT.out, RdP.none_, Rd.none_, HM.out.1, fun h => absurd h (by omega), fun _ _ _ _ => ⟨RdP.none_, Rd.none_⟩⟩
  · obtain rfl : ck = 1 := by rw [HCE.out]; exact if_neg hok
    have HNG := Lib.hid hok
    clear hok
    go_enter Try.func25, Try.ntmps25
    go_wp2_with (first | (refine jL ?_) | (refine jS ?_; clear HM; intro us HM; simp only [List.set, List.setIfInBounds_toArray, List.set_cons_zero, List.set_cons_succ] at HM) | (refine jN ?_; first | (have q : dV HM = 0 := rfl; clear q HM; intro g1 u1 HG1 HM) | (have q : dV HM = 1 := rfl; clear q HM; intro g2 u2 HG2 HM) | (have q : dV HM = 2 := rfl; clear q HM; intro g3 u3 HG3 HM) | (have q : dV HM = 3 := rfl; clear q HM; intro g4 u4 HG4 HM) | (have q : dV HM = 4 := rfl; clear q HM; intro g5 u5 HG5 HM) | (have q : dV HM = 5 := rfl; clear q HM; intro g6 u6 HG6 HM) | (have q : dV HM = 6 := rfl; clear q HM; intro g7 u7 HG7 HM) | (have q : dV HM = 7 := rfl; clear q HM; intro g8 u8 HG8 HM) | (have q : dV HM = 8 := rfl; clear q HM; intro g9 u9 HG9 HM) | (have q : dV HM = 9 := rfl; clear q HM; intro g10 u10 HG10 HM) | (have q : dV HM = 10 := rfl; clear q HM; intro g11 u11 HG11 HM) | (have q : dV HM = 11 := rfl; clear q HM; intro g12 u12 HG12 HM) | (have q : dV HM = 12 := rfl; clear q HM; intro g13 u13 HG13 HM) | (have q : dV HM = 13 := rfl; clear q HM; intro g14 u14 HG14 HM)))
    refine (HCK.out _ HM.out.1).mono ?_
    rintro e u3 ⟨rfl, hb⟩
    have HM2 := Lib.hid (HM.out.below hb)
    clear hb HM HCK
    have HM := HM2
    clear HM2
    go_wp2_with (first | (refine wv_zeroJ (by rfl) rfl ?_) | (first | (refine jL ?_) | (refine jS ?_; clear HM; intro us HM; simp only [List.set, List.setIfInBounds_toArray, List.set_cons_zero, List.set_cons_succ] at HM) | (refine jN ?_; first | (have q : dV HM = 0 := rfl; clear q HM; intro g1 u1 HG1 HM) | (have q : dV HM = 1 := rfl; clear q HM; intro g2 u2 HG2 HM) | (have q : dV HM = 2 := rfl; clear q HM; intro g3 u3 HG3 HM) | (have q : dV HM = 3 := rfl; clear q HM; intro g4 u4 HG4 HM) | (have q : dV HM = 4 := rfl; clear q HM; intro g5 u5 HG5 HM) | (have q : dV HM = 5 := rfl; clear q HM; intro g6 u6 HG6 HM) | (have q : dV HM = 6 := rfl; clear q HM; intro g7 u7 HG7 HM) | (have q : dV HM = 7 := rfl; clear q HM; intro g8 u8 HG8 HM) | (have q : dV HM = 8 := rfl; clear q HM; intro g9 u9 HG9 HM) | (have q : dV HM = 9 := rfl; clear q HM; intro g10 u10 HG10 HM) | (have q : dV HM = 10 := rfl; clear q HM; intro g11 u11 HG11 HM) | (have q : dV HM = 11 := rfl; clear q HM; intro g12 u12 HG12 HM) | (have q : dV HM = 12 := rfl; clear q HM; intro g13 u13 HG13 HM) | (have q : dV HM = 13 := rfl; clear q HM; intro g14 u14 HG14 HM))))
    refine bodyPost_ret (v := .tuple #[zeroJ, .int .i64 0, .slice none 0 0, .int .i64 1]) (vres_four rfl _ rfl rfl rfl rfl rowJt HM (by exact vmemOf) (Lib.hid rfl)) rfl ?_
    unfold PullP
    rw [if_neg HNG.out]
    exact ⟨rfl, HM.out.1⟩
end Go.Proofs.Ytffapinabidkiaa.Lp
