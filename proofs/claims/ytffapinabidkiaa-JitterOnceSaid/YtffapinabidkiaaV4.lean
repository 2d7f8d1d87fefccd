/-
  Each number comes once, in order: the walk.
-/
import Derived.Test.YtffapinabidkiaaV3
set_option linter.unusedSimpArgs false
set_option linter.unusedVariables false
/- V4 -/
namespace Go.Proofs.Ytffapinabidkiaa.Lp
open Go.RowKit Go.Proofs.Ytffapinabidkiaa.Fq
theorem Kp.less {F : World → Prop} {gs hs : List Nat} {w : World} (h : Kp F gs w) (hg : ∀ b ∈ hs, b ∈ gs) : Kp F hs w := fun v hv => h v ((Ch.of_below (Below.refl _ _) gs).trans hv fun _ hx => .inl (hg _ hx))
set_option maxRecDepth 100000 in
set_option maxHeartbeats 16000000 in
theorem once_law (d : Int) (A : Option Addr) (n c : Nat) (os : List Opk) (w : World) (h : Hid (RdO w A n os)) (b0 : -9223372036854775808 ≤ d ∧ d ≤ 9223372036854775807) :
    Calls Try.prog 5 #[.int .i64 d, .slice A n c] w (ValQ w (.bool true)) := by
  have HM := Lib.hid (MV.start w)
  obtain ⟨R0, D, p1, p2, p3, p4, -, p6⟩ := rem_is d 16 (by omega) (by omega)
  clear b0
  go_enter Try.func5, Try.ntmps5
  go_wp2_with (first | (refine jL ?_) | (refine jS ?_; clear HM; intro us HM; simp only [List.set, List.setIfInBounds_toArray, List.set_cons_zero, List.set_cons_succ] at HM) | (refine jN ?_; first | (have q : dV HM = 0 := rfl; clear q HM; intro g1 u1 HG1 HM) | (have q : dV HM = 1 := rfl; clear q HM; intro g2 u2 HG2 HM) | (have q : dV HM = 2 := rfl; clear q HM; intro g3 u3 HG3 HM) | (have q : dV HM = 3 := rfl; clear q HM; intro g4 u4 HG4 HM) | (have q : dV HM = 4 := rfl; clear q HM; intro g5 u5 HG5 HM) | (have q : dV HM = 5 := rfl; clear q HM; intro g6 u6 HG6 HM) | (have q : dV HM = 6 := rfl; clear q HM; intro g7 u7 HG7 HM) | (have q : dV HM = 7 := rfl; clear q HM; intro g8 u8 HG8 HM) | (have q : dV HM = 8 := rfl; clear q HM; intro g9 u9 HG9 HM) | (have q : dV HM = 9 := rfl; clear q HM; intro g10 u10 HG10 HM) | (have q : dV HM = 10 := rfl; clear q HM; intro g11 u11 HG11 HM) | (have q : dV HM = 11 := rfl; clear q HM; intro g12 u12 HG12 HM) | (have q : dV HM = 12 := rfl; clear q HM; intro g13 u13 HG13 HM) | (have q : dV HM = 13 := rfl; clear q HM; intro g14 u14 HG14 HM)))
  refine (live_any _).mono ?_
  rintro e u0 ⟨rfl, hb⟩
  have HM2 := Lib.hid (HM.out.below hb)
  clear hb HM
  have HM := HM2
  clear HM2
  by_cases hbig : (20 : Int) < (n : Int)
  · go_wp2_with (first | (refine jL ?_) | (refine jS ?_; clear HM; intro us HM; simp only [List.set, List.setIfInBounds_toArray, List.set_cons_zero, List.set_cons_succ] at HM) | (refine jN ?_; first | (have q : dV HM = 0 := rfl; clear q HM; intro g1 u1 HG1 HM) | (have q : dV HM = 1 := rfl; clear q HM; intro g2 u2 HG2 HM) | (have q : dV HM = 2 := rfl; clear q HM; intro g3 u3 HG3 HM) | (have q : dV HM = 3 := rfl; clear q HM; intro g4 u4 HG4 HM) | (have q : dV HM = 4 := rfl; clear q HM; intro g5 u5 HG5 HM) | (have q : dV HM = 5 := rfl; clear q HM; intro g6 u6 HG6 HM) | (have q : dV HM = 6 := rfl; clear q HM; intro g7 u7 HG7 HM) | (have q : dV HM = 7 := rfl; clear q HM; intro g8 u8 HG8 HM) | (have q : dV HM = 8 := rfl; clear q HM; intro g9 u9 HG9 HM) | (have q : dV HM = 9 := rfl; clear q HM; intro g10 u10 HG10 HM) | (have q : dV HM = 10 := rfl; clear q HM; intro g11 u11 HG11 HM) | (have q : dV HM = 11 := rfl; clear q HM; intro g12 u12 HG12 HM) | (have q : dV HM = 12 := rfl; clear q HM; intro g13 u13 HG13 HM) | (have q : dV HM = 13 := rfl; clear q HM; intro g14 u14 HG14 HM)))
    go_ret
    exact ⟨rfl, HM.out.1⟩
  have hn20 : (n : Int) ≤ 20 := by omega
  clear hbig
  go_wp2_with (first | (refine jL ?_) | (refine jS ?_; clear HM; intro us HM; simp only [List.set, List.setIfInBounds_toArray, List.set_cons_zero, List.set_cons_succ] at HM) | (refine jN ?_; first | (have q : dV HM = 0 := rfl; clear q HM; intro g1 u1 HG1 HM) | (have q : dV HM = 1 := rfl; clear q HM; intro g2 u2 HG2 HM) | (have q : dV HM = 2 := rfl; clear q HM; intro g3 u3 HG3 HM) | (have q : dV HM = 3 := rfl; clear q HM; intro g4 u4 HG4 HM) | (have q : dV HM = 4 := rfl; clear q HM; intro g5 u5 HG5 HM) | (have q : dV HM = 5 := rfl; clear q HM; intro g6 u6 HG6 HM) | (have q : dV HM = 6 := rfl; clear q HM; intro g7 u7 HG7 HM) | (have q : dV HM = 7 := rfl; clear q HM; intro g8 u8 HG8 HM) | (have q : dV HM = 8 := rfl; clear q HM; intro g9 u9 HG9 HM) | (have q : dV HM = 9 := rfl; clear q HM; intro g10 u10 HG10 HM) | (have q : dV HM = 10 := rfl; clear q HM; intro g11 u11 HG11 HM) | (have q : dV HM = 11 := rfl; clear q HM; intro g12 u12 HG12 HM) | (have q : dV HM = 12 := rfl; clear q HM; intro g13 u13 HG13 HM) | (have q : dV HM = 13 := rfl; clear q HM; intro g14 u14 HG14 HM)))
  refine (New_any (1 + (D : Int)) _).mono ?_
  rw [newV_ok (by omega)]
  rintro e u1 ⟨rfl, hb⟩
  have HM2 := Lib.hid (HM.out.below hb).base
  clear hb HM
  have HM := HM2
  clear HM2
  obtain ⟨d1, hd⟩ : ∃ d1 : Int, d1 = 1 + (D : Int) := ⟨_, rfl⟩
  rw [← hd]
  have HOKN := Lib.hid (okN_new (d := d1) (by omega))
  clear p1 p2 p3 p4 p6 hd
  go_wp2_with (first | (refine jL ?_) | (refine jS ?_; clear HM; intro us HM; simp only [List.set, List.setIfInBounds_toArray, List.set_cons_zero, List.set_cons_succ] at HM) | (refine jN ?_; first | (have q : dV HM = 0 := rfl; clear q HM; intro g1 u1 HG1 HM) | (have q : dV HM = 1 := rfl; clear q HM; intro g2 u2 HG2 HM) | (have q : dV HM = 2 := rfl; clear q HM; intro g3 u3 HG3 HM) | (have q : dV HM = 3 := rfl; clear q HM; intro g4 u4 HG4 HM) | (have q : dV HM = 4 := rfl; clear q HM; intro g5 u5 HG5 HM) | (have q : dV HM = 5 := rfl; clear q HM; intro g6 u6 HG6 HM) | (have q : dV HM = 6 := rfl; clear q HM; intro g7 u7 HG7 HM) | (have q : dV HM = 7 := rfl; clear q HM; intro g8 u8 HG8 HM) | (have q : dV HM = 8 := rfl; clear q HM; intro g9 u9 HG9 HM) | (have q : dV HM = 9 := rfl; clear q HM; intro g10 u10 HG10 HM) | (have q : dV HM = 10 := rfl; clear q HM; intro g11 u11 HG11 HM) | (have q : dV HM = 11 := rfl; clear q HM; intro g12 u12 HG12 HM) | (have q : dV HM = 12 := rfl; clear q HM; intro g13 u13 HG13 HM) | (have q : dV HM = 13 := rfl; clear q HM; intro g14 u14 HG14 HM)))
  have HM2 := Lib.hid HM.out.base
  clear HM
  go_loopw [38] (fun vi wr => ∃ (k m c0 : Nat) (on : Bool) (nx dp dr : Int) (A0 : Option Addr) (ls : List Pk), vi = .int .i64 (k : Int) ∧ k ≤ n ∧ Hid (OkJ ⟨on, nx, dp, dr, ls.map pl⟩ ∧ NxB ⟨on, nx, dp, dr, ls.map pl⟩) ∧ Hid (Kp (fun u => RdP u A0 m ls) [g1] wr) ∧
    Hid (MV w wr [(g1, 24, #[.bool on, .int .i64 nx, .int .i64 dp, .int .i64 dr, .slice A0 m c0])] wr)) (fun vi _ => n - (intOf vi).toNat)
  case atStart => exact ⟨0, 0, 0, false, 0, d1, 0, none, [], rfl, by omega, HOKN, Lib.hid (fun u _ => RdP.none_), HM2⟩
  case round =>
    clear HM2 HOKN
    obtain ⟨k, m, c0, on, nx, dp, dr, A0, ls, rfl, hk, HOK, HK, HM⟩ := hrel
    have HBU := Lib.hid HM.out.1
    by_cases hlt : k < n
    case neg =>
      obtain rfl : k = n := by omega
      go_wp2_with (first | (refine jL ?_) | (refine jS ?_; clear HM; intro us HM; simp only [List.set, List.setIfInBounds_toArray, List.set_cons_zero, List.set_cons_succ] at HM) | (refine jN ?_; first | (have q : dV HM = 0 := rfl; clear q HM; intro g1 u1 HG1 HM) | (have q : dV HM = 1 := rfl; clear q HM; intro g2 u2 HG2 HM) | (have q : dV HM = 2 := rfl; clear q HM; intro g3 u3 HG3 HM) | (have q : dV HM = 3 := rfl; clear q HM; intro g4 u4 HG4 HM) | (have q : dV HM = 4 := rfl; clear q HM; intro g5 u5 HG5 HM) | (have q : dV HM = 5 := rfl; clear q HM; intro g6 u6 HG6 HM) | (have q : dV HM = 6 := rfl; clear q HM; intro g7 u7 HG7 HM) | (have q : dV HM = 7 := rfl; clear q HM; intro g8 u8 HG8 HM) | (have q : dV HM = 8 := rfl; clear q HM; intro g9 u9 HG9 HM) | (have q : dV HM = 9 := rfl; clear q HM; intro g10 u10 HG10 HM) | (have q : dV HM = 10 := rfl; clear q HM; intro g11 u11 HG11 HM) | (have q : dV HM = 11 := rfl; clear q HM; intro g12 u12 HG12 HM) | (have q : dV HM = 12 := rfl; clear q HM; intro g13 u13 HG13 HM) | (have q : dV HM = 13 := rfl; clear q HM; intro g14 u14 HG14 HM)))
      go_ret
      exact ⟨rfl, HM.out.1⟩
    have kn : (k : Int) < (n : Int) := by omega
    obtain ⟨L, x, rfl, hL, hx, c1w, c2w, hrp, hsz, hp1, hp2⟩ := h.out.at_ hlt
    have c1 := (HM.out.1.cell (World.block_lt_of_cell? _ _ c1w)).trans c1w
    have c2 := (HM.out.1.cell (World.block_lt_of_cell? _ _ c2w)).trans c2w
    have hL2 : (L.add (k * 2)).block < wr.heap.size := by rw [block_of_add]; exact Nat.lt_of_lt_of_le hL HM.out.1.size
    obtain ⟨fb, hfb⟩ : ∃ fb, fb = (fewP ([] ++ x.ls) && decide (0 ≤ 100) && decide (x.n ≤ 100)) := ⟨_, rfl⟩
    have HFB := Lib.hid hfb
    have HRP := Lib.hid hrp
    have HSZ := Lib.hid (show (0 + x.n) * 32 ≤ 140737488355328 by omega)
    obtain ⟨R1, P, p1, p2, p3, p4, -, p6⟩ := rem_is x.p 20 (by omega) (by omega)
    clear hfb hrp hsz hx hL c1w c2w
    go_wp2_with (first | (refine wv_alloc (by rfl) _ rfl rowOp HM ?_; clear HM; intro g2 u2 HG2 HM) | (refine wv_store (by rfl) _ _ _ rfl rfl rfl rowOp HM (by exact vidxOf) (by exact vsizOf) (by exact vsizOf) (by exact voneOf) ?_; clear HM; intro us HM; dsimp only [List.set] at HM) | (first | (refine jL ?_) | (refine jS ?_; clear HM; intro us HM; simp only [List.set, List.setIfInBounds_toArray, List.set_cons_zero, List.set_cons_succ] at HM) | (refine jN ?_; first | (have q : dV HM = 0 := rfl; clear q HM; intro g1 u1 HG1 HM) | (have q : dV HM = 1 := rfl; clear q HM; intro g2 u2 HG2 HM) | (have q : dV HM = 2 := rfl; clear q HM; intro g3 u3 HG3 HM) | (have q : dV HM = 3 := rfl; clear q HM; intro g4 u4 HG4 HM) | (have q : dV HM = 4 := rfl; clear q HM; intro g5 u5 HG5 HM) | (have q : dV HM = 5 := rfl; clear q HM; intro g6 u6 HG6 HM) | (have q : dV HM = 6 := rfl; clear q HM; intro g7 u7 HG7 HM) | (have q : dV HM = 7 := rfl; clear q HM; intro g8 u8 HG8 HM) | (have q : dV HM = 8 := rfl; clear q HM; intro g9 u9 HG9 HM) | (have q : dV HM = 9 := rfl; clear q HM; intro g10 u10 HG10 HM) | (have q : dV HM = 10 := rfl; clear q HM; intro g11 u11 HG11 HM) | (have q : dV HM = 11 := rfl; clear q HM; intro g12 u12 HG12 HM) | (have q : dV HM = 12 := rfl; clear q HM; intro g13 u13 HG13 HM) | (have q : dV HM = 13 := rfl; clear q HM; intro g14 u14 HG14 HM))))
    refine (few_any false 0 0 0 none 0 0 [] x.A x.n x.c x.ls _ (Lib.hid RdP.none_) (Lib.hid (HRP.out.keep HM.out.1)) HSZ).mono ?_
    rw [← HFB.out]
    rintro e u3 ⟨rfl, hb⟩
    have HM2 := Lib.hid (HM.out.below hb)
    clear hb HM c1 c2
    have HM := HM2
    clear HM2
    cases fb with
    | false =>
      go_wp2_with (first | (refine jL ?_) | (refine jS ?_; clear HM; intro us HM; simp only [List.set, List.setIfInBounds_toArray, List.set_cons_zero, List.set_cons_succ] at HM) | (refine jN ?_; first | (have q : dV HM = 0 := rfl; clear q HM; intro g1 u1 HG1 HM) | (have q : dV HM = 1 := rfl; clear q HM; intro g2 u2 HG2 HM) | (have q : dV HM = 2 := rfl; clear q HM; intro g3 u3 HG3 HM) | (have q : dV HM = 3 := rfl; clear q HM; intro g4 u4 HG4 HM) | (have q : dV HM = 4 := rfl; clear q HM; intro g5 u5 HG5 HM) | (have q : dV HM = 5 := rfl; clear q HM; intro g6 u6 HG6 HM) | (have q : dV HM = 6 := rfl; clear q HM; intro g7 u7 HG7 HM) | (have q : dV HM = 7 := rfl; clear q HM; intro g8 u8 HG8 HM) | (have q : dV HM = 8 := rfl; clear q HM; intro g9 u9 HG9 HM) | (have q : dV HM = 9 := rfl; clear q HM; intro g10 u10 HG10 HM) | (have q : dV HM = 10 := rfl; clear q HM; intro g11 u11 HG11 HM) | (have q : dV HM = 11 := rfl; clear q HM; intro g12 u12 HG12 HM) | (have q : dV HM = 12 := rfl; clear q HM; intro g13 u13 HG13 HM) | (have q : dV HM = 13 := rfl; clear q HM; intro g14 u14 HG14 HM)))
      go_ret
      exact ⟨rfl, HM.out.1⟩
    | true =>
    have hx100 : x.n ≤ 100 := by
      have := HFB.out.symm
      simp only [Bool.and_eq_true, decide_eq_true_iff] at this
      exact this.2
    have hm64 : m ≤ 64 := by
      have := okJ_len HOK.out.1
      simp only [List.length_map, HK.out.now.1] at this
      exact this
    have hl1 := (HM.out.get (g := g1) (by exact vmemOf)).lt
    have HK1 := Lib.hid (HK.out.walk HBU.out HM.out (mem_two HG2))
    clear HFB HK
    by_cases hg : goodL (x.ls.map pl) = true
    case neg =>
      have HG := Lib.hid hg
      clear hg
      go_wp2_with (first | (refine jL ?_) | (refine jS ?_; clear HM; intro us HM; simp only [List.set, List.setIfInBounds_toArray, List.set_cons_zero, List.set_cons_succ] at HM) | (refine jN ?_; first | (have q : dV HM = 0 := rfl; clear q HM; intro g1 u1 HG1 HM) | (have q : dV HM = 1 := rfl; clear q HM; intro g2 u2 HG2 HM) | (have q : dV HM = 2 := rfl; clear q HM; intro g3 u3 HG3 HM) | (have q : dV HM = 3 := rfl; clear q HM; intro g4 u4 HG4 HM) | (have q : dV HM = 4 := rfl; clear q HM; intro g5 u5 HG5 HM) | (have q : dV HM = 5 := rfl; clear q HM; intro g6 u6 HG6 HM) | (have q : dV HM = 6 := rfl; clear q HM; intro g7 u7 HG7 HM) | (have q : dV HM = 7 := rfl; clear q HM; intro g8 u8 HG8 HM) | (have q : dV HM = 8 := rfl; clear q HM; intro g9 u9 HG9 HM) | (have q : dV HM = 9 := rfl; clear q HM; intro g10 u10 HG10 HM) | (have q : dV HM = 10 := rfl; clear q HM; intro g11 u11 HG11 HM) | (have q : dV HM = 11 := rfl; clear q HM; intro g12 u12 HG12 HM) | (have q : dV HM = 12 := rfl; clear q HM; intro g13 u13 HG13 HM) | (have q : dV HM = 13 := rfl; clear q HM; intro g14 u14 HG14 HM)))
      refine (Put_no on nx dp dr A0 m c0 ls x.A x.n x.c x.ls _ (Lib.hid HK1.out.now) (Lib.hid (HRP.out.keep HM.out.1)) (by omega) (by omega) HG).mono ?_
      rintro e u4 ⟨rfl, hb⟩
      have HM2 := Lib.hid (HM.out.below hb)
      clear hb HM
      have HM := HM2
      clear HM2
      go_wp2_with (first | (refine jL ?_) | (refine jS ?_; clear HM; intro us HM; simp only [List.set, List.setIfInBounds_toArray, List.set_cons_zero, List.set_cons_succ] at HM) | (refine jN ?_; first | (have q : dV HM = 0 := rfl; clear q HM; intro g1 u1 HG1 HM) | (have q : dV HM = 1 := rfl; clear q HM; intro g2 u2 HG2 HM) | (have q : dV HM = 2 := rfl; clear q HM; intro g3 u3 HG3 HM) | (have q : dV HM = 3 := rfl; clear q HM; intro g4 u4 HG4 HM) | (have q : dV HM = 4 := rfl; clear q HM; intro g5 u5 HG5 HM) | (have q : dV HM = 5 := rfl; clear q HM; intro g6 u6 HG6 HM) | (have q : dV HM = 6 := rfl; clear q HM; intro g7 u7 HG7 HM) | (have q : dV HM = 7 := rfl; clear q HM; intro g8 u8 HG8 HM) | (have q : dV HM = 8 := rfl; clear q HM; intro g9 u9 HG9 HM) | (have q : dV HM = 9 := rfl; clear q HM; intro g10 u10 HG10 HM) | (have q : dV HM = 10 := rfl; clear q HM; intro g11 u11 HG11 HM) | (have q : dV HM = 11 := rfl; clear q HM; intro g12 u12 HG12 HM) | (have q : dV HM = 12 := rfl; clear q HM; intro g13 u13 HG13 HM) | (have q : dV HM = 13 := rfl; clear q HM; intro g14 u14 HG14 HM)))
      go_ret
      exact ⟨rfl, HM.out.1⟩
    obtain ⟨q', hq'⟩ : ∃ q', q' = (putsJ ⟨on, nx, dp, dr, ls.map pl⟩ (x.ls.map pl)).q := ⟨_, rfl⟩
    have HOK2 := Lib.hid (show OkJ ⟨on, nx, dp, dr, q'⟩ ∧ NxB ⟨on, nx, dp, dr, q'⟩ from by
      have e9 := putsJ_mk on nx dp dr (ls.map pl) (x.ls.map pl)
      rw [← hq'] at e9
      rw [← e9]
      exact ⟨okJ_puts HOK.out.1 (good_all hg), nxB_puts HOK.out.2⟩)
    have HPA := Lib.hid (And.intro HOK.out.1 hg)
    obtain ⟨m2, hm2⟩ : ∃ m2, q'.length = m2 := ⟨_, rfl⟩
    obtain ⟨os9, ho9⟩ : ∃ os9, outsJ ⟨on, nx, dp, dr, ls.map pl⟩ (x.ls.map pl) = os9 := ⟨_, rfl⟩
    have HPB := Lib.hid (And.intro hq'.symm (And.intro ho9 hm2))
    clear hq' hg HOK hm2 ho9
    go_wp2_with (first | (refine jL ?_) | (refine jS ?_; clear HM; intro us HM; simp only [List.set, List.setIfInBounds_toArray, List.set_cons_zero, List.set_cons_succ] at HM) | (refine jN ?_; first | (have q : dV HM = 0 := rfl; clear q HM; intro g1 u1 HG1 HM) | (have q : dV HM = 1 := rfl; clear q HM; intro g2 u2 HG2 HM) | (have q : dV HM = 2 := rfl; clear q HM; intro g3 u3 HG3 HM) | (have q : dV HM = 3 := rfl; clear q HM; intro g4 u4 HG4 HM) | (have q : dV HM = 4 := rfl; clear q HM; intro g5 u5 HG5 HM) | (have q : dV HM = 5 := rfl; clear q HM; intro g6 u6 HG6 HM) | (have q : dV HM = 6 := rfl; clear q HM; intro g7 u7 HG7 HM) | (have q : dV HM = 7 := rfl; clear q HM; intro g8 u8 HG8 HM) | (have q : dV HM = 8 := rfl; clear q HM; intro g9 u9 HG9 HM) | (have q : dV HM = 9 := rfl; clear q HM; intro g10 u10 HG10 HM) | (have q : dV HM = 10 := rfl; clear q HM; intro g11 u11 HG11 HM) | (have q : dV HM = 11 := rfl; clear q HM; intro g12 u12 HG12 HM) | (have q : dV HM = 12 := rfl; clear q HM; intro g13 u13 HG13 HM) | (have q : dV HM = 13 := rfl; clear q HM; intro g14 u14 HG14 HM)))
    refine (Put_to on nx dp dr A0 m c0 ls x.A x.n x.c x.ls _ (ls.map pl) q' (x.ls.map pl) os9 m2 (Lib.hid HK1.out.now) (Lib.hid rfl) (Lib.hid (HRP.out.keep HM.out.1)) (Lib.hid rfl) (by omega) HPA (by omega) HPB).mono ?_
    rintro e u4 ⟨A2, c3, l2, B2, rfl, hq, hk2, hb⟩
    have hl2 := (HM.out.get (g := g2) (by exact vmemOf)).lt
    have hk3 := (hk2 [g2, g1] (fun x hx => by simp only [List.mem_cons, List.not_mem_nil, or_false] at hx; rcases hx with rfl | rfl; exact hl2; exact hl1)).1
    have KR := Lib.hid hk3
    have HQ2 := Lib.hid hq
    have HM2 := Lib.hid (HM.out.below hb).base
    have HBU2 := Lib.hid HM2.out.1
    clear hb hk2 hk3 hq hl1 hl2 HM HBU HG2 HPA HPB HK1 hm64
    have HM := HM2
    have HBU := HBU2
    clear HM2 HBU2
    have hx8 : (x.n : Int) ≤ 100 := by omega
    have d5 : ((x.n : Int) != (x.n : Int)) = false := by simp
    go_wp2_with (first | (refine jL ?_) | (refine jS ?_; clear HM; intro us HM; simp only [List.set, List.setIfInBounds_toArray, List.set_cons_zero, List.set_cons_succ] at HM) | (refine jN ?_; first | (have q : dV HM = 0 := rfl; clear q HM; intro g1 u1 HG1 HM) | (have q : dV HM = 1 := rfl; clear q HM; intro g2 u2 HG2 HM) | (have q : dV HM = 2 := rfl; clear q HM; intro g3 u3 HG3 HM) | (have q : dV HM = 3 := rfl; clear q HM; intro g4 u4 HG4 HM) | (have q : dV HM = 4 := rfl; clear q HM; intro g5 u5 HG5 HM) | (have q : dV HM = 5 := rfl; clear q HM; intro g6 u6 HG6 HM) | (have q : dV HM = 6 := rfl; clear q HM; intro g7 u7 HG7 HM) | (have q : dV HM = 7 := rfl; clear q HM; intro g8 u8 HG8 HM) | (have q : dV HM = 8 := rfl; clear q HM; intro g9 u9 HG9 HM) | (have q : dV HM = 9 := rfl; clear q HM; intro g10 u10 HG10 HM) | (have q : dV HM = 10 := rfl; clear q HM; intro g11 u11 HG11 HM) | (have q : dV HM = 11 := rfl; clear q HM; intro g12 u12 HG12 HM) | (have q : dV HM = 12 := rfl; clear q HM; intro g13 u13 HG13 HM) | (have q : dV HM = 13 := rfl; clear q HM; intro g14 u14 HG14 HM)))
    have HK2 := Lib.hid ((KR.out.walk HBU.out HM.out (fun e he => by
      simp only [List.mem_cons, List.not_mem_nil, or_false] at he
      rcases he with rfl | rfl | rfl
      · exact .inr HG3.out
      · exact .inl (by simp)
      · exact .inl (by simp))).less (hs := [g1]) (fun b hb => by simp only [List.mem_singleton] at hb; subst hb; simp))
    have HM2 := Lib.hid (HM.out.sub (L' := [(g1, 24, #[.bool on, .int .i64 nx, .int .i64 dp, .int .i64 dr, .slice A2 m2 c3])]) (by exact subOf))
    rw [← HQ2.out] at HOK2
    clear HM KR HBU HG3 HQ2
    go_loopw [71] (fun vi wr => ∃ (i m c0 : Nat) (on : Bool) (nx dp dr : Int) (A0 : Option Addr) (ls : List Pk), vi = .int .i64 (i : Int) ∧ i ≤ P ∧ Hid (OkJ ⟨on, nx, dp, dr, ls.map pl⟩ ∧ NxB ⟨on, nx, dp, dr, ls.map pl⟩) ∧ Hid (Kp (fun u => RdP u A0 m ls) [g1] wr) ∧
      Hid (MV w wr [(g1, 24, #[.bool on, .int .i64 nx, .int .i64 dp, .int .i64 dr, .slice A0 m c0])] wr)) (fun vi _ => P - (intOf vi).toNat)
    case atStart => exact ⟨0, m2, c3, on, nx, dp, dr, A2, l2, rfl, by omega, HOK2, HK2, HM2⟩
    case round =>
      clear HM2 HK2 HOK2
      obtain ⟨i, m, c0, on, nx, dp, dr, A0, ls, rfl, hi, HOK, HK, HM⟩ := hrel
      have HBU := Lib.hid HM.out.1
      by_cases hlt2 : i < P
      case neg =>
        obtain rfl : i = P := by omega
        have hii : ¬ ((i : Int) < (i : Int)) := by omega
        clear hlt2
        go_wp2_with (first | (refine jL ?_) | (refine jS ?_; clear HM; intro us HM; simp only [List.set, List.setIfInBounds_toArray, List.set_cons_zero, List.set_cons_succ] at HM) | (refine jN ?_; first | (have q : dV HM = 0 := rfl; clear q HM; intro g1 u1 HG1 HM) | (have q : dV HM = 1 := rfl; clear q HM; intro g2 u2 HG2 HM) | (have q : dV HM = 2 := rfl; clear q HM; intro g3 u3 HG3 HM) | (have q : dV HM = 3 := rfl; clear q HM; intro g4 u4 HG4 HM) | (have q : dV HM = 4 := rfl; clear q HM; intro g5 u5 HG5 HM) | (have q : dV HM = 5 := rfl; clear q HM; intro g6 u6 HG6 HM) | (have q : dV HM = 6 := rfl; clear q HM; intro g7 u7 HG7 HM) | (have q : dV HM = 7 := rfl; clear q HM; intro g8 u8 HG8 HM) | (have q : dV HM = 8 := rfl; clear q HM; intro g9 u9 HG9 HM) | (have q : dV HM = 9 := rfl; clear q HM; intro g10 u10 HG10 HM) | (have q : dV HM = 10 := rfl; clear q HM; intro g11 u11 HG11 HM) | (have q : dV HM = 11 := rfl; clear q HM; intro g12 u12 HG12 HM) | (have q : dV HM = 12 := rfl; clear q HM; intro g13 u13 HG13 HM) | (have q : dV HM = 13 := rfl; clear q HM; intro g14 u14 HG14 HM)))
        go_roundw
        case rel =>
          exact ⟨k + 1, m, c0, on, nx, dp, dr, A0, ls, by first | rfl | go_num, by omega, HOK, HK, HM⟩
        case measure => simp [intOf]; omega
      have ki : (i : Int) < (P : Int) := by omega
      have hl1 := (HM.out.get (g := g1) (by exact vmemOf)).lt
      have hm64 : m ≤ 64 := by
        have := okJ_len HOK.out.1
        simp only [List.length_map, HK.out.now.1] at this
        exact this
      obtain ⟨r, bs, ⟨on', nx', dp', dr', q'⟩, hP, hk1, hk2, hk3, hC⟩ := pull_cases HOK.out.1 HOK.out.2
      have HOK1 := Lib.hid HOK.out.1
      have HOK0 := HOK1
      have HP1 := Lib.hid (And.intro hk1 hk2)
      obtain ⟨m2, hm2⟩ : ∃ m2, q'.length = m2 := ⟨_, rfl⟩
      obtain ⟨nb, hnb⟩ : ∃ nb, bs.length = nb := ⟨_, rfl⟩
      have HP := Lib.hid (And.intro hP (And.intro hm2 hnb))
      have HLB := Lib.hid (And.intro hm2 hnb)
      have HC := Lib.hid hC
      clear hP hk1 hk2 hk3 hC hm2 hnb HOK
      go_wp2_with (first | (refine jL ?_) | (refine jS ?_; clear HM; intro us HM; simp only [List.set, List.setIfInBounds_toArray, List.set_cons_zero, List.set_cons_succ] at HM) | (refine jN ?_; first | (have q : dV HM = 0 := rfl; clear q HM; intro g1 u1 HG1 HM) | (have q : dV HM = 1 := rfl; clear q HM; intro g2 u2 HG2 HM) | (have q : dV HM = 2 := rfl; clear q HM; intro g3 u3 HG3 HM) | (have q : dV HM = 3 := rfl; clear q HM; intro g4 u4 HG4 HM) | (have q : dV HM = 4 := rfl; clear q HM; intro g5 u5 HG5 HM) | (have q : dV HM = 5 := rfl; clear q HM; intro g6 u6 HG6 HM) | (have q : dV HM = 6 := rfl; clear q HM; intro g7 u7 HG7 HM) | (have q : dV HM = 7 := rfl; clear q HM; intro g8 u8 HG8 HM) | (have q : dV HM = 8 := rfl; clear q HM; intro g9 u9 HG9 HM) | (have q : dV HM = 9 := rfl; clear q HM; intro g10 u10 HG10 HM) | (have q : dV HM = 10 := rfl; clear q HM; intro g11 u11 HG11 HM) | (have q : dV HM = 11 := rfl; clear q HM; intro g12 u12 HG12 HM) | (have q : dV HM = 12 := rfl; clear q HM; intro g13 u13 HG13 HM) | (have q : dV HM = 13 := rfl; clear q HM; intro g14 u14 HG14 HM)))
      refine (Pull_to on nx dp dr A0 m c0 ls _ (ls.map pl) q' on' nx' dp' dr' r bs m2 nb (Lib.hid HK.out.now) (Lib.hid rfl) HOK1 (by omega) HP).mono ?_
      rintro e u2 ⟨A3, c3, l3, B3, cb3, rfl, hq, hk2, hb⟩
      have hk3 := hk2 [g1] (fun x hx => by rw [List.mem_singleton.1 hx]; exact hl1)
      have KR := Lib.hid hk3.1
      have KI := Lib.hid hk3.2
      have HQ2 := Lib.hid hq
      have HM2 := Lib.hid (HM.out.below hb).base
      have HBU2 := Lib.hid HM2.out.1
      have HK2 := Lib.hid (HK.out.call hb)
      clear hb hk2 hk3 hq hl1 HM HBU HOK1 HP HK
      have HM := HM2
      have HBU := HBU2
      have HK := HK2
      clear HM2 HBU2 HK2
      go_wp2_with (first | (refine jL ?_) | (refine jS ?_; clear HM; intro us HM; simp only [List.set, List.setIfInBounds_toArray, List.set_cons_zero, List.set_cons_succ] at HM) | (refine jN ?_; first | (have q : dV HM = 0 := rfl; clear q HM; intro g1 u1 HG1 HM) | (have q : dV HM = 1 := rfl; clear q HM; intro g2 u2 HG2 HM) | (have q : dV HM = 2 := rfl; clear q HM; intro g3 u3 HG3 HM) | (have q : dV HM = 3 := rfl; clear q HM; intro g4 u4 HG4 HM) | (have q : dV HM = 4 := rfl; clear q HM; intro g5 u5 HG5 HM) | (have q : dV HM = 5 := rfl; clear q HM; intro g6 u6 HG6 HM) | (have q : dV HM = 6 := rfl; clear q HM; intro g7 u7 HG7 HM) | (have q : dV HM = 7 := rfl; clear q HM; intro g8 u8 HG8 HM) | (have q : dV HM = 8 := rfl; clear q HM; intro g9 u9 HG9 HM) | (have q : dV HM = 9 := rfl; clear q HM; intro g10 u10 HG10 HM) | (have q : dV HM = 10 := rfl; clear q HM; intro g11 u11 HG11 HM) | (have q : dV HM = 11 := rfl; clear q HM; intro g12 u12 HG12 HM) | (have q : dV HM = 12 := rfl; clear q HM; intro g13 u13 HG13 HM) | (have q : dV HM = 13 := rfl; clear q HM; intro g14 u14 HG14 HM)))
      have hg9 := mem_two (g1 := g1) HG2 (a2 := (24, #[.bool on', .int .i64 nx', .int .i64 dp', .int .i64 dr', .slice A3 m2 c3])) (a1 := (24, #[.bool on, .int .i64 nx, .int .i64 dp, .int .i64 dr, .slice A0 m c0]))
      have HK4 := Lib.hid (KR.out.walk HBU.out HM.out hg9)
      have hm9 : m2 ≤ 64 := by
        have := okJ_len HP1.out.1
        simp only [HLB.out.1] at this
        exact this
      refine (rcheck_any on' nx' dp' dr' A3 m2 c3 l3 _ (Lib.hid HK4.out.now) (by omega)).mono ?_
      rw [show ckE ⟨on', nx', dp', dr', l3.map pl⟩ = 0 by rw [HQ2.out]; exact if_pos HP1.out.1]
      rintro e u3 ⟨rfl, hb⟩
      have HM2 := Lib.hid (HM.out.below hb)
      clear hb HM HK4 hg9
      have HM := HM2
      clear HM2
      have HJ0 := Lib.hid (HK.out.walk HBU.out HM.out (mem_two HG2)).now
      have hN := HP1.out.1.1
      have hml := HJ0.out.1
      rcases HC.out with ⟨rfl, p, rest, hq, hbs, hk', hnx⟩ | ⟨rfl, hbs, rfl, hk'⟩ | ⟨rfl, hbs, hk', rfl, hlen⟩ | ⟨rfl, hbs, rfl, h11, hk'⟩
      · obtain ⟨y, lr, rfl⟩ : ∃ y lr, ls = y :: lr := by
          cases ls with
          | nil => cases hq
          | cons y lr => exact ⟨y, lr, rfl⟩
        rw [List.map_cons] at hq
        injection hq with q1 q2
        subst q1 q2
        injection hk' with e1 e2 e3 e4 e5
        replace e2 : nx' = y.s + 1 := e2
        replace hbs : bs = y.bs := hbs
        replace hnx : on = true → y.s = nx := hnx
        subst e1 e2 e3 e4 e5 hbs
        have hm1 : m2 + 1 = m := by
          have := HLB.out.1
          rw [List.length_map] at this
          rw [← hml, List.length_cons, this]
        have hys := bad_iff (HOK0.out.2.1 (pl y) (.head _))
        obtain ⟨L0, y', rfl, hL0, hy', f0, f1, hry, hym⟩ := HJ0.out.at_ (k := 0) (by omega)
        obtain rfl : y = y' := by simpa using hy'
        simp only [Nat.zero_mul, Addr.add_zero'] at f0 f1
        have hys0 : 0 ≤ y.s := hys.1
        have hys1 : y.s ≤ 1099511627776 := hys.2.1
        have mp : (0 : Int) < (m : Int) := by omega
        have m64 : (m : Int) ≤ 64 := by omega
        have d6 : (y.s + 1 != y.s + 1) = false := by simp
        have d7 : ((m2 : Int) != (m : Int) - 1) = false := by simp; omega
        obtain ⟨S, hS⟩ : ∃ S, strOf y.bs = S := ⟨_, rfl⟩
        have HS := Lib.hid hS
        have HRY := Lib.hid hry
        have HM1 := Lib.hid hm1
        clear hS hys hry hm1 hml hy' hym hm64 hm9 HJ0 hN
        cases on with
        | false =>
          clear hnx
          go_wp2_with (first | (refine wv_str (by rfl) _ rfl rfl (Lib.hid (KI.out.walk HBU.out HM.out (mem_three HG3 HG2)).now) HS ?_) | (refine wv_str (by rfl) _ rfl rfl (Lib.hid ((HK.out.walk HBU.out HM.out (mem_three HG3 HG2)).now.rd (.head _)).1) HS ?_) | (first | (refine jL ?_) | (refine jS ?_; clear HM; intro us HM; simp only [List.set, List.setIfInBounds_toArray, List.set_cons_zero, List.set_cons_succ] at HM) | (refine jN ?_; first | (have q : dV HM = 0 := rfl; clear q HM; intro g1 u1 HG1 HM) | (have q : dV HM = 1 := rfl; clear q HM; intro g2 u2 HG2 HM) | (have q : dV HM = 2 := rfl; clear q HM; intro g3 u3 HG3 HM) | (have q : dV HM = 3 := rfl; clear q HM; intro g4 u4 HG4 HM) | (have q : dV HM = 4 := rfl; clear q HM; intro g5 u5 HG5 HM) | (have q : dV HM = 5 := rfl; clear q HM; intro g6 u6 HG6 HM) | (have q : dV HM = 6 := rfl; clear q HM; intro g7 u7 HG7 HM) | (have q : dV HM = 7 := rfl; clear q HM; intro g8 u8 HG8 HM) | (have q : dV HM = 8 := rfl; clear q HM; intro g9 u9 HG9 HM) | (have q : dV HM = 9 := rfl; clear q HM; intro g10 u10 HG10 HM) | (have q : dV HM = 10 := rfl; clear q HM; intro g11 u11 HG11 HM) | (have q : dV HM = 11 := rfl; clear q HM; intro g12 u12 HG12 HM) | (have q : dV HM = 12 := rfl; clear q HM; intro g13 u13 HG13 HM) | (have q : dV HM = 13 := rfl; clear q HM; intro g14 u14 HG14 HM))))
          go_roundw
          case rel =>
            exact ⟨i + 1, m2, c3, true, (y.s + 1), dp', 0, A3, l3, by first | rfl | go_num, by omega, Lib.hid (by rw [HQ2.out]; exact HP1.out), Lib.hid (KR.out.walk HBU.out HM.out (mem_three HG3 HG2)), Lib.hid (HM.out.sub (by exact subOf))⟩
          case measure => simp [intOf]; omega
        | true =>
          obtain rfl : y.s = nx := hnx rfl
          clear hnx
          have d8 : (y.s != y.s) = false := by simp
          go_wp2_with (first | (refine wv_str (by rfl) _ rfl rfl (Lib.hid (KI.out.walk HBU.out HM.out (mem_three HG3 HG2)).now) HS ?_) | (refine wv_str (by rfl) _ rfl rfl (Lib.hid ((HK.out.walk HBU.out HM.out (mem_three HG3 HG2)).now.rd (.head _)).1) HS ?_) | (first | (refine jL ?_) | (refine jS ?_; clear HM; intro us HM; simp only [List.set, List.setIfInBounds_toArray, List.set_cons_zero, List.set_cons_succ] at HM) | (refine jN ?_; first | (have q : dV HM = 0 := rfl; clear q HM; intro g1 u1 HG1 HM) | (have q : dV HM = 1 := rfl; clear q HM; intro g2 u2 HG2 HM) | (have q : dV HM = 2 := rfl; clear q HM; intro g3 u3 HG3 HM) | (have q : dV HM = 3 := rfl; clear q HM; intro g4 u4 HG4 HM) | (have q : dV HM = 4 := rfl; clear q HM; intro g5 u5 HG5 HM) | (have q : dV HM = 5 := rfl; clear q HM; intro g6 u6 HG6 HM) | (have q : dV HM = 6 := rfl; clear q HM; intro g7 u7 HG7 HM) | (have q : dV HM = 7 := rfl; clear q HM; intro g8 u8 HG8 HM) | (have q : dV HM = 8 := rfl; clear q HM; intro g9 u9 HG9 HM) | (have q : dV HM = 9 := rfl; clear q HM; intro g10 u10 HG10 HM) | (have q : dV HM = 10 := rfl; clear q HM; intro g11 u11 HG11 HM) | (have q : dV HM = 11 := rfl; clear q HM; intro g12 u12 HG12 HM) | (have q : dV HM = 12 := rfl; clear q HM; intro g13 u13 HG13 HM) | (have q : dV HM = 13 := rfl; clear q HM; intro g14 u14 HG14 HM))))
          go_roundw
          case rel =>
            exact ⟨i + 1, m2, c3, true, (y.s + 1), dp', 0, A3, l3, by first | rfl | go_num, by omega, Lib.hid (by rw [HQ2.out]; exact HP1.out), Lib.hid (KR.out.walk HBU.out HM.out (mem_three HG3 HG2)), Lib.hid (HM.out.sub (by exact subOf))⟩
          case measure => simp [intOf]; omega
      · injection hk' with e1 e2 e3 e4 e5
        subst e1 e2 e3 e4 e5 hbs
        obtain rfl : m2 = m := by
          have := HLB.out.1
          rw [List.length_map, hml] at this
          exact this.symm
        obtain rfl : nb = 0 := HLB.out.2.symm
        have hx0 : 0 ≤ nx := HOK0.out.1.2.2.1
        have hx1 : nx ≤ 2199023255551 := by have := hN.2.2.2.1; simp only [mostX, if_true] at this; omega
        have d6 : (nx + 1 != nx + 1) = false := by simp
        have d7 : ((m2 : Int) != (m2 : Int)) = false := by simp
        clear hml hm64 hm9 HJ0 hN
        go_wp2_with (first | (refine jL ?_) | (refine jS ?_; clear HM; intro us HM; simp only [List.set, List.setIfInBounds_toArray, List.set_cons_zero, List.set_cons_succ] at HM) | (refine jN ?_; first | (have q : dV HM = 0 := rfl; clear q HM; intro g1 u1 HG1 HM) | (have q : dV HM = 1 := rfl; clear q HM; intro g2 u2 HG2 HM) | (have q : dV HM = 2 := rfl; clear q HM; intro g3 u3 HG3 HM) | (have q : dV HM = 3 := rfl; clear q HM; intro g4 u4 HG4 HM) | (have q : dV HM = 4 := rfl; clear q HM; intro g5 u5 HG5 HM) | (have q : dV HM = 5 := rfl; clear q HM; intro g6 u6 HG6 HM) | (have q : dV HM = 6 := rfl; clear q HM; intro g7 u7 HG7 HM) | (have q : dV HM = 7 := rfl; clear q HM; intro g8 u8 HG8 HM) | (have q : dV HM = 8 := rfl; clear q HM; intro g9 u9 HG9 HM) | (have q : dV HM = 9 := rfl; clear q HM; intro g10 u10 HG10 HM) | (have q : dV HM = 10 := rfl; clear q HM; intro g11 u11 HG11 HM) | (have q : dV HM = 11 := rfl; clear q HM; intro g12 u12 HG12 HM) | (have q : dV HM = 12 := rfl; clear q HM; intro g13 u13 HG13 HM) | (have q : dV HM = 13 := rfl; clear q HM; intro g14 u14 HG14 HM)))
        go_roundw
        case rel =>
          exact ⟨i + 1, m2, c3, true, (nx + 1), dp', (dr + 1), A3, l3, by first | rfl | go_num, by omega, Lib.hid (by rw [HQ2.out]; exact HP1.out), Lib.hid (KR.out.walk HBU.out HM.out (mem_two HG2)), Lib.hid (HM.out.sub (by exact subOf))⟩
        case measure => simp [intOf]; omega
      · injection hk' with e1 e2 e3 e4 e5
        subst e1 e2 e3 e4 e5 hbs
        obtain rfl : m2 = m := by
          have := HLB.out.1
          rw [List.length_map, hml] at this
          exact this.symm
        have hlt9 : (m2 : Int) < dp' := by
          rw [List.length_map, hml] at hlen
          exact hlen
        have d9 : decide ((m2 : Int) ≥ dp') = false := decide_eq_false (by omega)
        have d10 : decide (dp' ≤ (m2 : Int)) = false := decide_eq_false (by omega)
        clear hml hm9 hN hlen hlt9
        go_wp2_with (first | (refine jL ?_) | (refine jS ?_; clear HM; intro us HM; simp only [List.set, List.setIfInBounds_toArray, List.set_cons_zero, List.set_cons_succ] at HM) | (refine jN ?_; first | (have q : dV HM = 0 := rfl; clear q HM; intro g1 u1 HG1 HM) | (have q : dV HM = 1 := rfl; clear q HM; intro g2 u2 HG2 HM) | (have q : dV HM = 2 := rfl; clear q HM; intro g3 u3 HG3 HM) | (have q : dV HM = 3 := rfl; clear q HM; intro g4 u4 HG4 HM) | (have q : dV HM = 4 := rfl; clear q HM; intro g5 u5 HG5 HM) | (have q : dV HM = 5 := rfl; clear q HM; intro g6 u6 HG6 HM) | (have q : dV HM = 6 := rfl; clear q HM; intro g7 u7 HG7 HM) | (have q : dV HM = 7 := rfl; clear q HM; intro g8 u8 HG8 HM) | (have q : dV HM = 8 := rfl; clear q HM; intro g9 u9 HG9 HM) | (have q : dV HM = 9 := rfl; clear q HM; intro g10 u10 HG10 HM) | (have q : dV HM = 10 := rfl; clear q HM; intro g11 u11 HG11 HM) | (have q : dV HM = 11 := rfl; clear q HM; intro g12 u12 HG12 HM) | (have q : dV HM = 12 := rfl; clear q HM; intro g13 u13 HG13 HM) | (have q : dV HM = 13 := rfl; clear q HM; intro g14 u14 HG14 HM)))
        refine (requalJ_any false false nx' nx' dp' dp' dr' dr' A0 A3 m2 m2 c0 c3 ls l3 _ (Lib.hid (HK.out.walk HBU.out HM.out (mem_two HG2)).now) (Lib.hid (KR.out.walk HBU.out HM.out (mem_two HG2)).now) (by omega)).mono ?_
        rw [show eqJ ⟨false, nx', dp', dr', ls.map pl⟩ ⟨false, nx', dp', dr', l3.map pl⟩ = true by rw [HQ2.out]; exact eqJ_self _]
        rintro e u4 ⟨rfl, hb⟩
        have HM2 := Lib.hid (HM.out.below hb)
        clear hb HM
        have HM := HM2
        clear HM2
        go_wp2_with (first | (refine jL ?_) | (refine jS ?_; clear HM; intro us HM; simp only [List.set, List.setIfInBounds_toArray, List.set_cons_zero, List.set_cons_succ] at HM) | (refine jN ?_; first | (have q : dV HM = 0 := rfl; clear q HM; intro g1 u1 HG1 HM) | (have q : dV HM = 1 := rfl; clear q HM; intro g2 u2 HG2 HM) | (have q : dV HM = 2 := rfl; clear q HM; intro g3 u3 HG3 HM) | (have q : dV HM = 3 := rfl; clear q HM; intro g4 u4 HG4 HM) | (have q : dV HM = 4 := rfl; clear q HM; intro g5 u5 HG5 HM) | (have q : dV HM = 5 := rfl; clear q HM; intro g6 u6 HG6 HM) | (have q : dV HM = 6 := rfl; clear q HM; intro g7 u7 HG7 HM) | (have q : dV HM = 7 := rfl; clear q HM; intro g8 u8 HG8 HM) | (have q : dV HM = 8 := rfl; clear q HM; intro g9 u9 HG9 HM) | (have q : dV HM = 9 := rfl; clear q HM; intro g10 u10 HG10 HM) | (have q : dV HM = 10 := rfl; clear q HM; intro g11 u11 HG11 HM) | (have q : dV HM = 11 := rfl; clear q HM; intro g12 u12 HG12 HM) | (have q : dV HM = 12 := rfl; clear q HM; intro g13 u13 HG13 HM) | (have q : dV HM = 13 := rfl; clear q HM; intro g14 u14 HG14 HM)))
        go_roundw
        case rel =>
          exact ⟨i + 1, m2, c3, false, nx', dp', dr', A3, l3, by first | rfl | go_num, by omega, Lib.hid (by rw [HQ2.out]; exact HP1.out), Lib.hid (KR.out.walk HBU.out HM.out (mem_two HG2)), Lib.hid (HM.out.sub (by exact subOf))⟩
        case measure => simp [intOf]; omega
      · injection hk' with e1 e2 e3 e4 e5
        subst e1 e2 e3 e4 e5 hbs
        obtain rfl : m2 = 0 := HLB.out.1.symm
        obtain rfl : dr = 11 := h11
        clear hml hm64 hm9 HJ0 hN
        go_wp2_with (first | (refine jL ?_) | (refine jS ?_; clear HM; intro us HM; simp only [List.set, List.setIfInBounds_toArray, List.set_cons_zero, List.set_cons_succ] at HM) | (refine jN ?_; first | (have q : dV HM = 0 := rfl; clear q HM; intro g1 u1 HG1 HM) | (have q : dV HM = 1 := rfl; clear q HM; intro g2 u2 HG2 HM) | (have q : dV HM = 2 := rfl; clear q HM; intro g3 u3 HG3 HM) | (have q : dV HM = 3 := rfl; clear q HM; intro g4 u4 HG4 HM) | (have q : dV HM = 4 := rfl; clear q HM; intro g5 u5 HG5 HM) | (have q : dV HM = 5 := rfl; clear q HM; intro g6 u6 HG6 HM) | (have q : dV HM = 6 := rfl; clear q HM; intro g7 u7 HG7 HM) | (have q : dV HM = 7 := rfl; clear q HM; intro g8 u8 HG8 HM) | (have q : dV HM = 8 := rfl; clear q HM; intro g9 u9 HG9 HM) | (have q : dV HM = 9 := rfl; clear q HM; intro g10 u10 HG10 HM) | (have q : dV HM = 10 := rfl; clear q HM; intro g11 u11 HG11 HM) | (have q : dV HM = 11 := rfl; clear q HM; intro g12 u12 HG12 HM) | (have q : dV HM = 12 := rfl; clear q HM; intro g13 u13 HG13 HM) | (have q : dV HM = 13 := rfl; clear q HM; intro g14 u14 HG14 HM)))
        go_roundw
        case rel =>
          exact ⟨i + 1, 0, c3, false, 0, dp', 0, A3, l3, by first | rfl | go_num, by omega, Lib.hid (by rw [HQ2.out]; exact HP1.out), Lib.hid (KR.out.walk HBU.out HM.out (mem_two HG2)), Lib.hid (HM.out.sub (by exact subOf))⟩
        case measure => simp [intOf]; omega
end Go.Proofs.Ytffapinabidkiaa.Lp
