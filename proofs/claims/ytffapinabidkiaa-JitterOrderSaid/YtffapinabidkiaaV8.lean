/-
  In whatever order packets are put, the same comes: the walk.
-/
import Derived.Test.YtffapinabidkiaaV7
set_option linter.unusedSimpArgs false
set_option linter.unusedVariables false
/- V8 -/
namespace Go.Proofs.Ytffapinabidkiaa.Lp
open Go.RowKit Go.Proofs.Ytffapinabidkiaa.Fq
set_option maxRecDepth 100000 in
set_option maxHeartbeats 200000000 in
theorem order_law (d : Int) (A : Option Addr) (n c : Nat) (os : List Opk) (B : Option Addr) (nt ct : Nat) (ts : List Int) (w : World) (h : Hid (RdO w A n os)) (ht : Hid (RdI w B nt ts)) (b0 : -9223372036854775808 ≤ d ∧ d ≤ 9223372036854775807) (hts : Hid (∀ t ∈ ts, -9223372036854775808 ≤ t ∧ t ≤ 9223372036854775807)) :
    Calls Try.prog 4 #[.int .i64 d, .slice A n c, .slice B nt ct] w (ValQ w (.bool true)) := by
  have HM := Lib.hid (MV.start w)
  obtain ⟨R0, D, p1, p2, p3, p4, -, p6⟩ := rem_is d 16 (by omega) (by omega)
  clear b0
  go_enter Try.func4, Try.ntmps4
  go_wp2_with (first | (refine jL ?_) | (refine jS ?_; clear HM; intro us HM; simp only [List.set, List.setIfInBounds_toArray, List.set_cons_zero, List.set_cons_succ] at HM) | (refine jN ?_; first | (have q : dV HM = 0 := rfl; clear q HM; intro g1 u1 HG1 HM) | (have q : dV HM = 1 := rfl; clear q HM; intro g2 u2 HG2 HM) | (have q : dV HM = 2 := rfl; clear q HM; intro g3 u3 HG3 HM) | (have q : dV HM = 3 := rfl; clear q HM; intro g4 u4 HG4 HM) | (have q : dV HM = 4 := rfl; clear q HM; intro g5 u5 HG5 HM) | (have q : dV HM = 5 := rfl; clear q HM; intro g6 u6 HG6 HM) | (have q : dV HM = 6 := rfl; clear q HM; intro g7 u7 HG7 HM) | (have q : dV HM = 7 := rfl; clear q HM; intro g8 u8 HG8 HM) | (have q : dV HM = 8 := rfl; clear q HM; intro g9 u9 HG9 HM) | (have q : dV HM = 9 := rfl; clear q HM; intro g10 u10 HG10 HM) | (have q : dV HM = 10 := rfl; clear q HM; intro g11 u11 HG11 HM) | (have q : dV HM = 11 := rfl; clear q HM; intro g12 u12 HG12 HM) | (have q : dV HM = 12 := rfl; clear q HM; intro g13 u13 HG13 HM) | (have q : dV HM = 13 := rfl; clear q HM; intro g14 u14 HG14 HM)))
  refine (live_any _).mono ?_
  rintro e u0 ⟨rfl, hb⟩
  have HM2 := Lib.hid (HM.out.below hb)
  clear hb HM
  have HM := HM2
  clear HM2
  by_cases hbig : (20 : Int) < (n : Int)
  · go_wp2_with (first | (refine jL ?_) | (refine jS ?_; clear HM; intro us HM; simp only [List.set, List.setIfInBounds_toArray, List.set_cons_zero, List.set_cons_succ] at HM) | (refine jN ?_; first | (have q : dV HM = 0 := rfl; clear q HM; intro g1 u1 HG1 HM) | (have q : dV HM = 1 := rfl; clear q HM; intro g2 u2 HG2 HM) | (have q : dV HM = 2 := rfl; clear q HM; intro g3 u3 HG3 HM) | (have q : dV HM = 3 := rfl; clear q HM; intro g4 u4 HG4 HM) | (have q : dV HM = 4 := rfl; clear q HM; intro g5 u5 HG5 HM) | (have q : dV HM = 5 := rfl; clear q HM; intro g6 u6 HG6 HM) | (have q : dV HM = 6 := rfl; clear q HM; intro g7 u7 HG7 HM) | (have q : dV HM = 7 := rfl; clear q HM; intro g8 u8 HG8 HM) | (have q : dV HM = 8 := rfl; clear q HM; intro g9 u9 HG9 HM) | (have q : dV HM = 9 := rfl; clear q HM; intro g10 u10 HG10 HM) | (have q : dV HM = 10 := rfl; clear q HM; intro g11 u11 HG11 HM) | (have q : dV HM = 11 := rfl; clear q HM; intro g12 u12 HG12 HM) | (have q : dV HM = 12 := rfl; clear q HM; intro g13 u13 HG13 HM) | (have q : dV HM = 13 := rfl; clear q HM; intro g14 u14 HG14 HM)))
    go_ret
    exact ⟨rfl, HM.out.1⟩
  by_cases hbig2 : (100 : Int) < (nt : Int)
  · go_wp2_with (first | (refine jL ?_) | (refine jS ?_; clear HM; intro us HM; simp only [List.set, List.setIfInBounds_toArray, List.set_cons_zero, List.set_cons_succ] at HM) | (refine jN ?_; first | (have q : dV HM = 0 := rfl; clear q HM; intro g1 u1 HG1 HM) | (have q : dV HM = 1 := rfl; clear q HM; intro g2 u2 HG2 HM) | (have q : dV HM = 2 := rfl; clear q HM; intro g3 u3 HG3 HM) | (have q : dV HM = 3 := rfl; clear q HM; intro g4 u4 HG4 HM) | (have q : dV HM = 4 := rfl; clear q HM; intro g5 u5 HG5 HM) | (have q : dV HM = 5 := rfl; clear q HM; intro g6 u6 HG6 HM) | (have q : dV HM = 6 := rfl; clear q HM; intro g7 u7 HG7 HM) | (have q : dV HM = 7 := rfl; clear q HM; intro g8 u8 HG8 HM) | (have q : dV HM = 8 := rfl; clear q HM; intro g9 u9 HG9 HM) | (have q : dV HM = 9 := rfl; clear q HM; intro g10 u10 HG10 HM) | (have q : dV HM = 10 := rfl; clear q HM; intro g11 u11 HG11 HM) | (have q : dV HM = 11 := rfl; clear q HM; intro g12 u12 HG12 HM) | (have q : dV HM = 12 := rfl; clear q HM; intro g13 u13 HG13 HM) | (have q : dV HM = 13 := rfl; clear q HM; intro g14 u14 HG14 HM)))
    go_ret
    exact ⟨rfl, HM.out.1⟩
  have hn20 : (n : Int) ≤ 20 := by omega
  have ht100 : (nt : Int) ≤ 100 := by omega
  clear hbig hbig2
  go_wp2_with (first | (refine jL ?_) | (refine jS ?_; clear HM; intro us HM; simp only [List.set, List.setIfInBounds_toArray, List.set_cons_zero, List.set_cons_succ] at HM) | (refine jN ?_; first | (have q : dV HM = 0 := rfl; clear q HM; intro g1 u1 HG1 HM) | (have q : dV HM = 1 := rfl; clear q HM; intro g2 u2 HG2 HM) | (have q : dV HM = 2 := rfl; clear q HM; intro g3 u3 HG3 HM) | (have q : dV HM = 3 := rfl; clear q HM; intro g4 u4 HG4 HM) | (have q : dV HM = 4 := rfl; clear q HM; intro g5 u5 HG5 HM) | (have q : dV HM = 5 := rfl; clear q HM; intro g6 u6 HG6 HM) | (have q : dV HM = 6 := rfl; clear q HM; intro g7 u7 HG7 HM) | (have q : dV HM = 7 := rfl; clear q HM; intro g8 u8 HG8 HM) | (have q : dV HM = 8 := rfl; clear q HM; intro g9 u9 HG9 HM) | (have q : dV HM = 9 := rfl; clear q HM; intro g10 u10 HG10 HM) | (have q : dV HM = 10 := rfl; clear q HM; intro g11 u11 HG11 HM) | (have q : dV HM = 11 := rfl; clear q HM; intro g12 u12 HG12 HM) | (have q : dV HM = 12 := rfl; clear q HM; intro g13 u13 HG13 HM) | (have q : dV HM = 13 := rfl; clear q HM; intro g14 u14 HG14 HM)))
  refine (New_any (1 + (D : Int)) _).mono ?_
  rw [newV_ok (by omega)]
  rintro e u1 ⟨rfl, hb⟩
  have HM2 := Lib.hid (HM.out.below hb).base
  clear hb HM
  have HM := HM2
  clear HM2
  obtain ⟨d1, hd⟩ : ∃ d1 : Int, d1 = 1 + (D : Int) := ⟨_, rfl⟩
  rw [← hd]
  have HOKN := Lib.hid (okN_new (d := d1) (by omega))
  clear p1 p2 p3 p4 p6 hd
  go_wp2_with (first | (refine jL ?_) | (refine jS ?_; clear HM; intro us HM; simp only [List.set, List.setIfInBounds_toArray, List.set_cons_zero, List.set_cons_succ] at HM) | (refine jN ?_; first | (have q : dV HM = 0 := rfl; clear q HM; intro g1 u1 HG1 HM) | (have q : dV HM = 1 := rfl; clear q HM; intro g2 u2 HG2 HM) | (have q : dV HM = 2 := rfl; clear q HM; intro g3 u3 HG3 HM) | (have q : dV HM = 3 := rfl; clear q HM; intro g4 u4 HG4 HM) | (have q : dV HM = 4 := rfl; clear q HM; intro g5 u5 HG5 HM) | (have q : dV HM = 5 := rfl; clear q HM; intro g6 u6 HG6 HM) | (have q : dV HM = 6 := rfl; clear q HM; intro g7 u7 HG7 HM) | (have q : dV HM = 7 := rfl; clear q HM; intro g8 u8 HG8 HM) | (have q : dV HM = 8 := rfl; clear q HM; intro g9 u9 HG9 HM) | (have q : dV HM = 9 := rfl; clear q HM; intro g10 u10 HG10 HM) | (have q : dV HM = 10 := rfl; clear q HM; intro g11 u11 HG11 HM) | (have q : dV HM = 11 := rfl; clear q HM; intro g12 u12 HG12 HM) | (have q : dV HM = 12 := rfl; clear q HM; intro g13 u13 HG13 HM) | (have q : dV HM = 13 := rfl; clear q HM; intro g14 u14 HG14 HM)))
  have HM2 := Lib.hid HM.out.base
  clear HM
  go_loopw [62] (fun vi wr => ∃ (k m c0 c0' : Nat) (on : Bool) (nx dp dr : Int) (A0 A0' : Option Addr) (ls ls' : List Pk), vi = .int .i64 (k : Int) ∧ k ≤ n ∧ Hid (OkJ ⟨on, nx, dp, dr, ls.map pl⟩ ∧ NxB ⟨on, nx, dp, dr, ls.map pl⟩ ∧ ls'.map pl = ls.map pl) ∧ Hid (Kp (fun u => RdP u A0 m ls ∧ RdP u A0' m ls') [g2, g1] wr) ∧
    Hid (MV w wr [(g2, 24, #[.bool on, .int .i64 nx, .int .i64 dp, .int .i64 dr, .slice A0' m c0']), (g1, 24, #[.bool on, .int .i64 nx, .int .i64 dp, .int .i64 dr, .slice A0 m c0])] wr)) (fun vi _ => n - (intOf vi).toNat)
  case atStart => exact ⟨0, 0, 0, 0, false, 0, d1, 0, none, none, [], [], rfl, by omega, Lib.hid ⟨HOKN.out.1, HOKN.out.2, rfl⟩, Lib.hid (fun u _ => ⟨RdP.none_, RdP.none_⟩), HM2⟩
  case round =>
    clear HM2 HOKN
    obtain ⟨wb, rfl⟩ : ∃ wb, wb = wr := ⟨_, rfl⟩
    obtain ⟨k, m, c0, c0', on, nx, dp, dr, A0, A0', ls, ls', rfl, hk, HOK, HK, HM⟩ := hrel
    have HBU := Lib.hid HM.out.1
    by_cases hlt : k < n
    case neg =>
      obtain rfl : k = n := by omega
      go_wp2_with (first | (refine jL ?_) | (refine jS ?_; clear HM; intro us HM; simp only [List.set, List.setIfInBounds_toArray, List.set_cons_zero, List.set_cons_succ] at HM) | (refine jN ?_; first | (have q : dV HM = 0 := rfl; clear q HM; intro g1 u1 HG1 HM) | (have q : dV HM = 1 := rfl; clear q HM; intro g2 u2 HG2 HM) | (have q : dV HM = 2 := rfl; clear q HM; intro g3 u3 HG3 HM) | (have q : dV HM = 3 := rfl; clear q HM; intro g4 u4 HG4 HM) | (have q : dV HM = 4 := rfl; clear q HM; intro g5 u5 HG5 HM) | (have q : dV HM = 5 := rfl; clear q HM; intro g6 u6 HG6 HM) | (have q : dV HM = 6 := rfl; clear q HM; intro g7 u7 HG7 HM) | (have q : dV HM = 7 := rfl; clear q HM; intro g8 u8 HG8 HM) | (have q : dV HM = 8 := rfl; clear q HM; intro g9 u9 HG9 HM) | (have q : dV HM = 9 := rfl; clear q HM; intro g10 u10 HG10 HM) | (have q : dV HM = 10 := rfl; clear q HM; intro g11 u11 HG11 HM) | (have q : dV HM = 11 := rfl; clear q HM; intro g12 u12 HG12 HM) | (have q : dV HM = 12 := rfl; clear q HM; intro g13 u13 HG13 HM) | (have q : dV HM = 13 := rfl; clear q HM; intro g14 u14 HG14 HM)))
      go_ret
      exact ⟨rfl, HM.out.1⟩
    have kn : (k : Int) < (n : Int) := by omega
    obtain ⟨L, XA, xn, xc, xl, xp, rfl, hL, c1w, c2w, hrp, hsz, hcap, hp1, hp2⟩ := h.out.at5 hlt
    have c1 := (HM.out.1.cell (World.block_lt_of_cell? _ _ c1w)).trans c1w
    have c2 := (HM.out.1.cell (World.block_lt_of_cell? _ _ c2w)).trans c2w
    have hL2 : (L.add (k * 2)).block < wb.heap.size := by rw [block_of_add]; exact Nat.lt_of_lt_of_le hL HM.out.1.size
    obtain ⟨fb, hfb⟩ : ∃ fb, fb = (fewP ([] ++ xl) && decide (0 ≤ 100) && decide (xn ≤ 100)) := ⟨_, rfl⟩
    have HFB := Lib.hid hfb
    have HRP := Lib.hid hrp
    have HSZ := Lib.hid (show (0 + xn) * 32 ≤ 140737488355328 by omega)
    have HPX := Lib.hid (rem_is xp 20 (by omega) (by omega))
    clear hfb hrp hsz hL c1w c2w hp1 hp2
    go_wp2_with (first | (refine wv_alloc (by rfl) _ rfl rowOp HM ?_; clear HM; intro g3 u3 HG3 HM) | (refine wv_store (by rfl) _ _ _ rfl rfl rfl rowOp HM (by exact vidxOf) (by exact vsizOf) (by exact vsizOf) (by exact voneOf) ?_; clear HM; intro us HM; dsimp only [List.set] at HM) | (first | (refine jL ?_) | (refine jS ?_; clear HM; intro us HM; simp only [List.set, List.setIfInBounds_toArray, List.set_cons_zero, List.set_cons_succ] at HM) | (refine jN ?_; first | (have q : dV HM = 0 := rfl; clear q HM; intro g1 u1 HG1 HM) | (have q : dV HM = 1 := rfl; clear q HM; intro g2 u2 HG2 HM) | (have q : dV HM = 2 := rfl; clear q HM; intro g3 u3 HG3 HM) | (have q : dV HM = 3 := rfl; clear q HM; intro g4 u4 HG4 HM) | (have q : dV HM = 4 := rfl; clear q HM; intro g5 u5 HG5 HM) | (have q : dV HM = 5 := rfl; clear q HM; intro g6 u6 HG6 HM) | (have q : dV HM = 6 := rfl; clear q HM; intro g7 u7 HG7 HM) | (have q : dV HM = 7 := rfl; clear q HM; intro g8 u8 HG8 HM) | (have q : dV HM = 8 := rfl; clear q HM; intro g9 u9 HG9 HM) | (have q : dV HM = 9 := rfl; clear q HM; intro g10 u10 HG10 HM) | (have q : dV HM = 10 := rfl; clear q HM; intro g11 u11 HG11 HM) | (have q : dV HM = 11 := rfl; clear q HM; intro g12 u12 HG12 HM) | (have q : dV HM = 12 := rfl; clear q HM; intro g13 u13 HG13 HM) | (have q : dV HM = 13 := rfl; clear q HM; intro g14 u14 HG14 HM))))
    refine (few_any false 0 0 0 none 0 0 [] XA xn xc xl _ (Lib.hid RdP.none_) (Lib.hid (HRP.out.keep HM.out.1)) HSZ).mono ?_
    rw [← HFB.out]
    rintro e u4 ⟨rfl, hb⟩
    have HM2 := Lib.hid (HM.out.below hb)
    clear hb HM c1 c2 hL2
    have HM := HM2
    clear HM2
    cases fb with
    | false =>
      go_wp2_with (first | (refine jL ?_) | (refine jS ?_; clear HM; intro us HM; simp only [List.set, List.setIfInBounds_toArray, List.set_cons_zero, List.set_cons_succ] at HM) | (refine jN ?_; first | (have q : dV HM = 0 := rfl; clear q HM; intro g1 u1 HG1 HM) | (have q : dV HM = 1 := rfl; clear q HM; intro g2 u2 HG2 HM) | (have q : dV HM = 2 := rfl; clear q HM; intro g3 u3 HG3 HM) | (have q : dV HM = 3 := rfl; clear q HM; intro g4 u4 HG4 HM) | (have q : dV HM = 4 := rfl; clear q HM; intro g5 u5 HG5 HM) | (have q : dV HM = 5 := rfl; clear q HM; intro g6 u6 HG6 HM) | (have q : dV HM = 6 := rfl; clear q HM; intro g7 u7 HG7 HM) | (have q : dV HM = 7 := rfl; clear q HM; intro g8 u8 HG8 HM) | (have q : dV HM = 8 := rfl; clear q HM; intro g9 u9 HG9 HM) | (have q : dV HM = 9 := rfl; clear q HM; intro g10 u10 HG10 HM) | (have q : dV HM = 10 := rfl; clear q HM; intro g11 u11 HG11 HM) | (have q : dV HM = 11 := rfl; clear q HM; intro g12 u12 HG12 HM) | (have q : dV HM = 12 := rfl; clear q HM; intro g13 u13 HG13 HM) | (have q : dV HM = 13 := rfl; clear q HM; intro g14 u14 HG14 HM)))
      go_ret
      exact ⟨rfl, HM.out.1⟩
    | true =>
    have hx100 : xn ≤ 100 := by
      have := HFB.out.symm
      simp only [Bool.and_eq_true, decide_eq_true_iff] at this
      exact this.2
    have hx8 : (xn : Int) ≤ 100 := by omega
    have hm64 : m ≤ 64 := by
      have := okJ_len HOK.out.1
      simp only [List.length_map, HK.out.now.1.1] at this
      exact this
    clear HFB
    go_wp2_with (first | (refine jL ?_) | (refine jS ?_; clear HM; intro us HM; simp only [List.set, List.setIfInBounds_toArray, List.set_cons_zero, List.set_cons_succ] at HM) | (refine jN ?_; first | (have q : dV HM = 0 := rfl; clear q HM; intro g1 u1 HG1 HM) | (have q : dV HM = 1 := rfl; clear q HM; intro g2 u2 HG2 HM) | (have q : dV HM = 2 := rfl; clear q HM; intro g3 u3 HG3 HM) | (have q : dV HM = 3 := rfl; clear q HM; intro g4 u4 HG4 HM) | (have q : dV HM = 4 := rfl; clear q HM; intro g5 u5 HG5 HM) | (have q : dV HM = 5 := rfl; clear q HM; intro g6 u6 HG6 HM) | (have q : dV HM = 6 := rfl; clear q HM; intro g7 u7 HG7 HM) | (have q : dV HM = 7 := rfl; clear q HM; intro g8 u8 HG8 HM) | (have q : dV HM = 8 := rfl; clear q HM; intro g9 u9 HG9 HM) | (have q : dV HM = 9 := rfl; clear q HM; intro g10 u10 HG10 HM) | (have q : dV HM = 10 := rfl; clear q HM; intro g11 u11 HG11 HM) | (have q : dV HM = 11 := rfl; clear q HM; intro g12 u12 HG12 HM) | (have q : dV HM = 12 := rfl; clear q HM; intro g13 u13 HG13 HM) | (have q : dV HM = 13 := rfl; clear q HM; intro g14 u14 HG14 HM)))
    have HM3 := HM
    clear HM
    -- of one number there is one packet alone
    go_loopw [75] (fun vi wr' => ∃ i : Nat, vi = .int .i64 (i : Int) ∧ i ≤ xn ∧ Hid (∀ a b p q, b < a → a < i → xl[a]? = some p → xl[b]? = some q → p.s ≠ q.s) ∧ Hid (MV w wb [(g3, 34, #[.slice XA xn xc, .int .i64 xp]), (g2, 24, #[.bool on, .int .i64 nx, .int .i64 dp, .int .i64 dr, .slice A0' m c0']), (g1, 24, #[.bool on, .int .i64 nx, .int .i64 dp, .int .i64 dr, .slice A0 m c0])] wr')) (fun vi _ => xn - (intOf vi).toNat)
    case atStart => exact ⟨0, rfl, by omega, Lib.hid (fun a b p q h1 h2 => absurd h2 (by omega)), HM3⟩
    case round =>
      clear HM3
      obtain ⟨i, rfl, hi, HD, HM⟩ := hrel
      by_cases hlt2 : i < xn
      · have ki : (i : Int) < (xn : Int) := by omega
        have kic : (i : Int) ≤ (xc : Int) := by omega
        obtain ⟨X, y, rfl, hXB, hy, -, -, -, -⟩ := HRP.out.at_ hlt2
        have HY := Lib.hid hy
        clear hy
        go_wp2_with (first | (refine wv_ldP (by rfl) _ rfl rfl (Lib.hid ((HRP.out.keep HM.out.1).two HY.out)) ?_) | (first | (refine jL ?_) | (refine jS ?_; clear HM; intro us HM; simp only [List.set, List.setIfInBounds_toArray, List.set_cons_zero, List.set_cons_succ] at HM) | (refine jN ?_; first | (have q : dV HM = 0 := rfl; clear q HM; intro g1 u1 HG1 HM) | (have q : dV HM = 1 := rfl; clear q HM; intro g2 u2 HG2 HM) | (have q : dV HM = 2 := rfl; clear q HM; intro g3 u3 HG3 HM) | (have q : dV HM = 3 := rfl; clear q HM; intro g4 u4 HG4 HM) | (have q : dV HM = 4 := rfl; clear q HM; intro g5 u5 HG5 HM) | (have q : dV HM = 5 := rfl; clear q HM; intro g6 u6 HG6 HM) | (have q : dV HM = 6 := rfl; clear q HM; intro g7 u7 HG7 HM) | (have q : dV HM = 7 := rfl; clear q HM; intro g8 u8 HG8 HM) | (have q : dV HM = 8 := rfl; clear q HM; intro g9 u9 HG9 HM) | (have q : dV HM = 9 := rfl; clear q HM; intro g10 u10 HG10 HM) | (have q : dV HM = 10 := rfl; clear q HM; intro g11 u11 HG11 HM) | (have q : dV HM = 11 := rfl; clear q HM; intro g12 u12 HG12 HM) | (have q : dV HM = 12 := rfl; clear q HM; intro g13 u13 HG13 HM) | (have q : dV HM = 13 := rfl; clear q HM; intro g14 u14 HG14 HM))))
        have HM4 := HM
        clear HM
        go_loopw [85] (fun vi wr'' => ∃ j : Nat, vi = .int .i64 (j : Int) ∧ j ≤ i ∧ Hid (∀ b q, b < j → xl[b]? = some q → y.s ≠ q.s) ∧ Hid (MV w wb [(g4, 46, #[.int .i64 y.s, .slice y.A y.n y.c]), (g3, 34, #[.slice (some X) xn xc, .int .i64 xp]), (g2, 24, #[.bool on, .int .i64 nx, .int .i64 dp, .int .i64 dr, .slice A0' m c0']), (g1, 24, #[.bool on, .int .i64 nx, .int .i64 dp, .int .i64 dr, .slice A0 m c0])] wr'')) (fun vi _ => i - (intOf vi).toNat)
        case atStart => exact ⟨0, rfl, by omega, Lib.hid (fun b q h1 => absurd h1 (by omega)), HM4⟩
        case round =>
          clear HM4
          obtain ⟨j, rfl, hj, HE, HM⟩ := hrel
          by_cases hlt3 : j < i
          · have kj : (j : Int) < (i : Int) := by omega
            obtain ⟨X', z, hXX, -, hz, -, -, -, -⟩ := HRP.out.at_ (k := j) (by omega)
            have HZ := Lib.hid hz
            clear hz hXX
            by_cases he : y.s = z.s
            · have d0 : (y.s == z.s) = true := by simpa using he
              clear he
              go_wp2_with (first | (refine wv_ldP (by rfl) _ rfl rfl (Lib.hid ((HRP.out.keep HM.out.1).two HZ.out)) ?_) | (first | (refine jL ?_) | (refine jS ?_; clear HM; intro us HM; simp only [List.set, List.setIfInBounds_toArray, List.set_cons_zero, List.set_cons_succ] at HM) | (refine jN ?_; first | (have q : dV HM = 0 := rfl; clear q HM; intro g1 u1 HG1 HM) | (have q : dV HM = 1 := rfl; clear q HM; intro g2 u2 HG2 HM) | (have q : dV HM = 2 := rfl; clear q HM; intro g3 u3 HG3 HM) | (have q : dV HM = 3 := rfl; clear q HM; intro g4 u4 HG4 HM) | (have q : dV HM = 4 := rfl; clear q HM; intro g5 u5 HG5 HM) | (have q : dV HM = 5 := rfl; clear q HM; intro g6 u6 HG6 HM) | (have q : dV HM = 6 := rfl; clear q HM; intro g7 u7 HG7 HM) | (have q : dV HM = 7 := rfl; clear q HM; intro g8 u8 HG8 HM) | (have q : dV HM = 8 := rfl; clear q HM; intro g9 u9 HG9 HM) | (have q : dV HM = 9 := rfl; clear q HM; intro g10 u10 HG10 HM) | (have q : dV HM = 10 := rfl; clear q HM; intro g11 u11 HG11 HM) | (have q : dV HM = 11 := rfl; clear q HM; intro g12 u12 HG12 HM) | (have q : dV HM = 12 := rfl; clear q HM; intro g13 u13 HG13 HM) | (have q : dV HM = 13 := rfl; clear q HM; intro g14 u14 HG14 HM))))
              go_ret
              exact ⟨rfl, HM.out.1⟩
            · have d0 : (y.s == z.s) = false := by simpa using he
              have HNE := Lib.hid he
              clear he
              go_wp2_with (first | (refine wv_ldP (by rfl) _ rfl rfl (Lib.hid ((HRP.out.keep HM.out.1).two HZ.out)) ?_) | (first | (refine jL ?_) | (refine jS ?_; clear HM; intro us HM; simp only [List.set, List.setIfInBounds_toArray, List.set_cons_zero, List.set_cons_succ] at HM) | (refine jN ?_; first | (have q : dV HM = 0 := rfl; clear q HM; intro g1 u1 HG1 HM) | (have q : dV HM = 1 := rfl; clear q HM; intro g2 u2 HG2 HM) | (have q : dV HM = 2 := rfl; clear q HM; intro g3 u3 HG3 HM) | (have q : dV HM = 3 := rfl; clear q HM; intro g4 u4 HG4 HM) | (have q : dV HM = 4 := rfl; clear q HM; intro g5 u5 HG5 HM) | (have q : dV HM = 5 := rfl; clear q HM; intro g6 u6 HG6 HM) | (have q : dV HM = 6 := rfl; clear q HM; intro g7 u7 HG7 HM) | (have q : dV HM = 7 := rfl; clear q HM; intro g8 u8 HG8 HM) | (have q : dV HM = 8 := rfl; clear q HM; intro g9 u9 HG9 HM) | (have q : dV HM = 9 := rfl; clear q HM; intro g10 u10 HG10 HM) | (have q : dV HM = 10 := rfl; clear q HM; intro g11 u11 HG11 HM) | (have q : dV HM = 11 := rfl; clear q HM; intro g12 u12 HG12 HM) | (have q : dV HM = 12 := rfl; clear q HM; intro g13 u13 HG13 HM) | (have q : dV HM = 13 := rfl; clear q HM; intro g14 u14 HG14 HM))))
              go_roundw
              case rel =>
                refine ⟨j + 1, by first | rfl | go_num, by omega, Lib.hid fun b q hb hq => ?_, Lib.hid (HM.out.pop HG5.out)⟩
                by_cases hbj : b < j
                · exact HE.out b q hbj hq
                · obtain rfl : b = j := by omega
                  rw [HZ.out] at hq
                  injection hq with hq
                  rw [← hq]
                  exact HNE.out
              case measure => simp [intOf]; omega
          · obtain rfl : j = i := by omega
            have hjj : ¬ ((j : Int) < (j : Int)) := by omega
            clear hlt3
            go_wp2_with (first | (refine jL ?_) | (refine jS ?_; clear HM; intro us HM; simp only [List.set, List.setIfInBounds_toArray, List.set_cons_zero, List.set_cons_succ] at HM) | (refine jN ?_; first | (have q : dV HM = 0 := rfl; clear q HM; intro g1 u1 HG1 HM) | (have q : dV HM = 1 := rfl; clear q HM; intro g2 u2 HG2 HM) | (have q : dV HM = 2 := rfl; clear q HM; intro g3 u3 HG3 HM) | (have q : dV HM = 3 := rfl; clear q HM; intro g4 u4 HG4 HM) | (have q : dV HM = 4 := rfl; clear q HM; intro g5 u5 HG5 HM) | (have q : dV HM = 5 := rfl; clear q HM; intro g6 u6 HG6 HM) | (have q : dV HM = 6 := rfl; clear q HM; intro g7 u7 HG7 HM) | (have q : dV HM = 7 := rfl; clear q HM; intro g8 u8 HG8 HM) | (have q : dV HM = 8 := rfl; clear q HM; intro g9 u9 HG9 HM) | (have q : dV HM = 9 := rfl; clear q HM; intro g10 u10 HG10 HM) | (have q : dV HM = 10 := rfl; clear q HM; intro g11 u11 HG11 HM) | (have q : dV HM = 11 := rfl; clear q HM; intro g12 u12 HG12 HM) | (have q : dV HM = 12 := rfl; clear q HM; intro g13 u13 HG13 HM) | (have q : dV HM = 13 := rfl; clear q HM; intro g14 u14 HG14 HM)))
            go_roundw
            case rel =>
              refine ⟨j + 1, by first | rfl | go_num, by omega, Lib.hid fun a b p q hb ha hp hq => ?_, Lib.hid (HM.out.pop HG4.out)⟩
              by_cases haj : a < j
              · exact HD.out a b p q hb haj hp hq
              · obtain rfl : a = j := by omega
                rw [HY.out] at hp
                injection hp with hp
                rw [← hp]
                exact HE.out b q hb hq
            case measure => simp [intOf]; omega
      · obtain rfl : i = xn := by omega
        have HDIST := Lib.hid (show (xl.map pl).Pairwise (fun a b => a.1 ≠ b.1) from List.pairwise_iff_getElem.2 fun b a hb ha hba => by
          rw [List.length_map] at hb ha
          rw [List.getElem_map, List.getElem_map]
          exact fun e => HD.out a b _ _ hba (by rw [← HRP.out.1]; exact ha) (List.getElem?_eq_getElem ha) (List.getElem?_eq_getElem hb) e.symm)
        have hii : ¬ ((i : Int) < (i : Int)) := by omega
        clear hlt2 HD hi
        go_wp2_with (first | (first | (refine jL ?_) | (refine jS ?_; clear HM; intro us HM; simp only [List.set, List.setIfInBounds_toArray, List.set_cons_zero, List.set_cons_succ] at HM) | (refine jN ?_; first | (have q : dV HM = 0 := rfl; clear q HM; intro g1 u1 HG1 HM) | (have q : dV HM = 1 := rfl; clear q HM; intro g2 u2 HG2 HM) | (have q : dV HM = 2 := rfl; clear q HM; intro g3 u3 HG3 HM) | (have q : dV HM = 3 := rfl; clear q HM; intro g4 u4 HG4 HM) | (have q : dV HM = 4 := rfl; clear q HM; intro g5 u5 HG5 HM) | (have q : dV HM = 5 := rfl; clear q HM; intro g6 u6 HG6 HM) | (have q : dV HM = 6 := rfl; clear q HM; intro g7 u7 HG7 HM) | (have q : dV HM = 7 := rfl; clear q HM; intro g8 u8 HG8 HM) | (have q : dV HM = 8 := rfl; clear q HM; intro g9 u9 HG9 HM) | (have q : dV HM = 9 := rfl; clear q HM; intro g10 u10 HG10 HM) | (have q : dV HM = 10 := rfl; clear q HM; intro g11 u11 HG11 HM) | (have q : dV HM = 11 := rfl; clear q HM; intro g12 u12 HG12 HM) | (have q : dV HM = 12 := rfl; clear q HM; intro g13 u13 HG13 HM) | (have q : dV HM = 13 := rfl; clear q HM; intro g14 u14 HG14 HM))) | (refine wv_app (by rfl) _ _ rfl (v := .slice none 0 0) rfl rfl (k := 0) (xs := []) (Lib.hid ⟨rfl, .inl ⟨rfl, rfl⟩⟩) (Lib.hid (HRP.out.keep HM.out.1)) HSZ (Lib.hid (Nat.le_refl _)) ?_; intro v1 w1 HOA HGA; obtain ⟨Av, cv, hv1, hT1⟩ := turn_start HM.out HOA.out HGA.out HRP.out; have HT1 := Lib.hid hT1; clear hT1 HOA HGA HM; subst hv1))
        go_loopw [102] (fun vi wr' => ∃ t : Nat, vi = .int .i64 (t : Int) ∧ t ≤ nt ∧ Hid (TurnI w wb [(g3, 34, #[.slice XA i xc, .int .i64 xp]), (g2, 24, #[.bool on, .int .i64 nx, .int .i64 dp, .int .i64 dr, .slice A0' m c0']), (g1, 24, #[.bool on, .int .i64 nx, .int .i64 dp, .int .i64 dr, .slice A0 m c0])] Av i cv xl wr')) (fun vi _ => nt - (intOf vi).toNat)
        case atStart => exact ⟨0, rfl, by omega, HT1⟩
        case round =>
          clear HT1
          obtain ⟨t, rfl, hti, HT⟩ := hrel
          by_cases hlt4 : t < nt
          · have kt : (t : Int) < (nt : Int) := by omega
            obtain ⟨bd, rfl, hbd, hbc⟩ := ht.out.at_ hlt4
            obtain ⟨tv, htv⟩ : ∃ tv, ts.getD t 0 = tv := ⟨_, rfl⟩
            have htb := hts.out tv (by
              have hl : t < ts.length := by rw [ht.out.1]; exact hlt4
              rw [← htv, List.getD_eq_getElem?_getD, List.getElem?_eq_getElem hl]
              exact List.getElem_mem hl)
            have hbc2 := ht.out.cell hlt4
            rw [htv] at hbc2
            clear hbc htv
            obtain ⟨lp, hp, hm, hor⟩ := HT.out
            rcases Nat.eq_zero_or_pos i with h0 | hi0
            · subst h0
              clear hor
              have hbc3 := (hm.1.cell (World.block_lt_of_cell? _ _ hbc2)).trans hbc2
              have HHT := HT
              clear hbc2 hm hp htb HT
              go_wp2_with fail
              go_roundw
              case rel => exact ⟨t + 1, by first | rfl | go_num, by omega, HHT⟩
              case measure => simp [intOf]; omega
            · obtain ⟨gT, cs, rfl, hgT, hro, hm2⟩ := hor.resolve_left (by omega)
              have hbc3 := (hm.1.cell (World.block_lt_of_cell? _ _ hbc2)).trans hbc2
              have HM := Lib.hid hm2
              have HRO := Lib.hid hro
              have HPM := Lib.hid hp
              have HGT := Lib.hid hgT
              obtain ⟨a, ha1, ha2⟩ := rem_nat t i hi0
              obtain ⟨R1, b, r1, r2, r3, r4, -, r6⟩ := rem_is tv (i : Int) (by omega) (by omega)
              have hb2 : b < i := by omega
              have ai : (a : Int) < (i : Int) := by omega
              have bi : (b : Int) < (i : Int) := by omega
              have i0 : (0 : Int) < (i : Int) := by omega
              have i00 : ¬ (i : Int) = 0 := by omega
              clear hbc2 hm hp hro hgT hm2 HT
              go_wp2_with (first | (refine jL ?_) | (refine jS ?_; clear HM; intro us HM; simp only [List.set, List.setIfInBounds_toArray, List.set_cons_zero, List.set_cons_succ] at HM) | (refine jN ?_; first | (have q : dV HM = 0 := rfl; clear q HM; intro g1 u1 HG1 HM) | (have q : dV HM = 1 := rfl; clear q HM; intro g2 u2 HG2 HM) | (have q : dV HM = 2 := rfl; clear q HM; intro g3 u3 HG3 HM) | (have q : dV HM = 3 := rfl; clear q HM; intro g4 u4 HG4 HM) | (have q : dV HM = 4 := rfl; clear q HM; intro g5 u5 HG5 HM) | (have q : dV HM = 5 := rfl; clear q HM; intro g6 u6 HG6 HM) | (have q : dV HM = 6 := rfl; clear q HM; intro g7 u7 HG7 HM) | (have q : dV HM = 7 := rfl; clear q HM; intro g8 u8 HG8 HM) | (have q : dV HM = 8 := rfl; clear q HM; intro g9 u9 HG9 HM) | (have q : dV HM = 9 := rfl; clear q HM; intro g10 u10 HG10 HM) | (have q : dV HM = 10 := rfl; clear q HM; intro g11 u11 HG11 HM) | (have q : dV HM = 11 := rfl; clear q HM; intro g12 u12 HG12 HM) | (have q : dV HM = 12 := rfl; clear q HM; intro g13 u13 HG13 HM) | (have q : dV HM = 13 := rfl; clear q HM; intro g14 u14 HG14 HM)))
              obtain ⟨px, hpx⟩ : ∃ px, lp[a]? = some px := ⟨_, List.getElem?_eq_getElem (by rw [HPM.out.length_eq, HRP.out.1]; exact ha2)⟩
              obtain ⟨py, hpy⟩ : ∃ py, lp[b]? = some py := ⟨_, List.getElem?_eq_getElem (by rw [HPM.out.length_eq, HRP.out.1]; exact hb2)⟩
              have HSW := Lib.hid (HRO.out.swap hpx hpy)
              have hca := HRO.out.at_ hpx
              have hcb := HRO.out.at_ hpy
              have HSZA := Lib.hid (show a * 2 + 1 < cs.size by
                have h1 := HRO.out.2.2.1
                have h2 := HRO.out.1
                have h3 := HPM.out.length_eq
                have h4 := HRP.out.1
                omega)
              have HSZB := Lib.hid (show b * 2 + 1 < ((cs.setIfInBounds (a * 2) (.int .i64 py.s)).setIfInBounds (a * 2 + 1) (.slice py.A py.n py.c)).size by
                have h1 := HRO.out.2.2.1
                have h2 := HRO.out.1
                have h3 := HPM.out.length_eq
                have h4 := HRP.out.1
                simp only [Array.size_setIfInBounds]
                omega)
              have HM9 := HM
              have HLA := Lib.hid (fun (u : World) (hu : MV w wb ((gT, 46, cs) :: [(g3, 34, #[.slice XA i xc, .int .i64 xp]), (g2, 24, #[.bool on, .int .i64 nx, .int .i64 dp, .int .i64 dr, .slice A0' m c0']), (g1, 24, #[.bool on, .int .i64 nx, .int .i64 dp, .int .i64 dr, .slice A0 m c0])]) u) => run_load_pk (ad := ⟨gT, a * 2, none⟩) ((hu.get (.head _)).cell (a * 2) |>.trans hca.1) ((hu.get (.head _)).cell (a * 2 + 1) |>.trans hca.2))
              have HLB := Lib.hid (fun (u : World) (hu : MV w wb ((gT, 46, cs) :: [(g3, 34, #[.slice XA i xc, .int .i64 xp]), (g2, 24, #[.bool on, .int .i64 nx, .int .i64 dp, .int .i64 dr, .slice A0' m c0']), (g1, 24, #[.bool on, .int .i64 nx, .int .i64 dp, .int .i64 dr, .slice A0 m c0])]) u) => run_load_pk (ad := ⟨gT, b * 2, none⟩) ((hu.get (.head _)).cell (b * 2) |>.trans hcb.1) ((hu.get (.head _)).cell (b * 2 + 1) |>.trans hcb.2))
              clear hpx hpy hca hcb
              refine wp_region_held_drew (S := MV w wb [(g3, 34, #[.slice XA i xc, .int .i64 xp]), (g2, 24, #[.bool on, .int .i64 nx, .int .i64 dp, .int .i64 dr, .slice A0' m c0']), (g1, 24, #[.bool on, .int .i64 nx, .int .i64 dp, .int .i64 dr, .slice A0 m c0])]) (by kernel_rfl) (HM.out.pop HGT.out).drew (fun hHeld => ?_)
              have HM8 := Lib.hid HM.out.drew
              clear HM HM9
              have HM := HM8
              clear HM8
              generalize World.drew _ = v0 at HM hHeld ⊢
              have GA : (⟨gT, 0, none⟩ : Addr).add (a * 2) = ⟨gT, a * 2, none⟩ := add_own _ _
              have GB : (⟨gT, 0, none⟩ : Addr).add (b * 2) = ⟨gT, b * 2, none⟩ := add_own _ _
              (refine wa_take (i := 0) (v := .slice (some ⟨gT, 0, none⟩) i cv) rfl (by kernel_rfl) (by kernel_rfl) (by kernel_rfl) (fun _ _ _ h => h) (yi_free rfl (fun u => rfl)) hHeld rfl ?_; (try simp only [Act.put, List.setIfInBounds_toArray, List.set_cons_zero, List.set_cons_succ]))
              (refine wa_take (i := 1) (v := .int .i64 (a : Int)) rfl (by kernel_rfl) (by kernel_rfl) (by kernel_rfl) (fun _ _ _ h => h) (yi_free rfl (fun u => rfl)) hHeld rfl ?_; (try simp only [Act.put, List.setIfInBounds_toArray, List.set_cons_zero, List.set_cons_succ]))
              (refine wa_take (i := 2) (v := .slice (some ⟨gT, 0, none⟩) i cv) rfl (by kernel_rfl) (by kernel_rfl) (by kernel_rfl) (fun _ _ _ h => h) (yi_free rfl (fun u => rfl)) hHeld rfl ?_; (try simp only [Act.put, List.setIfInBounds_toArray, List.set_cons_zero, List.set_cons_succ]))
              (refine wa_take (i := 3) (v := .int .i64 (b : Int)) rfl (by kernel_rfl) (by kernel_rfl) (by kernel_rfl) (fun _ _ _ h => h) (yi_free rfl (fun u => rfl)) hHeld rfl ?_; (try simp only [Act.put, List.setIfInBounds_toArray, List.set_cons_zero, List.set_cons_succ]))
              (refine wa_take (i := 4) (v := .slice (some ⟨gT, 0, none⟩) i cv) rfl (by kernel_rfl) (by kernel_rfl) (by kernel_rfl) (fun _ _ _ h => h) (yi_free rfl (fun u => rfl)) hHeld rfl ?_; (try simp only [Act.put, List.setIfInBounds_toArray, List.set_cons_zero, List.set_cons_succ]))
              (refine wa_take (i := 5) (v := .int .i64 (b : Int)) rfl (by kernel_rfl) (by kernel_rfl) (by kernel_rfl) (fun _ _ _ h => h) (yi_free rfl (fun u => rfl)) hHeld rfl ?_; (try simp only [Act.put, List.setIfInBounds_toArray, List.set_cons_zero, List.set_cons_succ]))
              (refine wa_take (i := 6) (v := .pointer (some ⟨gT, b * 2, none⟩)) rfl (by kernel_rfl) (by kernel_rfl) (by kernel_rfl) (fun _ _ _ h => h) (yi_free rfl (fun u => by rw [← GB]; go_simp)) hHeld rfl ?_; (try simp only [Act.put, List.setIfInBounds_toArray, List.set_cons_zero, List.set_cons_succ]))
              (refine wa_take (i := 8) (v := .slice (some ⟨gT, 0, none⟩) i cv) rfl (by kernel_rfl) (by kernel_rfl) (by kernel_rfl) (fun _ _ _ h => h) (yi_free rfl (fun u => rfl)) hHeld rfl ?_; (try simp only [Act.put, List.setIfInBounds_toArray, List.set_cons_zero, List.set_cons_succ]))
              (refine wa_take (i := 9) (v := .int .i64 (a : Int)) rfl (by kernel_rfl) (by kernel_rfl) (by kernel_rfl) (fun _ _ _ h => h) (yi_free rfl (fun u => rfl)) hHeld rfl ?_; (try simp only [Act.put, List.setIfInBounds_toArray, List.set_cons_zero, List.set_cons_succ]))
              (refine wa_take (i := 10) (v := .pointer (some ⟨gT, a * 2, none⟩)) rfl (by kernel_rfl) (by kernel_rfl) (by kernel_rfl) (fun _ _ _ h => h) (yi_free rfl (fun u => by rw [← GA]; go_simp)) hHeld rfl ?_; (try simp only [Act.put, List.setIfInBounds_toArray, List.set_cons_zero, List.set_cons_succ]))
              refine wpAnyH_ready (rs := [7, 11]) (by kernel_rfl) (by simp) ?_; refine AllReadyH.cons rfl (fun K hK => ?_) (AllReadyH.cons rfl (fun K hK => ?_) (AllReadyH.nil))
              · rw [if_pos (by rfl)]
                refine ov_load _ _ rfl rfl (HLB.out _ HM.out) ?_
                clear hHeld
                refine hK.out _ _ (HM.out.pop HGT.out) (fun hHeld => ?_)
                clear hK K
                (try simp only [Act.put, List.setIfInBounds_toArray, List.set_cons_zero, List.set_cons_succ])
                refine wpAnyH_ready (rs := [11]) (by kernel_rfl) (by simp) ?_; refine AllReadyH.cons rfl (fun K hK => ?_) (AllReadyH.nil)
                rw [if_pos (by rfl)]
                refine ov_load _ _ rfl rfl (HLA.out _ HM.out) ?_
                clear hHeld
                refine hK.out _ _ (HM.out.pop HGT.out) (fun hHeld => ?_)
                clear hK K
                (try simp only [Act.put, List.setIfInBounds_toArray, List.set_cons_zero, List.set_cons_succ])
                (refine wa_take (i := 12) (v := .pointer (some ⟨gT, a * 2, none⟩)) rfl (by kernel_rfl) (by kernel_rfl) (by kernel_rfl) (fun _ _ _ h => h) (yi_free rfl (fun u => by rw [← GA]; go_simp)) hHeld rfl ?_; (try simp only [Act.put, List.setIfInBounds_toArray, List.set_cons_zero, List.set_cons_succ]))
                refine wpAnyH_ready (rs := [13]) (by kernel_rfl) (by simp) ?_; refine AllReadyH.cons rfl (fun K hK => ?_) (AllReadyH.nil)
                rw [if_pos (by rfl)]
                refine ov_stP (g := gT) (k := a * 2) (s := py.s) (A := py.A) (n := py.n) (c := py.c) (cs := cs) _ _ rfl rfl rfl HM HSZA rfl ?_
                intro v2 HM2
                clear HM
                have HM := HM2
                clear HM2
                clear hHeld
                refine hK.out _ _ (HM.out.pop HGT.out) (fun hHeld => ?_)
                clear hK K
                (try simp only [Act.put, List.setIfInBounds_toArray, List.set_cons_zero, List.set_cons_succ])
                (refine wa_take (i := 14) (v := .pointer (some ⟨gT, b * 2, none⟩)) rfl (by kernel_rfl) (by kernel_rfl) (by kernel_rfl) (fun _ _ _ h => h) (yi_free rfl (fun u => by rw [← GB]; go_simp)) hHeld rfl ?_; (try simp only [Act.put, List.setIfInBounds_toArray, List.set_cons_zero, List.set_cons_succ]))
                refine wpAnyH_ready (rs := [15]) (by kernel_rfl) (by simp) ?_; refine AllReadyH.cons rfl (fun K hK => ?_) (AllReadyH.nil)
                rw [if_pos (by rfl)]
                refine ov_stP (g := gT) (k := b * 2) (s := px.s) (A := px.A) (n := px.n) (c := px.c) _ _ rfl rfl rfl HM HSZB rfl ?_
                intro v3 HM2
                clear HM
                have HM := HM2
                clear HM2
                clear hHeld
                refine hK.out _ _ (HM.out.pop HGT.out) (fun hHeld => ?_)
                clear hK K
                (try simp only [Act.put, List.setIfInBounds_toArray, List.set_cons_zero, List.set_cons_succ])
                refine wpAnyH_done (by kernel_rfl) ?_ _
                go_wp2_with (first | (refine jL ?_) | (refine jS ?_; clear HM; intro us HM; simp only [List.set, List.setIfInBounds_toArray, List.set_cons_zero, List.set_cons_succ] at HM) | (refine jN ?_; first | (have q : dV HM = 0 := rfl; clear q HM; intro g1 u1 HG1 HM) | (have q : dV HM = 1 := rfl; clear q HM; intro g2 u2 HG2 HM) | (have q : dV HM = 2 := rfl; clear q HM; intro g3 u3 HG3 HM) | (have q : dV HM = 3 := rfl; clear q HM; intro g4 u4 HG4 HM) | (have q : dV HM = 4 := rfl; clear q HM; intro g5 u5 HG5 HM) | (have q : dV HM = 5 := rfl; clear q HM; intro g6 u6 HG6 HM) | (have q : dV HM = 6 := rfl; clear q HM; intro g7 u7 HG7 HM) | (have q : dV HM = 7 := rfl; clear q HM; intro g8 u8 HG8 HM) | (have q : dV HM = 8 := rfl; clear q HM; intro g9 u9 HG9 HM) | (have q : dV HM = 9 := rfl; clear q HM; intro g10 u10 HG10 HM) | (have q : dV HM = 10 := rfl; clear q HM; intro g11 u11 HG11 HM) | (have q : dV HM = 11 := rfl; clear q HM; intro g12 u12 HG12 HM) | (have q : dV HM = 12 := rfl; clear q HM; intro g13 u13 HG13 HM) | (have q : dV HM = 13 := rfl; clear q HM; intro g14 u14 HG14 HM)))
                go_roundw
                case rel => exact ⟨t + 1, by first | rfl | go_num, by omega, Lib.hid ⟨_, HSW.out.2.trans HPM.out, HM.out.pop HGT.out, .inr ⟨gT, _, rfl, HGT.out, HSW.out.1, HM.out⟩⟩⟩
                case measure => simp [intOf]; omega
              · rw [if_pos (by rfl)]
                refine ov_load _ _ rfl rfl (HLA.out _ HM.out) ?_
                clear hHeld
                refine hK.out _ _ (HM.out.pop HGT.out) (fun hHeld => ?_)
                clear hK K
                (try simp only [Act.put, List.setIfInBounds_toArray, List.set_cons_zero, List.set_cons_succ])
                refine wpAnyH_ready (rs := [7]) (by kernel_rfl) (by simp) ?_; refine AllReadyH.cons rfl (fun K hK => ?_) (AllReadyH.nil)
                rw [if_pos (by rfl)]
                refine ov_load _ _ rfl rfl (HLB.out _ HM.out) ?_
                clear hHeld
                refine hK.out _ _ (HM.out.pop HGT.out) (fun hHeld => ?_)
                clear hK K
                (try simp only [Act.put, List.setIfInBounds_toArray, List.set_cons_zero, List.set_cons_succ])
                (refine wa_take (i := 12) (v := .pointer (some ⟨gT, a * 2, none⟩)) rfl (by kernel_rfl) (by kernel_rfl) (by kernel_rfl) (fun _ _ _ h => h) (yi_free rfl (fun u => by rw [← GA]; go_simp)) hHeld rfl ?_; (try simp only [Act.put, List.setIfInBounds_toArray, List.set_cons_zero, List.set_cons_succ]))
                refine wpAnyH_ready (rs := [13]) (by kernel_rfl) (by simp) ?_; refine AllReadyH.cons rfl (fun K hK => ?_) (AllReadyH.nil)
                rw [if_pos (by rfl)]
                refine ov_stP (g := gT) (k := a * 2) (s := py.s) (A := py.A) (n := py.n) (c := py.c) (cs := cs) _ _ rfl rfl rfl HM HSZA rfl ?_
                intro v2 HM2
                clear HM
                have HM := HM2
                clear HM2
                clear hHeld
                refine hK.out _ _ (HM.out.pop HGT.out) (fun hHeld => ?_)
                clear hK K
                (try simp only [Act.put, List.setIfInBounds_toArray, List.set_cons_zero, List.set_cons_succ])
                (refine wa_take (i := 14) (v := .pointer (some ⟨gT, b * 2, none⟩)) rfl (by kernel_rfl) (by kernel_rfl) (by kernel_rfl) (fun _ _ _ h => h) (yi_free rfl (fun u => by rw [← GB]; go_simp)) hHeld rfl ?_; (try simp only [Act.put, List.setIfInBounds_toArray, List.set_cons_zero, List.set_cons_succ]))
                refine wpAnyH_ready (rs := [15]) (by kernel_rfl) (by simp) ?_; refine AllReadyH.cons rfl (fun K hK => ?_) (AllReadyH.nil)
                rw [if_pos (by rfl)]
                refine ov_stP (g := gT) (k := b * 2) (s := px.s) (A := px.A) (n := px.n) (c := px.c) _ _ rfl rfl rfl HM HSZB rfl ?_
                intro v3 HM2
                clear HM
                have HM := HM2
                clear HM2
                clear hHeld
                refine hK.out _ _ (HM.out.pop HGT.out) (fun hHeld => ?_)
                clear hK K
                (try simp only [Act.put, List.setIfInBounds_toArray, List.set_cons_zero, List.set_cons_succ])
                refine wpAnyH_done (by kernel_rfl) ?_ _
                go_wp2_with (first | (refine jL ?_) | (refine jS ?_; clear HM; intro us HM; simp only [List.set, List.setIfInBounds_toArray, List.set_cons_zero, List.set_cons_succ] at HM) | (refine jN ?_; first | (have q : dV HM = 0 := rfl; clear q HM; intro g1 u1 HG1 HM) | (have q : dV HM = 1 := rfl; clear q HM; intro g2 u2 HG2 HM) | (have q : dV HM = 2 := rfl; clear q HM; intro g3 u3 HG3 HM) | (have q : dV HM = 3 := rfl; clear q HM; intro g4 u4 HG4 HM) | (have q : dV HM = 4 := rfl; clear q HM; intro g5 u5 HG5 HM) | (have q : dV HM = 5 := rfl; clear q HM; intro g6 u6 HG6 HM) | (have q : dV HM = 6 := rfl; clear q HM; intro g7 u7 HG7 HM) | (have q : dV HM = 7 := rfl; clear q HM; intro g8 u8 HG8 HM) | (have q : dV HM = 8 := rfl; clear q HM; intro g9 u9 HG9 HM) | (have q : dV HM = 9 := rfl; clear q HM; intro g10 u10 HG10 HM) | (have q : dV HM = 10 := rfl; clear q HM; intro g11 u11 HG11 HM) | (have q : dV HM = 11 := rfl; clear q HM; intro g12 u12 HG12 HM) | (have q : dV HM = 12 := rfl; clear q HM; intro g13 u13 HG13 HM) | (have q : dV HM = 13 := rfl; clear q HM; intro g14 u14 HG14 HM)))
                go_roundw
                case rel => exact ⟨t + 1, by first | rfl | go_num, by omega, Lib.hid ⟨_, HSW.out.2.trans HPM.out, HM.out.pop HGT.out, .inr ⟨gT, _, rfl, HGT.out, HSW.out.1, HM.out⟩⟩⟩
                case measure => simp [intOf]; omega
          · obtain rfl : t = nt := by omega
            have htt : ¬ ((t : Int) < (t : Int)) := by omega
            obtain ⟨lp, hp, hm, hkt⟩ := HT.out.kp HRP.out
            have HPM := Lib.hid hp
            have HM := Lib.hid hm
            have HKT0 := Lib.hid hkt
            have HKT := Lib.hid (show Kp (fun u => RdP u Av i lp) [g3, g2, g1] wr from HKT0.out)
            clear HKT0 HT hp hm hkt hlt4 hti
            have HKW := Lib.hid (HK.out.onto (Ch.mv HBU.out HM.out (mem_3b HG3)) (on_new HG3.out))
            have HBW := Lib.hid HM.out.1
            have HL := Lib.hid (all_lt3 (HM.out.get (g := g1) (by exact vmemOf)).lt (HM.out.get (g := g2) (by exact vmemOf)).lt (HM.out.get (g := g3) (by exact vmemOf)).lt)
            have HM2 := Lib.hid HM.out.base
            clear HK HM HBU HG3
            have HM := HM2
            clear HM2
            have HQ := Lib.hid HOK.out.2.2
            have HPL := Lib.hid (HPM.out.symm.map pl)
            have hi100 : i ≤ 100 := hx100
            by_cases hg : goodL (xl.map pl) = true
            case neg =>
              have HG := Lib.hid hg
              have HG' := Lib.hid (show ¬ goodL (lp.map pl) = true by rw [← good_perm HPL.out]; exact hg)
              clear hg
              go_wp2_with (first | (refine jL ?_) | (refine jS ?_; clear HM; intro us HM; simp only [List.set, List.setIfInBounds_toArray, List.set_cons_zero, List.set_cons_succ] at HM) | (refine jN ?_; first | (have q : dV HM = 0 := rfl; clear q HM; intro g1 u1 HG1 HM) | (have q : dV HM = 1 := rfl; clear q HM; intro g2 u2 HG2 HM) | (have q : dV HM = 2 := rfl; clear q HM; intro g3 u3 HG3 HM) | (have q : dV HM = 3 := rfl; clear q HM; intro g4 u4 HG4 HM) | (have q : dV HM = 4 := rfl; clear q HM; intro g5 u5 HG5 HM) | (have q : dV HM = 5 := rfl; clear q HM; intro g6 u6 HG6 HM) | (have q : dV HM = 6 := rfl; clear q HM; intro g7 u7 HG7 HM) | (have q : dV HM = 7 := rfl; clear q HM; intro g8 u8 HG8 HM) | (have q : dV HM = 8 := rfl; clear q HM; intro g9 u9 HG9 HM) | (have q : dV HM = 9 := rfl; clear q HM; intro g10 u10 HG10 HM) | (have q : dV HM = 10 := rfl; clear q HM; intro g11 u11 HG11 HM) | (have q : dV HM = 11 := rfl; clear q HM; intro g12 u12 HG12 HM) | (have q : dV HM = 12 := rfl; clear q HM; intro g13 u13 HG13 HM) | (have q : dV HM = 13 := rfl; clear q HM; intro g14 u14 HG14 HM)))
              refine (Put_no on nx dp dr A0 m c0 ls XA i xc xl _ (Lib.hid HKW.out.now.1) (Lib.hid (HRP.out.keep HM.out.1)) (by omega) (by omega) HG).mono ?_
              rintro e u5 ⟨rfl, hb⟩
              have HM2 := Lib.hid (HM.out.below hb)
              clear hb HM
              have HM := HM2
              clear HM2
              go_wp2_with (first | (refine jL ?_) | (refine jS ?_; clear HM; intro us HM; simp only [List.set, List.setIfInBounds_toArray, List.set_cons_zero, List.set_cons_succ] at HM) | (refine jN ?_; first | (have q : dV HM = 0 := rfl; clear q HM; intro g1 u1 HG1 HM) | (have q : dV HM = 1 := rfl; clear q HM; intro g2 u2 HG2 HM) | (have q : dV HM = 2 := rfl; clear q HM; intro g3 u3 HG3 HM) | (have q : dV HM = 3 := rfl; clear q HM; intro g4 u4 HG4 HM) | (have q : dV HM = 4 := rfl; clear q HM; intro g5 u5 HG5 HM) | (have q : dV HM = 5 := rfl; clear q HM; intro g6 u6 HG6 HM) | (have q : dV HM = 6 := rfl; clear q HM; intro g7 u7 HG7 HM) | (have q : dV HM = 7 := rfl; clear q HM; intro g8 u8 HG8 HM) | (have q : dV HM = 8 := rfl; clear q HM; intro g9 u9 HG9 HM) | (have q : dV HM = 9 := rfl; clear q HM; intro g10 u10 HG10 HM) | (have q : dV HM = 10 := rfl; clear q HM; intro g11 u11 HG11 HM) | (have q : dV HM = 11 := rfl; clear q HM; intro g12 u12 HG12 HM) | (have q : dV HM = 12 := rfl; clear q HM; intro g13 u13 HG13 HM) | (have q : dV HM = 13 := rfl; clear q HM; intro g14 u14 HG14 HM)))
              refine (Put_no on nx dp dr A0' m c0' ls' Av i cv lp _ (Lib.hid (HKW.out.walk HBW.out HM.out (mem_four HG4)).now.2) (Lib.hid (HKT.out.walk HBW.out HM.out (mem_four HG4)).now) (by omega) (by omega) HG').mono ?_
              rintro e u6 ⟨rfl, hb⟩
              have HM2 := Lib.hid (HM.out.below hb)
              clear hb HM
              have HM := HM2
              clear HM2
              go_wp2_with (first | (refine jL ?_) | (refine jS ?_; clear HM; intro us HM; simp only [List.set, List.setIfInBounds_toArray, List.set_cons_zero, List.set_cons_succ] at HM) | (refine jN ?_; first | (have q : dV HM = 0 := rfl; clear q HM; intro g1 u1 HG1 HM) | (have q : dV HM = 1 := rfl; clear q HM; intro g2 u2 HG2 HM) | (have q : dV HM = 2 := rfl; clear q HM; intro g3 u3 HG3 HM) | (have q : dV HM = 3 := rfl; clear q HM; intro g4 u4 HG4 HM) | (have q : dV HM = 4 := rfl; clear q HM; intro g5 u5 HG5 HM) | (have q : dV HM = 5 := rfl; clear q HM; intro g6 u6 HG6 HM) | (have q : dV HM = 6 := rfl; clear q HM; intro g7 u7 HG7 HM) | (have q : dV HM = 7 := rfl; clear q HM; intro g8 u8 HG8 HM) | (have q : dV HM = 8 := rfl; clear q HM; intro g9 u9 HG9 HM) | (have q : dV HM = 9 := rfl; clear q HM; intro g10 u10 HG10 HM) | (have q : dV HM = 10 := rfl; clear q HM; intro g11 u11 HG11 HM) | (have q : dV HM = 11 := rfl; clear q HM; intro g12 u12 HG12 HM) | (have q : dV HM = 12 := rfl; clear q HM; intro g13 u13 HG13 HM) | (have q : dV HM = 13 := rfl; clear q HM; intro g14 u14 HG14 HM)))
              go_ret
              exact ⟨rfl, HM.out.1⟩
            have HGD := Lib.hid hg
            clear hg
            obtain ⟨q1, hq1⟩ : ∃ q, (putsJ ⟨on, nx, dp, dr, ls.map pl⟩ (xl.map pl)).q = q := ⟨_, rfl⟩
            obtain ⟨q2, hq2⟩ : ∃ q, (putsJ ⟨on, nx, dp, dr, ls.map pl⟩ (lp.map pl)).q = q := ⟨_, rfl⟩
            obtain ⟨o1, ho1⟩ : ∃ o, outsJ ⟨on, nx, dp, dr, ls.map pl⟩ (xl.map pl) = o := ⟨_, rfl⟩
            obtain ⟨o2, ho2⟩ : ∃ o, outsJ ⟨on, nx, dp, dr, ls.map pl⟩ (lp.map pl) = o := ⟨_, rfl⟩
            obtain ⟨m1, hm1⟩ : ∃ m, q1.length = m := ⟨_, rfl⟩
            obtain ⟨m2, hm2⟩ : ∃ m, q2.length = m := ⟨_, rfl⟩
            have HP1 := Lib.hid (And.intro hq1 (And.intro ho1 hm1))
            have HP2 := Lib.hid (And.intro hq2 (And.intro ho2 hm2))
            have HO1 := Lib.hid (And.intro HOK.out.1 HGD.out)
            have HO2 := Lib.hid (show OkJ ⟨on, nx, dp, dr, ls.map pl⟩ ∧ goodL (lp.map pl) = true from ⟨HOK.out.1, by rw [← good_perm HPL.out]; exact HGD.out⟩)
            have HSAME := Lib.hid (show 3 ∉ o1 → 3 ∉ o2 → q1 = q2 from fun n1 n2 => by
              rw [← hq1, ← hq2]
              exact puts_perm HPL.out HOK.out.1 HGD.out HDIST.out (by rw [ho1]; exact n1) (by rw [ho2]; exact n2))
            have HNEW := Lib.hid (show OkJ ⟨on, nx, dp, dr, q1⟩ ∧ NxB ⟨on, nx, dp, dr, q1⟩ from by
              have e9 := putsJ_mk on nx dp dr (ls.map pl) (xl.map pl)
              rw [hq1] at e9
              rw [← e9]
              exact ⟨okJ_puts HOK.out.1 (good_all HGD.out), nxB_puts HOK.out.2.1⟩)
            clear hq1 hq2 ho1 ho2 hm1 hm2 HGD HOK HDIST HPL
            go_wp2_with (first | (refine jL ?_) | (refine jS ?_; clear HM; intro us HM; simp only [List.set, List.setIfInBounds_toArray, List.set_cons_zero, List.set_cons_succ] at HM) | (refine jN ?_; first | (have q : dV HM = 0 := rfl; clear q HM; intro g1 u1 HG1 HM) | (have q : dV HM = 1 := rfl; clear q HM; intro g2 u2 HG2 HM) | (have q : dV HM = 2 := rfl; clear q HM; intro g3 u3 HG3 HM) | (have q : dV HM = 3 := rfl; clear q HM; intro g4 u4 HG4 HM) | (have q : dV HM = 4 := rfl; clear q HM; intro g5 u5 HG5 HM) | (have q : dV HM = 5 := rfl; clear q HM; intro g6 u6 HG6 HM) | (have q : dV HM = 6 := rfl; clear q HM; intro g7 u7 HG7 HM) | (have q : dV HM = 7 := rfl; clear q HM; intro g8 u8 HG8 HM) | (have q : dV HM = 8 := rfl; clear q HM; intro g9 u9 HG9 HM) | (have q : dV HM = 9 := rfl; clear q HM; intro g10 u10 HG10 HM) | (have q : dV HM = 10 := rfl; clear q HM; intro g11 u11 HG11 HM) | (have q : dV HM = 11 := rfl; clear q HM; intro g12 u12 HG12 HM) | (have q : dV HM = 12 := rfl; clear q HM; intro g13 u13 HG13 HM) | (have q : dV HM = 13 := rfl; clear q HM; intro g14 u14 HG14 HM)))
            refine (Put_to on nx dp dr A0 m c0 ls XA i xc xl _ (ls.map pl) q1 (xl.map pl) o1 m1 (Lib.hid HKW.out.now.1) (Lib.hid rfl) (Lib.hid (HRP.out.keep HM.out.1)) (Lib.hid rfl) (by omega) HO1 (by omega) HP1).mono ?_
            rintro e u5 ⟨A2, c2, l2, B2, rfl, hq, hk2, hb⟩
            have HQ2 := Lib.hid hq
            have HKR := Lib.hid (hk2 [g3, g2, g1] HL.out).1
            have HKI := Lib.hid (hk2 [g3, g2, g1] HL.out).2
            have HKW5 := Lib.hid ((HKW.out.walk HBW.out HM.out mem_tri).call hb)
            have HKT5 := Lib.hid ((HKT.out.walk HBW.out HM.out mem_tri).call hb)
            have HM2 := Lib.hid (HM.out.below hb).base
            have HB5 := Lib.hid HM2.out.1
            clear hb hk2 hq HM HKW HKT HBW HO1 HP1 HL
            have HM := HM2
            clear HM2
            go_wp2_with (first | (refine jL ?_) | (refine jS ?_; clear HM; intro us HM; simp only [List.set, List.setIfInBounds_toArray, List.set_cons_zero, List.set_cons_succ] at HM) | (refine jN ?_; first | (have q : dV HM = 0 := rfl; clear q HM; intro g1 u1 HG1 HM) | (have q : dV HM = 1 := rfl; clear q HM; intro g2 u2 HG2 HM) | (have q : dV HM = 2 := rfl; clear q HM; intro g3 u3 HG3 HM) | (have q : dV HM = 3 := rfl; clear q HM; intro g4 u4 HG4 HM) | (have q : dV HM = 4 := rfl; clear q HM; intro g5 u5 HG5 HM) | (have q : dV HM = 5 := rfl; clear q HM; intro g6 u6 HG6 HM) | (have q : dV HM = 6 := rfl; clear q HM; intro g7 u7 HG7 HM) | (have q : dV HM = 7 := rfl; clear q HM; intro g8 u8 HG8 HM) | (have q : dV HM = 8 := rfl; clear q HM; intro g9 u9 HG9 HM) | (have q : dV HM = 9 := rfl; clear q HM; intro g10 u10 HG10 HM) | (have q : dV HM = 10 := rfl; clear q HM; intro g11 u11 HG11 HM) | (have q : dV HM = 11 := rfl; clear q HM; intro g12 u12 HG12 HM) | (have q : dV HM = 12 := rfl; clear q HM; intro g13 u13 HG13 HM) | (have q : dV HM = 13 := rfl; clear q HM; intro g14 u14 HG14 HM)))
            have HL4 := Lib.hid (all_lt4 (HM.out.get (g := g1) (by exact vmemOf)).lt (HM.out.get (g := g2) (by exact vmemOf)).lt (HM.out.get (g := g3) (by exact vmemOf)).lt (HM.out.get (g := g4) (by exact vmemOf)).lt)
            refine (Put_to on nx dp dr A0' m c0' ls' Av i cv lp _ (ls.map pl) q2 (lp.map pl) o2 m2 (Lib.hid (HKW5.out.walk HB5.out HM.out (mem_four HG4)).now.2) HQ (Lib.hid (HKT5.out.walk HB5.out HM.out (mem_four HG4)).now) (Lib.hid rfl) (by omega) HO2 (by omega) HP2).mono ?_
            rintro e u6 ⟨A2', c2', l2', B2', rfl, hq, hk2, hb⟩
            have HQ2' := Lib.hid hq
            have HKR' := Lib.hid (hk2 [g4, g3, g2, g1] HL4.out).1
            have HKI' := Lib.hid (hk2 [g4, g3, g2, g1] HL4.out).2
            have HKR6 := Lib.hid ((HKR.out.onto (Ch.mv HB5.out HM.out (mem_four HG4)) (on_new HG4.out)).call hb)
            have HKI6 := Lib.hid ((HKI.out.onto (Ch.mv HB5.out HM.out (mem_four HG4)) (on_new HG4.out)).call hb)
            have HM2 := Lib.hid (HM.out.below hb).base
            have HB6 := Lib.hid HM2.out.1
            clear hb hk2 hq HM HKW5 HKT5 HB5 HO2 HP2 HL4 HKR HKI HG4 HQ
            have HM := HM2
            clear HM2
            go_wp2_with (first | (refine jL ?_) | (refine jS ?_; clear HM; intro us HM; simp only [List.set, List.setIfInBounds_toArray, List.set_cons_zero, List.set_cons_succ] at HM) | (refine jN ?_; first | (have q : dV HM = 0 := rfl; clear q HM; intro g1 u1 HG1 HM) | (have q : dV HM = 1 := rfl; clear q HM; intro g2 u2 HG2 HM) | (have q : dV HM = 2 := rfl; clear q HM; intro g3 u3 HG3 HM) | (have q : dV HM = 3 := rfl; clear q HM; intro g4 u4 HG4 HM) | (have q : dV HM = 4 := rfl; clear q HM; intro g5 u5 HG5 HM) | (have q : dV HM = 5 := rfl; clear q HM; intro g6 u6 HG6 HM) | (have q : dV HM = 6 := rfl; clear q HM; intro g7 u7 HG7 HM) | (have q : dV HM = 7 := rfl; clear q HM; intro g8 u8 HG8 HM) | (have q : dV HM = 8 := rfl; clear q HM; intro g9 u9 HG9 HM) | (have q : dV HM = 9 := rfl; clear q HM; intro g10 u10 HG10 HM) | (have q : dV HM = 10 := rfl; clear q HM; intro g11 u11 HG11 HM) | (have q : dV HM = 11 := rfl; clear q HM; intro g12 u12 HG12 HM) | (have q : dV HM = 12 := rfl; clear q HM; intro g13 u13 HG13 HM) | (have q : dV HM = 13 := rfl; clear q HM; intro g14 u14 HG14 HM)))
            refine (has_any B2 i i o1 3 _ (Lib.hid (HKI6.out.walk HB6.out HM.out (mem_five HG5)).now) (by omega)).mono ?_
            obtain ⟨f1, hf1⟩ : ∃ f, decide (3 ∈ o1) = f := ⟨_, rfl⟩
            rw [hf1]
            rintro e u7 ⟨rfl, hb⟩
            have HM2 := Lib.hid (HM.out.below hb)
            clear hb HM
            have HM := HM2
            clear HM2
            have HF1 := Lib.hid hf1
            clear hf1
            cases f1 with
            | true =>
              go_wp2_with (first | (refine wl_skip (by rfl) ?_) | (first | (refine jL ?_) | (refine jS ?_; clear HM; intro us HM; simp only [List.set, List.setIfInBounds_toArray, List.set_cons_zero, List.set_cons_succ] at HM) | (refine jN ?_; first | (have q : dV HM = 0 := rfl; clear q HM; intro g1 u1 HG1 HM) | (have q : dV HM = 1 := rfl; clear q HM; intro g2 u2 HG2 HM) | (have q : dV HM = 2 := rfl; clear q HM; intro g3 u3 HG3 HM) | (have q : dV HM = 3 := rfl; clear q HM; intro g4 u4 HG4 HM) | (have q : dV HM = 4 := rfl; clear q HM; intro g5 u5 HG5 HM) | (have q : dV HM = 5 := rfl; clear q HM; intro g6 u6 HG6 HM) | (have q : dV HM = 6 := rfl; clear q HM; intro g7 u7 HG7 HM) | (have q : dV HM = 7 := rfl; clear q HM; intro g8 u8 HG8 HM) | (have q : dV HM = 8 := rfl; clear q HM; intro g9 u9 HG9 HM) | (have q : dV HM = 9 := rfl; clear q HM; intro g10 u10 HG10 HM) | (have q : dV HM = 10 := rfl; clear q HM; intro g11 u11 HG11 HM) | (have q : dV HM = 11 := rfl; clear q HM; intro g12 u12 HG12 HM) | (have q : dV HM = 12 := rfl; clear q HM; intro g13 u13 HG13 HM) | (have q : dV HM = 13 := rfl; clear q HM; intro g14 u14 HG14 HM))))
              go_ret
              exact ⟨rfl, HM.out.1⟩
            | false =>
            go_wp2_with (first | (refine jL ?_) | (refine jS ?_; clear HM; intro us HM; simp only [List.set, List.setIfInBounds_toArray, List.set_cons_zero, List.set_cons_succ] at HM) | (refine jN ?_; first | (have q : dV HM = 0 := rfl; clear q HM; intro g1 u1 HG1 HM) | (have q : dV HM = 1 := rfl; clear q HM; intro g2 u2 HG2 HM) | (have q : dV HM = 2 := rfl; clear q HM; intro g3 u3 HG3 HM) | (have q : dV HM = 3 := rfl; clear q HM; intro g4 u4 HG4 HM) | (have q : dV HM = 4 := rfl; clear q HM; intro g5 u5 HG5 HM) | (have q : dV HM = 5 := rfl; clear q HM; intro g6 u6 HG6 HM) | (have q : dV HM = 6 := rfl; clear q HM; intro g7 u7 HG7 HM) | (have q : dV HM = 7 := rfl; clear q HM; intro g8 u8 HG8 HM) | (have q : dV HM = 8 := rfl; clear q HM; intro g9 u9 HG9 HM) | (have q : dV HM = 9 := rfl; clear q HM; intro g10 u10 HG10 HM) | (have q : dV HM = 10 := rfl; clear q HM; intro g11 u11 HG11 HM) | (have q : dV HM = 11 := rfl; clear q HM; intro g12 u12 HG12 HM) | (have q : dV HM = 12 := rfl; clear q HM; intro g13 u13 HG13 HM) | (have q : dV HM = 13 := rfl; clear q HM; intro g14 u14 HG14 HM)))
            refine (has_any B2' i i o2 3 _ (Lib.hid (HKI'.out.walk HB6.out HM.out (mem_five HG5)).now) (by omega)).mono ?_
            obtain ⟨f2, hf2⟩ : ∃ f, decide (3 ∈ o2) = f := ⟨_, rfl⟩
            rw [hf2]
            rintro e u8 ⟨rfl, hb⟩
            have HM2 := Lib.hid (HM.out.below hb)
            clear hb HM
            have HM := HM2
            clear HM2
            have HF2 := Lib.hid hf2
            clear hf2
            cases f2 with
            | true =>
              go_wp2_with (first | (refine jL ?_) | (refine jS ?_; clear HM; intro us HM; simp only [List.set, List.setIfInBounds_toArray, List.set_cons_zero, List.set_cons_succ] at HM) | (refine jN ?_; first | (have q : dV HM = 0 := rfl; clear q HM; intro g1 u1 HG1 HM) | (have q : dV HM = 1 := rfl; clear q HM; intro g2 u2 HG2 HM) | (have q : dV HM = 2 := rfl; clear q HM; intro g3 u3 HG3 HM) | (have q : dV HM = 3 := rfl; clear q HM; intro g4 u4 HG4 HM) | (have q : dV HM = 4 := rfl; clear q HM; intro g5 u5 HG5 HM) | (have q : dV HM = 5 := rfl; clear q HM; intro g6 u6 HG6 HM) | (have q : dV HM = 6 := rfl; clear q HM; intro g7 u7 HG7 HM) | (have q : dV HM = 7 := rfl; clear q HM; intro g8 u8 HG8 HM) | (have q : dV HM = 8 := rfl; clear q HM; intro g9 u9 HG9 HM) | (have q : dV HM = 9 := rfl; clear q HM; intro g10 u10 HG10 HM) | (have q : dV HM = 10 := rfl; clear q HM; intro g11 u11 HG11 HM) | (have q : dV HM = 11 := rfl; clear q HM; intro g12 u12 HG12 HM) | (have q : dV HM = 12 := rfl; clear q HM; intro g13 u13 HG13 HM) | (have q : dV HM = 13 := rfl; clear q HM; intro g14 u14 HG14 HM)))
              go_ret
              exact ⟨rfl, HM.out.1⟩
            | false =>
            have heq := HSAME.out (of_decide_eq_false HF1.out) (of_decide_eq_false HF2.out)
            subst heq
            obtain rfl : m2 = m1 := by
              have h1 := HKR'.out.now.1
              have h2 := HKR6.out.now.1
              have h3 := congrArg List.length HQ2.out
              have h4 := congrArg List.length HQ2'.out
              rw [List.length_map] at h3 h4
              omega
            have HOKN := Lib.hid (show OkJ ⟨on, nx, dp, dr, l2.map pl⟩ ∧ NxB ⟨on, nx, dp, dr, l2.map pl⟩ ∧ l2'.map pl = l2.map pl from ⟨by rw [HQ2.out]; exact HNEW.out.1, by rw [HQ2.out]; exact HNEW.out.2, by rw [HQ2.out, HQ2'.out]⟩)
            have HKB := Lib.hid (HKR6.out.both HKR'.out)
            obtain ⟨RP, PP, p1, p2, p3, p4, -, p6⟩ := HPX.out
            clear HSAME HF1 HF2 HKI6 HKI' HKR6 HKR' HQ2 HQ2' HNEW HPX
            go_wp2_with (first | (refine jL ?_) | (refine jS ?_; clear HM; intro us HM; simp only [List.set, List.setIfInBounds_toArray, List.set_cons_zero, List.set_cons_succ] at HM) | (refine jN ?_; first | (have q : dV HM = 0 := rfl; clear q HM; intro g1 u1 HG1 HM) | (have q : dV HM = 1 := rfl; clear q HM; intro g2 u2 HG2 HM) | (have q : dV HM = 2 := rfl; clear q HM; intro g3 u3 HG3 HM) | (have q : dV HM = 3 := rfl; clear q HM; intro g4 u4 HG4 HM) | (have q : dV HM = 4 := rfl; clear q HM; intro g5 u5 HG5 HM) | (have q : dV HM = 5 := rfl; clear q HM; intro g6 u6 HG6 HM) | (have q : dV HM = 6 := rfl; clear q HM; intro g7 u7 HG7 HM) | (have q : dV HM = 7 := rfl; clear q HM; intro g8 u8 HG8 HM) | (have q : dV HM = 8 := rfl; clear q HM; intro g9 u9 HG9 HM) | (have q : dV HM = 9 := rfl; clear q HM; intro g10 u10 HG10 HM) | (have q : dV HM = 10 := rfl; clear q HM; intro g11 u11 HG11 HM) | (have q : dV HM = 11 := rfl; clear q HM; intro g12 u12 HG12 HM) | (have q : dV HM = 12 := rfl; clear q HM; intro g13 u13 HG13 HM) | (have q : dV HM = 13 := rfl; clear q HM; intro g14 u14 HG14 HM)))
            have HKL := Lib.hid ((HKB.out.walk HB6.out HM.out (mem_five HG5)).less (hs := [g2, g1]) (fun x hx => .tail _ (.tail _ hx)))
            have HM2 := Lib.hid (HM.out.sub (L' := [(g2, 24, #[.bool on, .int .i64 nx, .int .i64 dp, .int .i64 dr, .slice A2' m2 c2']), (g1, 24, #[.bool on, .int .i64 nx, .int .i64 dp, .int .i64 dr, .slice A2 m2 c2])]) (by exact subOf))
            clear HM HKB HB6 HG5
            go_loopw [175] (fun vi wr => ∃ (z m c0 c0' : Nat) (on : Bool) (nx dp dr : Int) (A0 A0' : Option Addr) (ls ls' : List Pk), vi = .int .i64 (z : Int) ∧ z ≤ PP ∧ Hid (OkJ ⟨on, nx, dp, dr, ls.map pl⟩ ∧ NxB ⟨on, nx, dp, dr, ls.map pl⟩ ∧ ls'.map pl = ls.map pl) ∧ Hid (Kp (fun u => RdP u A0 m ls ∧ RdP u A0' m ls') [g2, g1] wr) ∧
              Hid (MV w wr [(g2, 24, #[.bool on, .int .i64 nx, .int .i64 dp, .int .i64 dr, .slice A0' m c0']), (g1, 24, #[.bool on, .int .i64 nx, .int .i64 dp, .int .i64 dr, .slice A0 m c0])] wr)) (fun vi _ => PP - (intOf vi).toNat)
            case atStart => exact ⟨0, m2, c2, c2', on, nx, dp, dr, A2, A2', l2, l2', rfl, by omega, HOKN, HKL, HM2⟩
            case round =>
              clear HM2 HKL HOKN
              obtain ⟨z, m, c0, c0', on, nx, dp, dr, A0, A0', ls, ls', rfl, hz, HOK, HK, HM⟩ := hrel
              have HBU := Lib.hid HM.out.1
              by_cases hlz : z < PP
              case neg =>
                obtain rfl : z = PP := by omega
                have hzz : ¬ ((z : Int) < (z : Int)) := by omega
                have hm64 : m ≤ 64 := by
                  have := okJ_len HOK.out.1
                  simp only [List.length_map, HK.out.now.1.1] at this
                  exact this
                clear hlz
                go_wp2_with (first | (refine jL ?_) | (refine jS ?_; clear HM; intro us HM; simp only [List.set, List.setIfInBounds_toArray, List.set_cons_zero, List.set_cons_succ] at HM) | (refine jN ?_; first | (have q : dV HM = 0 := rfl; clear q HM; intro g1 u1 HG1 HM) | (have q : dV HM = 1 := rfl; clear q HM; intro g2 u2 HG2 HM) | (have q : dV HM = 2 := rfl; clear q HM; intro g3 u3 HG3 HM) | (have q : dV HM = 3 := rfl; clear q HM; intro g4 u4 HG4 HM) | (have q : dV HM = 4 := rfl; clear q HM; intro g5 u5 HG5 HM) | (have q : dV HM = 5 := rfl; clear q HM; intro g6 u6 HG6 HM) | (have q : dV HM = 6 := rfl; clear q HM; intro g7 u7 HG7 HM) | (have q : dV HM = 7 := rfl; clear q HM; intro g8 u8 HG8 HM) | (have q : dV HM = 8 := rfl; clear q HM; intro g9 u9 HG9 HM) | (have q : dV HM = 9 := rfl; clear q HM; intro g10 u10 HG10 HM) | (have q : dV HM = 10 := rfl; clear q HM; intro g11 u11 HG11 HM) | (have q : dV HM = 11 := rfl; clear q HM; intro g12 u12 HG12 HM) | (have q : dV HM = 12 := rfl; clear q HM; intro g13 u13 HG13 HM) | (have q : dV HM = 13 := rfl; clear q HM; intro g14 u14 HG14 HM)))
                refine (psame_any on on nx nx dp dp dr dr A0 A0' m m c0 c0' ls ls' _ (Lib.hid HK.out.now.1) (Lib.hid HK.out.now.2) (by omega)).mono ?_
                rw [show sameJ ⟨on, nx, dp, dr, ls.map pl⟩ ⟨on, nx, dp, dr, ls'.map pl⟩ = true by rw [HOK.out.2.2]; unfold sameJ; rw [decide_eq_true HOK.out.1, eqJ_self]; rfl]
                rintro e u9 ⟨rfl, hb⟩
                have HK2 := Lib.hid (HK.out.call hb)
                have HM2 := Lib.hid (HM.out.below hb).base
                clear hb HM HK
                have HM := HM2
                clear HM2
                go_wp2_with (first | (refine jL ?_) | (refine jS ?_; clear HM; intro us HM; simp only [List.set, List.setIfInBounds_toArray, List.set_cons_zero, List.set_cons_succ] at HM) | (refine jN ?_; first | (have q : dV HM = 0 := rfl; clear q HM; intro g1 u1 HG1 HM) | (have q : dV HM = 1 := rfl; clear q HM; intro g2 u2 HG2 HM) | (have q : dV HM = 2 := rfl; clear q HM; intro g3 u3 HG3 HM) | (have q : dV HM = 3 := rfl; clear q HM; intro g4 u4 HG4 HM) | (have q : dV HM = 4 := rfl; clear q HM; intro g5 u5 HG5 HM) | (have q : dV HM = 5 := rfl; clear q HM; intro g6 u6 HG6 HM) | (have q : dV HM = 6 := rfl; clear q HM; intro g7 u7 HG7 HM) | (have q : dV HM = 7 := rfl; clear q HM; intro g8 u8 HG8 HM) | (have q : dV HM = 8 := rfl; clear q HM; intro g9 u9 HG9 HM) | (have q : dV HM = 9 := rfl; clear q HM; intro g10 u10 HG10 HM) | (have q : dV HM = 10 := rfl; clear q HM; intro g11 u11 HG11 HM) | (have q : dV HM = 11 := rfl; clear q HM; intro g12 u12 HG12 HM) | (have q : dV HM = 12 := rfl; clear q HM; intro g13 u13 HG13 HM) | (have q : dV HM = 13 := rfl; clear q HM; intro g14 u14 HG14 HM)))
                go_roundw
                case rel =>
                  exact ⟨k + 1, m, c0, c0', on, nx, dp, dr, A0, A0', ls, ls', by first | rfl | go_num, by omega, HOK, HK2, HM⟩
                case measure => simp [intOf]; omega
              have kz : (z : Int) < (PP : Int) := by omega
              have HL := Lib.hid (all_lt2 (HM.out.get (g := g1) (by exact vmemOf)).lt (HM.out.get (g := g2) (by exact vmemOf)).lt)
              have hm64 : m ≤ 64 := by
                have := okJ_len HOK.out.1
                simp only [List.length_map, HK.out.now.1.1] at this
                exact this
              obtain ⟨r, bs, ⟨on', nx', dp', dr', q'⟩, hP, hk1, hk2, hk3, hC⟩ := pull_cases HOK.out.1 HOK.out.2.1
              obtain ⟨mm, hmm⟩ : ∃ mm, q'.length = mm := ⟨_, rfl⟩
              obtain ⟨nb, hnb⟩ : ∃ nb, bs.length = nb := ⟨_, rfl⟩
              have HP := Lib.hid (And.intro hP (And.intro hmm hnb))
              have HOKP := Lib.hid (And.intro hk1 hk2)
              have HQE := Lib.hid HOK.out.2.2
              have HOK1 := Lib.hid HOK.out.1
              clear hP hk1 hk2 hk3 hC hmm hnb HOK
              go_wp2_with (first | (refine jL ?_) | (refine jS ?_; clear HM; intro us HM; simp only [List.set, List.setIfInBounds_toArray, List.set_cons_zero, List.set_cons_succ] at HM) | (refine jN ?_; first | (have q : dV HM = 0 := rfl; clear q HM; intro g1 u1 HG1 HM) | (have q : dV HM = 1 := rfl; clear q HM; intro g2 u2 HG2 HM) | (have q : dV HM = 2 := rfl; clear q HM; intro g3 u3 HG3 HM) | (have q : dV HM = 3 := rfl; clear q HM; intro g4 u4 HG4 HM) | (have q : dV HM = 4 := rfl; clear q HM; intro g5 u5 HG5 HM) | (have q : dV HM = 5 := rfl; clear q HM; intro g6 u6 HG6 HM) | (have q : dV HM = 6 := rfl; clear q HM; intro g7 u7 HG7 HM) | (have q : dV HM = 7 := rfl; clear q HM; intro g8 u8 HG8 HM) | (have q : dV HM = 8 := rfl; clear q HM; intro g9 u9 HG9 HM) | (have q : dV HM = 9 := rfl; clear q HM; intro g10 u10 HG10 HM) | (have q : dV HM = 10 := rfl; clear q HM; intro g11 u11 HG11 HM) | (have q : dV HM = 11 := rfl; clear q HM; intro g12 u12 HG12 HM) | (have q : dV HM = 12 := rfl; clear q HM; intro g13 u13 HG13 HM) | (have q : dV HM = 13 := rfl; clear q HM; intro g14 u14 HG14 HM)))
              refine (Pull_to on nx dp dr A0 m c0 ls _ (ls.map pl) q' on' nx' dp' dr' r bs mm nb (Lib.hid HK.out.now.1) (Lib.hid rfl) HOK1 (by omega) HP).mono ?_
              rintro e u9 ⟨A3, c3, l3, B3, cb3, rfl, hq, hk2, hb⟩
              have HQ3 := Lib.hid hq
              have HKR := Lib.hid (hk2 [g2, g1] HL.out).1
              have HKI := Lib.hid (hk2 [g2, g1] HL.out).2
              have HK9 := Lib.hid (HK.out.call hb)
              have HM2 := Lib.hid (HM.out.below hb).base
              have HB9 := Lib.hid HM2.out.1
              clear hb hk2 hq HM HK HBU HL
              have HM := HM2
              clear HM2
              go_wp2_with (first | (refine jL ?_) | (refine jS ?_; clear HM; intro us HM; simp only [List.set, List.setIfInBounds_toArray, List.set_cons_zero, List.set_cons_succ] at HM) | (refine jN ?_; first | (have q : dV HM = 0 := rfl; clear q HM; intro g1 u1 HG1 HM) | (have q : dV HM = 1 := rfl; clear q HM; intro g2 u2 HG2 HM) | (have q : dV HM = 2 := rfl; clear q HM; intro g3 u3 HG3 HM) | (have q : dV HM = 3 := rfl; clear q HM; intro g4 u4 HG4 HM) | (have q : dV HM = 4 := rfl; clear q HM; intro g5 u5 HG5 HM) | (have q : dV HM = 5 := rfl; clear q HM; intro g6 u6 HG6 HM) | (have q : dV HM = 6 := rfl; clear q HM; intro g7 u7 HG7 HM) | (have q : dV HM = 7 := rfl; clear q HM; intro g8 u8 HG8 HM) | (have q : dV HM = 8 := rfl; clear q HM; intro g9 u9 HG9 HM) | (have q : dV HM = 9 := rfl; clear q HM; intro g10 u10 HG10 HM) | (have q : dV HM = 10 := rfl; clear q HM; intro g11 u11 HG11 HM) | (have q : dV HM = 11 := rfl; clear q HM; intro g12 u12 HG12 HM) | (have q : dV HM = 12 := rfl; clear q HM; intro g13 u13 HG13 HM) | (have q : dV HM = 13 := rfl; clear q HM; intro g14 u14 HG14 HM)))
              have HL3 := Lib.hid (all_lt3 (HM.out.get (g := g1) (by exact vmemOf)).lt (HM.out.get (g := g2) (by exact vmemOf)).lt (HM.out.get (g := g3) (by exact vmemOf)).lt)
              refine (Pull_to on nx dp dr A0' m c0' ls' _ (ls.map pl) q' on' nx' dp' dr' r bs mm nb (Lib.hid (HK9.out.walk HB9.out HM.out (mem_3b HG3)).now.2) HQE HOK1 (by omega) HP).mono ?_
              rintro e u10 ⟨A4, c4, l4, B4, cb4, rfl, hq, hk2, hb⟩
              have HQ4 := Lib.hid hq
              have HKR' := Lib.hid (hk2 [g3, g2, g1] HL3.out).1
              have HKI' := Lib.hid (hk2 [g3, g2, g1] HL3.out).2
              have HKR9 := Lib.hid ((HKR.out.onto (Ch.mv HB9.out HM.out (mem_3b HG3)) (on_new HG3.out)).call hb)
              have HKI9 := Lib.hid ((HKI.out.onto (Ch.mv HB9.out HM.out (mem_3b HG3)) (on_new HG3.out)).call hb)
              have HM2 := Lib.hid (HM.out.below hb).base
              have HB10 := Lib.hid HM2.out.1
              clear hb hk2 hq HM HK9 HB9 HL3 HKR HKI HG3 HQE HOK1 HP
              have HM := HM2
              clear HM2
              obtain ⟨S, hS⟩ : ∃ S, strOf bs = S := ⟨_, rfl⟩
              have HS := Lib.hid hS
              have d0 : (r != r) = false := by simp
              clear hS
              go_wp2_with (first | (refine wv_str (by rfl) _ rfl rfl (Lib.hid (HKI9.out.walk HB10.out HM.out (mem_four HG4)).now) HS ?_) | (refine wv_str (by rfl) _ rfl rfl (Lib.hid (HKI'.out.walk HB10.out HM.out (mem_four HG4)).now) HS ?_) | (first | (refine jL ?_) | (refine jS ?_; clear HM; intro us HM; simp only [List.set, List.setIfInBounds_toArray, List.set_cons_zero, List.set_cons_succ] at HM) | (refine jN ?_; first | (have q : dV HM = 0 := rfl; clear q HM; intro g1 u1 HG1 HM) | (have q : dV HM = 1 := rfl; clear q HM; intro g2 u2 HG2 HM) | (have q : dV HM = 2 := rfl; clear q HM; intro g3 u3 HG3 HM) | (have q : dV HM = 3 := rfl; clear q HM; intro g4 u4 HG4 HM) | (have q : dV HM = 4 := rfl; clear q HM; intro g5 u5 HG5 HM) | (have q : dV HM = 5 := rfl; clear q HM; intro g6 u6 HG6 HM) | (have q : dV HM = 6 := rfl; clear q HM; intro g7 u7 HG7 HM) | (have q : dV HM = 7 := rfl; clear q HM; intro g8 u8 HG8 HM) | (have q : dV HM = 8 := rfl; clear q HM; intro g9 u9 HG9 HM) | (have q : dV HM = 9 := rfl; clear q HM; intro g10 u10 HG10 HM) | (have q : dV HM = 10 := rfl; clear q HM; intro g11 u11 HG11 HM) | (have q : dV HM = 11 := rfl; clear q HM; intro g12 u12 HG12 HM) | (have q : dV HM = 12 := rfl; clear q HM; intro g13 u13 HG13 HM) | (have q : dV HM = 13 := rfl; clear q HM; intro g14 u14 HG14 HM))))
              have HKF := Lib.hid (((HKR9.out.both HKR'.out).walk HB10.out HM.out (mem_four HG4)).less (hs := [g2, g1]) (fun x hx => .tail _ hx))
              go_roundw
              case rel =>
                exact ⟨z + 1, mm, c3, c4, on', nx', dp', dr', A3, A4, l3, l4, by first | rfl | go_num, by omega, Lib.hid ⟨by rw [HQ3.out]; exact HOKP.out.1, by rw [HQ3.out]; exact HOKP.out.2, by rw [HQ3.out, HQ4.out]⟩, HKF, Lib.hid (HM.out.sub (by exact subOf))⟩
              case measure => simp [intOf]; omega
end Go.Proofs.Ytffapinabidkiaa.Lp
