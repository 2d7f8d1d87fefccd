/-
  Own texts, laid together: If.
-/
import Derived.Test.YtgelgbfnioagbaaIe
/- If -/
namespace Go.Proofs.Ytgelgbfnioagbaa.Cd
open Go.RowKit
theorem DOut.err {w w' : World} {E : Int} (hb : Below w.heap.size w w') : DOut w 0 0 0 0 0 E [] (.returned (.tuple #[decV 0 0 0 none 0 0 0 0, .int .i64 E])) w' := ⟨none, 0, 0, rfl, hb, Rd.none_⟩
theorem sts_start (w : World) (A : Option Addr) (n c : Nat) (N : Int) : Blk ((w.alloc (.cells #[.slice A n c, .int .i64 N] 25)).alloc (.cells #[.int .u32 0, .int .u32 0, .int .u32 0, .slice none 0 0, .int .i64 0, .int .i64 0] 45)) (w.heap.size + 1) 45 #[.int .u32 0, .int .u32 0, .int .u32 0, .slice none 0 0, .int .i64 0, .int .i64 0] ∧ Below w.heap.size w ((w.alloc (.cells #[.slice A n c, .int .i64 N] 25)).alloc (.cells #[.int .u32 0, .int .u32 0, .int .u32 0, .slice none 0 0, .int .i64 0, .int .i64 0] 45)) :=
  ⟨Blk.newAt (by simp), ((Below.refl w.heap.size w).alloc (Nat.le_refl _) _).alloc (by simp) _⟩
theorem rstart_no (A : Option Addr) (n c : Nat) (N : Int) (bs : List Nat) (w : World) (hr : Hid (Rd w A n bs)) (hok : Hid (okB bs N = false)) :
    Calls Try.prog 24 #[.agg #[.slice A n c, .int .i64 N]] w (DOut w 0 0 0 0 0 1 []) := by
  have HS := Lib.hid (sts_start w A n c N)
  go_enter Try.func24, Try.ntmps24
  go_wp2_with fail
  generalize (w.alloc (.cells #[.slice A n c, .int .i64 N] 25)).alloc (.cells #[.int .u32 0, .int .u32 0, .int .u32 0, .slice none 0 0, .int .i64 0, .int .i64 0] 45) = w0 at HS ⊢
  have hcon := rcheck_any A n c N bs w0 (hr.out.below HS.out.2)
  rw [hok.out] at hcon
  refine hcon.mono ?_
  clear hcon
  rintro e w1 ⟨rfl, hb1⟩
  have HK1 := Lib.hid (HS.out.1.below hb1 HS.out.1.lt)
  have HW1 := Lib.hid (HS.out.2.trans (hb1.mono HS.out.2.size))
  clear hb1
  obtain ⟨y1, y2, y3, y4, y5, y6⟩ := blk6 HK1.out
  obtain ⟨z1, z2, z3, z4, z5, z6⟩ := frz6 HK1.out
  go_wp2
  exact bodyPost_ret (v := .tuple #[decV 0 0 0 none 0 0 0 0, .int .i64 1]) (by simp [results, Try.results24, go_sem, decV, y1, y2, y3, y4, y5, y6]) rfl (DOut.err (below6 HW1.out (by omega) _ _ _ _ _ _))
theorem pstart_no (A : Option Addr) (n c : Nat) (N : Int) (bs : List Nat) (w : World) (hr : Hid (Rd w A n bs)) (hok : Hid (okB bs N = false)) :
    Calls Try.prog 23 #[.agg #[.slice A n c, .int .i64 N]] w (DOut w 0 0 0 0 0 1 []) := by
  have HS := Lib.hid (sts_start w A n c N)
  go_enter Try.func23, Try.ntmps23
  go_wp2_with fail
  generalize (w.alloc (.cells #[.slice A n c, .int .i64 N] 25)).alloc (.cells #[.int .u32 0, .int .u32 0, .int .u32 0, .slice none 0 0, .int .i64 0, .int .i64 0] 45) = w0 at HS ⊢
  refine (open_no A n c N bs w0 (Lib.hid (hr.out.below HS.out.2)) hok).mono ?_
  rintro e w1 ⟨rfl, hb1⟩
  have HK1 := Lib.hid (HS.out.1.below hb1 HS.out.1.lt)
  have HW1 := Lib.hid (HS.out.2.trans (hb1.mono HS.out.2.size))
  clear hb1
  obtain ⟨y1, y2, y3, y4, y5, y6⟩ := blk6 HK1.out
  obtain ⟨z1, z2, z3, z4, z5, z6⟩ := frz6 HK1.out
  go_wp2
  exact bodyPost_ret (v := .tuple #[decV 0 0 0 none 0 0 0 0, .int .i64 1]) (by simp [results, Try.results23, go_sem, decV, y1, y2, y3, y4, y5, y6]) rfl (DOut.err (below6 HW1.out (by omega) _ _ _ _ _ _))
set_option maxRecDepth 100000 in
theorem pstart_ok (A : Option Addr) (n c L : Nat) (l : List Bool) (w : World) (hI : Hid (IsB w (.agg #[.slice A n c, .int .i64 (L : Int)]) l)) :
    Calls Try.prog 23 #[.agg #[.slice A n c, .int .i64 (L : Int)]] w (DOut w 0 4294967295 (val l 32) 32 (L : Int) 0 (pack l)) := by
  have HS := Lib.hid (sts_start w A n c (L : Int))
  go_enter Try.func23, Try.ntmps23
  go_wp2_with fail
  generalize (w.alloc (.cells #[.slice A n c, .int .i64 (L : Int)] 25)).alloc (.cells #[.int .u32 0, .int .u32 0, .int .u32 0, .slice none 0 0, .int .i64 0, .int .i64 0] 45) = w0 at HS ⊢
  refine (open_ok A n c (L : Int) l w0 (Lib.hid (hI.out.below HS.out.2))).mono ?_
  rintro e w1 ⟨p, rfl, hp, hs1, hb1⟩
  have HK1 := Lib.hid (HS.out.1.below hb1 HS.out.1.lt)
  have HW1 := Lib.hid (HS.out.2.trans (hb1.mono HS.out.2.size))
  have HP1 := Lib.hid hs1
  clear hb1 hs1 hp HS
  go_wp2_with fail
  refine (rstate_any p (d0 l) A n c L l w1 HP1 (Lib.hid (hI.out.below HW1.out))).mono ?_
  rintro e w4 ⟨A4, n4, c4, rfl, hb4, hr4⟩
  have HK4 := Lib.hid (HK1.out.below hb4 HK1.out.lt)
  have HW4 := Lib.hid (HW1.out.trans (hb4.mono HW1.out.size))
  have HR4 := Lib.hid hr4
  clear hb4 hr4 HK1 HW1
  unfold decV d0
  obtain ⟨V, hV⟩ : ∃ V, V = val l 32 := ⟨_, rfl⟩
  rw [← hV]
  have HV := Lib.hid hV
  clear hV
  obtain ⟨y1, y2, y3, y4, y5, y6⟩ := blk6 HK4.out
  obtain ⟨z1, z2, z3, z4, z5, z6⟩ := frz6 HK4.out
  go_wp2
  exact bodyPost_ret (v := .tuple #[decV 0 4294967295 V A4 n4 c4 (L : Int) 32, .int .i64 0]) (by simp [results, Try.results23, go_sem, decV, y1, y2, y3, y4, y5, y6]) rfl ⟨A4, n4, c4, by rw [HV.out], below6 HW4.out (by omega) _ _ _ _ _ _, rd_six HR4.out HK4.out _ _ _ _ _ _⟩
set_option maxRecDepth 100000 in
theorem sameDec_yes (lo hi co : Nat) (A1 A2 : Option Addr) (n1 n2 c1 c2 : Nat) (N At : Int) (bs : List Nat) (w : World) (h1 : Hid (Rd w A1 n1 bs)) (h2 : Hid (Rd w A2 n2 bs)) :
    Calls Try.prog 25 #[decV lo hi co A1 n1 c1 N At, decV lo hi co A2 n2 c2 N At] w fun e w' => e = .returned (.bool true) ∧ Below w.heap.size w w' := by
  have HW := Lib.hid (show Below w.heap.size w ((w.alloc (.cells #[.int .u32 (lo : Int), .int .u32 (hi : Int), .int .u32 (co : Int), .slice A1 n1 c1, .int .i64 N, .int .i64 At] 45)).alloc (.cells #[.int .u32 (lo : Int), .int .u32 (hi : Int), .int .u32 (co : Int), .slice A2 n2 c2, .int .i64 N, .int .i64 At] 45)) from ((Below.refl w.heap.size w).alloc (Nat.le_refl _) _).alloc (by simp) _)
  unfold decV
  go_enter Try.func25, Try.ntmps25
  go_wp2_with fail
  generalize (w.alloc (.cells #[.int .u32 (lo : Int), .int .u32 (hi : Int), .int .u32 (co : Int), .slice A1 n1 c1, .int .i64 N, .int .i64 At] 45)).alloc (.cells #[.int .u32 (lo : Int), .int .u32 (hi : Int), .int .u32 (co : Int), .slice A2 n2 c2, .int .i64 N, .int .i64 At] 45) = w0 at HW ⊢
  refine (same_yes A1 A2 n1 n2 c1 c2 N bs w0 (Lib.hid (h1.out.below HW.out)) (Lib.hid (h2.out.below HW.out))).mono ?_
  rintro e w1 ⟨rfl, hb1⟩
  have HW1 := Lib.hid (HW.out.trans (hb1.mono HW.out.size))
  clear hb1
  go_wp2
  go_ret
  exact ⟨rfl, HW1.out⟩
/-- a state that may be, as a plain one -/
theorem okD_some {low high code : Nat} {bs : List Nat} {N At : Int} (h : okD low high code bs N At = true) (hlt : ∀ x ∈ bs, x < 256) : ∃ (d : De) (l : List Bool), low = d.low ∧ high = d.high ∧ code = d.code ∧ At = (d.at_ : Int) ∧ FineD d ∧ 32 ≤ d.at_ ∧ d.at_ ≤ 65600 ∧ bs = pack l ∧ N = ((l.length : Nat) : Int) ∧ l.length ≤ 65536 := by
  unfold okD at h
  simp only [Bool.and_eq_true, decide_eq_true_eq] at h
  obtain ⟨h1, h2, h3, h4, h5, h6⟩ := h
  unfold wideB at h1
  obtain ⟨a1, a2, a3⟩ := of_decide_eq_true h1
  obtain ⟨l, b1, b2, b3⟩ := okB_some h4 hlt
  exact ⟨⟨low, high, code, At.toNat⟩, l, rfl, rfl, rfl, by show At = ((At.toNat : Nat) : Int); omega, ⟨⟨by show low ≤ high; omega, a2⟩, a3, h2, h3⟩, by show 32 ≤ At.toNat; omega, by show At.toNat ≤ 65600; omega, b2, b3, b1⟩
/-- both answer the same of a state and a table -/
theorem next_both (low high code : Nat) (N At : Int) (bs : List Nat) (C : Option Addr) (m dd : Nat) (xs : List Int) (hl : low < 4294967296) (hh : high < 4294967296) (hc : code < 4294967296) (hlt : ∀ x ∈ bs, x < 256) (hm : m ≤ maxLen) :
    ∃ (lo hi co : Nat) (At' N' K E : Int) (bs' : List Nat), ∀ (w : World) (A : Option Addr) (n c : Nat), Rd w A n bs → Fq.RdI w C m xs →
      Calls Try.prog 21 #[decV low high code A n c N At, .agg #[.slice C m dd]] w (NOut w lo hi co At' N' K E bs') ∧
      Calls Try.prog 22 #[decV low high code A n c N At, .agg #[.slice C m dd]] w (NOut w lo hi co At' N' K E bs') := by
  cases hok : okD low high code bs N At with
  | false => exact ⟨0, 0, 0, 0, 0, 0, 1, [], fun w A n c hr hx => ⟨pnext_arg low high code A n c N At bs C m dd xs w hl hh hc (Lib.hid hr) (Lib.hid hx) (Lib.hid hok), rnext_arg low high code A n c N At bs C m dd xs w hl hh hc (Lib.hid hr) (Lib.hid hx) (Lib.hid hm) (Lib.hid (.inl hok))⟩⟩
  | true =>
    obtain ⟨d, l, rfl, rfl, rfl, rfl, hd, h32, hat, rfl, rfl, hll⟩ := okD_some hok hlt
    have mk : ∀ (w : World) (A : Option Addr) (n c : Nat), Rd w A n (pack l) → IsB w (.agg #[.slice A n c, .int .i64 ((l.length : Nat) : Int)]) l := by
      intro w A n c hr
      obtain ⟨h1, h2⟩ := hr
      subst h1
      exact ⟨A, c, rfl, ⟨rfl, h2⟩, hll⟩
    cases hF : Fq.okF xs with
    | false => exact ⟨0, 0, 0, 0, 0, 0, 1, [], fun w A n c hr hx => ⟨pnext_err d A n c l.length l C m dd xs 1 w (Lib.hid (mk w A n c hr)) (Lib.hid hd) h32 hat (Lib.hid hx) (Lib.hid hm) (Lib.hid (by unfold nxErr; rw [hF]; rfl)) (by decide), rnext_arg _ _ _ A n c _ _ (pack l) C m dd xs w hl hh hc (Lib.hid hr) (Lib.hid hx) (Lib.hid hm) (Lib.hid (.inr ⟨hok, hF⟩))⟩⟩
    | true =>
      by_cases hs : l.length + 32 < d.at_
      · exact ⟨0, 0, 0, 0, 0, 0, 20, [], fun w A n c hr hx => ⟨pnext_err d A n c l.length l C m dd xs 20 w (Lib.hid (mk w A n c hr)) (Lib.hid hd) h32 hat (Lib.hid hx) (Lib.hid hm) (Lib.hid (by unfold nxErr; rw [if_pos hF, if_pos hs])) (by decide), rnext_short d A n c l.length l C m dd xs w (Lib.hid (mk w A n c hr)) (Lib.hid hd) h32 hat hs (Lib.hid hx) (Lib.hid hm) (Lib.hid hF)⟩⟩
      · exact ⟨_, _, _, _, _, _, _, _, fun w A n c hr hx => ⟨pnext_ok d A n c l.length l C m dd xs _ w (Lib.hid (mk w A n c hr)) (Lib.hid hd) h32 hat (by omega) (Lib.hid hx) (Lib.hid hm) (Lib.hid hF) (Lib.hid rfl), rnext_ok d A n c l.length l C m dd xs _ w (Lib.hid (mk w A n c hr)) (Lib.hid hd) h32 hat (by omega) (Lib.hid hx) (Lib.hid hm) (Lib.hid hF) (Lib.hid rfl)⟩⟩
/-- both begin alike -/
theorem start_both (N : Int) (bs : List Nat) (hlt : ∀ x ∈ bs, x < 256) :
    ∃ (lo hi co : Nat) (At' N' E : Int) (bs' : List Nat), lo < 4294967296 ∧ hi < 4294967296 ∧ co < 4294967296 ∧ (∀ x ∈ bs', x < 256) ∧ ∀ (w : World) (A : Option Addr) (n c : Nat), Rd w A n bs →
      Calls Try.prog 23 #[.agg #[.slice A n c, .int .i64 N]] w (DOut w lo hi co At' N' E bs') ∧
      Calls Try.prog 24 #[.agg #[.slice A n c, .int .i64 N]] w (DOut w lo hi co At' N' E bs') := by
  cases hok : okB bs N with
  | false => exact ⟨0, 0, 0, 0, 0, 1, [], by omega, by omega, by omega, by simp, fun w A n c hr => ⟨pstart_no A n c N bs w (Lib.hid hr) (Lib.hid hok), rstart_no A n c N bs w (Lib.hid hr) (Lib.hid hok)⟩⟩
  | true =>
    obtain ⟨l, hll, rfl, rfl⟩ := okB_some hok hlt
    have mk : ∀ (w : World) (A : Option Addr) (n c : Nat), Rd w A n (pack l) → IsB w (.agg #[.slice A n c, .int .i64 ((l.length : Nat) : Int)]) l := by
      intro w A n c hr
      obtain ⟨h1, h2⟩ := hr
      subst h1
      exact ⟨A, c, rfl, ⟨rfl, h2⟩, hll⟩
    exact ⟨0, 4294967295, val l 32, 32, _, 0, pack l, by omega, by omega, by have := val_lt l 32; rw [pow32] at this; exact this, pack_lt l, fun w A n c hr => ⟨pstart_ok A n c l.length l w (Lib.hid (mk w A n c hr)), rstart_ok A n c _ l w (Lib.hid (mk w A n c hr))⟩⟩
end Go.Proofs.Ytgelgbfnioagbaa.Cd
