/-
  Own texts, laid together: Cb.
-/
import Derived.Test.YtgelgbfnioagbaaCa
/- Cb -/
namespace Go.Proofs.Ytgelgbfnioagbaa.Cd
open Go.RowKit
def NarP (w : World) (lo hi : Nat) (e : Ending) (w' : World) : Prop := e = .returned (.tuple #[.int .u64 (lo : Int), .int .u64 (hi : Int)]) ∧ ∃ q, w' = w.drewN q
set_option maxRecDepth 100000 in
set_option maxHeartbeats 2000000 in
theorem rnarrow_any (low high a b T lo hi : Nat) (w : World) (h1 : low ≤ high) (h2 : high < 4294967296) (ha : a ≤ 16384) (hb : b ≤ 16384) (hT : 1 ≤ T) (hT2 : T ≤ 16384)
    (hlo : Hid (lo = low + (high - low + 1) * a / T)) (hhi : Hid (hi = low + (high - low + 1) * b / T - 1)) (hb1 : Hid (1 ≤ (high - low + 1) * b / T)) :
    Calls Try.prog 43 #[.int .u64 (low : Int), .int .u64 (high : Int), .int .i64 (a : Int), .int .i64 (b : Int), .int .i64 (T : Int)] w (NarP w lo hi) := by
  obtain ⟨W, hW⟩ : ∃ W, W = high - low + 1 := ⟨_, rfl⟩
  have eW : (high : Int) - (low : Int) + 1 = (W : Int) := by omega
  have W2 : W ≤ 4294967296 := by omega
  have HLO := hlo.out
  have HHI := hhi.out
  have HB1 := hb1.out
  rw [← hW] at HLO HHI HB1
  obtain ⟨pa, hpa⟩ : ∃ pa, pa = W * a := ⟨_, rfl⟩
  obtain ⟨pb, hpb⟩ : ∃ pb, pb = W * b := ⟨_, rfl⟩
  have pa2 : pa ≤ 70368744177664 := by rw [hpa]; exact Nat.le_trans (Nat.mul_le_mul W2 ha) (by omega)
  have pb2 : pb ≤ 70368744177664 := by rw [hpb]; exact Nat.le_trans (Nat.mul_le_mul W2 hb) (by omega)
  have epa : (W : Int) * (a : Int) = (pa : Int) := by rw [hpa]; simp
  have epb : (W : Int) * (b : Int) = (pb : Int) := by rw [hpb]; simp
  obtain ⟨qa, hqa⟩ : ∃ qa, qa = pa / T := ⟨_, rfl⟩
  obtain ⟨qb, hqb⟩ : ∃ qb, qb = pb / T := ⟨_, rfl⟩
  have qa2 : qa ≤ pa := by rw [hqa]; exact Nat.div_le_self _ _
  have qb2 : qb ≤ pb := by rw [hqb]; exact Nat.div_le_self _ _
  have eqa : (pa : Int) / (T : Int) = (qa : Int) := by rw [hqa]; simp
  have eqb : (pb : Int) / (T : Int) = (qb : Int) := by rw [hqb]; simp
  rw [← hpa, ← hqa] at HLO
  rw [← hpb, ← hqb] at HHI HB1
  have elo : (low : Int) + (qa : Int) = (lo : Int) := by omega
  obtain ⟨h1', hh1⟩ : ∃ h1', h1' = low + qb := ⟨_, rfl⟩
  have eh1 : (low : Int) + (qb : Int) = (h1' : Int) := by omega
  have ehi : (h1' : Int) - 1 = (hi : Int) := by omega
  have lo2 : lo ≤ 100000000000000 := by omega
  have h12 : h1' ≤ 100000000000000 := by omega
  have hi2 : hi ≤ 100000000000000 := by omega
  have T0 : ¬ (T : Int) = 0 := by omega
  have T0' : ((T : Int) == 0) = false := by simp; omega
  clear hW hpa hpb hqa hqb hh1 HLO HHI HB1 hlo hhi hb1
  have w1 : IntKind.u64.wrap (pa : Int) = (pa : Int) := IntWalk.u64_in _ (by omega)
  have w2 : IntKind.u64.wrap (pb : Int) = (pb : Int) := IntWalk.u64_in _ (by omega)
  have w3 : IntKind.u64.wrap (qa : Int) = (qa : Int) := IntWalk.u64_in _ (by omega)
  have w4 : IntKind.u64.wrap (qb : Int) = (qb : Int) := IntWalk.u64_in _ (by omega)
  have w5 : IntKind.u64.wrap (lo : Int) = (lo : Int) := IntWalk.u64_in _ (by omega)
  have w6 : IntKind.u64.wrap (h1' : Int) = (h1' : Int) := IntWalk.u64_in _ (by omega)
  have w7 : IntKind.u64.wrap (hi : Int) = (hi : Int) := IntWalk.u64_in _ (by omega)
  have w8 : IntKind.u64.wrap (a : Int) = (a : Int) := IntWalk.u64_in _ (by omega)
  have w9 : IntKind.u64.wrap (b : Int) = (b : Int) := IntWalk.u64_in _ (by omega)
  have w10 : IntKind.u64.wrap (T : Int) = (T : Int) := IntWalk.u64_in _ (by omega)
  go_enter Try.func43, Try.ntmps43
  go_wp2_with fail
  go_quiet (fail)
  go_wp2
  exact bodyPost_ret (v := .tuple #[.int .u64 (lo : Int), .int .u64 (hi : Int)]) (by simp [results, Try.results43, go_sem]) rfl ⟨rfl, nq, rfl⟩
/-- an encoder's state by value -/
def encV (low high : Nat) (wt : Int) (A : Option Addr) (n c : Nat) (N : Int) : Value := .agg #[.int .u32 (low : Int), .int .u32 (high : Int), .int .i64 wt, .slice A n c, .int .i64 N]
/-- whether it may be -/
def okE (low high : Nat) (wt : Int) (bs : List Nat) (N : Int) : Bool := wideB low high && (decide (0 ≤ wt) && (decide (wt ≤ 65536) && okB bs N))
theorem blk5 {w : World} {t : TypeId} {a b c d e : Value} {g : Nat} (h : Blk w g t #[a, b, c, d, e]) : w.cell? ⟨g, 0, none⟩ = some a ∧ w.cell? ⟨g, 1, none⟩ = some b ∧ w.cell? ⟨g, 2, none⟩ = some c ∧ w.cell? ⟨g, 3, none⟩ = some d ∧ w.cell? ⟨g, 4, none⟩ = some e := ⟨h.cell 0, h.cell 1, h.cell 2, h.cell 3, h.cell 4⟩
set_option maxRecDepth 100000 in
set_option maxHeartbeats 2000000 in
theorem rcheckEnc_any (low high : Nat) (wt : Int) (A : Option Addr) (n c : Nat) (N : Int) (bs : List Nat) (r : Bool) (w : World) (hl : low < 4294967296) (hh : high < 4294967296) (hr : Hid (Rd w A n bs)) (hok : Hid (okE low high wt bs N = r)) :
    Calls Try.prog 42 #[encV low high wt A n c N] w fun e w' => e = .returned (.bool r) ∧ Below w.heap.size w w' := by
  have HK := Lib.hid (Blk.new w 27 #[.int .u32 (low : Int), .int .u32 (high : Int), .int .i64 wt, .slice A n c, .int .i64 N])
  have HW := Lib.hid ((Below.refl w.heap.size w).alloc (Nat.le_refl _) (.cells #[.int .u32 (low : Int), .int .u32 (high : Int), .int .i64 wt, .slice A n c, .int .i64 N] 27))
  have HR := Lib.hid (hr.out.alloc (.cells #[.int .u32 (low : Int), .int .u32 (high : Int), .int .i64 wt, .slice A n c, .int .i64 N] 27))
  unfold encV
  go_enter Try.func42, Try.ntmps42
  go_wp2_with fail
  generalize w.alloc (.cells #[.int .u32 (low : Int), .int .u32 (high : Int), .int .i64 wt, .slice A n c, .int .i64 N] 27) = w0 at HK HW HR ⊢
  obtain ⟨wd, hwd⟩ : ∃ wd, wideB low high = wd := ⟨_, rfl⟩
  have HWD := Lib.hid hwd
  clear hwd
  refine (rwide_any low high wd _ HWD.out).mono ?_
  rintro e w' ⟨rfl, rfl⟩
  obtain ⟨x1, x2, x3, x4, x5⟩ := blk5 HK.out
  cases wd with
  | false =>
    have HE := Lib.hid (show r = false by rw [← hok.out]; unfold okE; rw [HWD.out]; rfl)
    go_wp2
    go_ret
    exact ⟨by rw [HE.out]; rfl, HW.out⟩
  | true =>
    by_cases h0 : 0 ≤ wt
    · have d0 : decide (0 ≤ wt) = true := by simpa using h0
      by_cases h6 : wt ≤ 65536
      · have d6 : decide (wt ≤ 65536) = true := by simpa using h6
        obtain ⟨ok, hokB⟩ : ∃ ok, okB bs N = ok := ⟨_, rfl⟩
        have HOK := Lib.hid hokB
        clear hokB
        have HE := Lib.hid (show r = ok by rw [← hok.out]; unfold okE; rw [HWD.out, d0, d6, HOK.out]; rfl)
        go_wp2_with fail
        have hcon := rcheck_any A n c N bs w0 HR.out
        rw [HOK.out] at hcon
        refine hcon.mono ?_
        clear hcon
        rintro e w2 ⟨rfl, hb2⟩
        have HW2 := Lib.hid (HW.out.trans (hb2.mono HW.out.size))
        clear hb2
        cases ok with
        | true =>
          go_wp2
          go_ret
          exact ⟨by rw [HE.out]; rfl, HW2.out⟩
        | false =>
          go_wp2
          go_ret
          exact ⟨by rw [HE.out]; rfl, HW2.out⟩
      · have d6 : decide (wt ≤ 65536) = false := by simpa using h6
        have HE := Lib.hid (show r = false by rw [← hok.out]; unfold okE; rw [HWD.out, d0, d6]; rfl)
        go_wp2
        go_ret
        exact ⟨by rw [HE.out]; rfl, HW.out⟩
    · have d0 : decide (0 ≤ wt) = false := by simpa using h0
      have HE := Lib.hid (show r = false by rw [← hok.out]; unfold okE; rw [HWD.out, d0]; rfl)
      go_wp2
      go_ret
      exact ⟨by rw [HE.out]; rfl, HW.out⟩
/-- a state's Out, where it may be -/
theorem okE_some {low high : Nat} {wt : Int} {bs : List Nat} {N : Int} {w : World} {A : Option Addr} {n c : Nat} (h : okE low high wt bs N = true) (hr : Rd w A n bs) :
    ∃ (k : Nat) (l : List Bool), wt = (k : Int) ∧ k ≤ 65536 ∧ low < high ∧ high < 4294967296 ∧ kind low high = 3 ∧ IsB w (.agg #[.slice A n c, .int .i64 N]) l ∧ bs = pack l ∧ N = (l.length : Int) ∧ l.length ≤ 65536 := by
  unfold okE at h
  simp only [Bool.and_eq_true, decide_eq_true_eq] at h
  obtain ⟨h1, h2, h3, h4⟩ := h
  unfold wideB at h1
  obtain ⟨a1, a2, a3⟩ := of_decide_eq_true h1
  obtain ⟨l, b1, b2, b3⟩ := IsB.of_ok (c := c) h4 hr
  have b4 : l.length ≤ 65536 := by
    obtain ⟨_, _, _, _, hl⟩ := b1
    exact hl
  exact ⟨wt.toNat, l, by omega, by omega, a1, a2, a3, b1, b2, b3, b4⟩
/-- what End answers of a state that may be -/
def endW (low k : Nat) (l : List Bool) : List Bool := emit l (decide (1073741824 ≤ low)) (k + 1)
set_option maxRecDepth 100000 in
set_option maxHeartbeats 2000000 in
theorem rend_ok (low high k : Nat) (A : Option Addr) (n c : Nat) (N : Int) (bs : List Nat) (l : List Bool) (NE EE : Int) (be : List Nat) (w : World) (hl : low < 4294967296) (hh : high < 4294967296) (hk : k ≤ 65536) (hr : Hid (Rd w A n bs)) (hok : Hid (okE low high (k : Int) bs N = true)) (hib : Hid (IsB w (.agg #[.slice A n c, .int .i64 N]) l)) (hp : Hid (pWhat (endW low k l) = (NE, EE, be))) :
    Calls Try.prog 16 #[encV low high (k : Int) A n c N] w (JOut w NE EE be) := by
  unfold encV
  have HK := Lib.hid (show Blk ((w.alloc (.cells #[.int .u32 (low : Int), .int .u32 (high : Int), .int .i64 (k : Int), .slice A n c, .int .i64 N] 27)).alloc (.cells #[.slice none 0 0, .int .i64 0] 25)) w.heap.size 27 #[.int .u32 (low : Int), .int .u32 (high : Int), .int .i64 (k : Int), .slice A n c, .int .i64 N] from (Blk.new w _ _).alloc _)
  have HK2 := Lib.hid (show Blk ((w.alloc (.cells #[.int .u32 (low : Int), .int .u32 (high : Int), .int .i64 (k : Int), .slice A n c, .int .i64 N] 27)).alloc (.cells #[.slice none 0 0, .int .i64 0] 25)) (w.heap.size + 1) 25 #[.slice none 0 0, .int .i64 0] from Blk.newAt (by simp))
  have HW := Lib.hid (show Below w.heap.size w ((w.alloc (.cells #[.int .u32 (low : Int), .int .u32 (high : Int), .int .i64 (k : Int), .slice A n c, .int .i64 N] 27)).alloc (.cells #[.slice none 0 0, .int .i64 0] 25)) from ((Below.refl w.heap.size w).alloc (Nat.le_refl _) _).alloc (by simp) _)
  go_enter Try.func16, Try.ntmps16
  go_wp2_with fail
  generalize (w.alloc (.cells #[.int .u32 (low : Int), .int .u32 (high : Int), .int .i64 (k : Int), .slice A n c, .int .i64 N] 27)).alloc (.cells #[.slice none 0 0, .int .i64 0] 25) = w0 at HK HK2 HW ⊢
  refine (rcheckEnc_any low high (k : Int) A n c N bs true w0 hl hh (Lib.hid (hr.out.below HW.out)) hok).mono ?_
  rintro e w1 ⟨rfl, hb1⟩
  have HK1 := Lib.hid (HK.out.below hb1 HK.out.lt)
  have HJ1 := Lib.hid (HK2.out.below hb1 HK2.out.lt)
  have HW1 := Lib.hid (HW.out.trans (hb1.mono HW.out.size))
  clear hb1
  obtain ⟨x1, x2, x3, x4, x5⟩ := blk5 HK1.out
  have HI1 := Lib.hid (hib.out.below HW1.out)
  by_cases hlow : 1073741824 ≤ low
  · have d1 : decide ((low : Int) < 1073741824) = false := by simp; omega
    go_wp2_with fail
    refine (rout_any A n c l true 1 (k + 1) N NE EE be _ HI1 (Lib.hid rfl) (by omega) (by omega) (Lib.hid (by have := hp.out; unfold endW at this; rw [decide_eq_true hlow] at this; exact this))).mono ?_
    rintro e w2 ⟨A2, n2, c2, rfl, hb2, hr2⟩
    have HJ2 := Lib.hid (HJ1.out.below hb2 HJ1.out.lt)
    have HW2 := Lib.hid (HW1.out.trans (hb2.mono HW1.out.size))
    have HR2 := Lib.hid hr2
    clear hb2 hr2
    obtain ⟨y1, y2, y3, y4⟩ := blk2 HJ2.out
    go_wp2
    exact bodyPost_ret (v := .tuple #[.agg #[.slice A2 n2 c2, .int .i64 NE], .int .i64 EE]) (by simp [results, Try.results16, go_sem, y1, y2]) rfl ⟨A2, n2, c2, rfl, (HW2.out.setCell (by simp) _).setCell (by simp) _, rd_box HR2.out HJ2.out _ _⟩
  · have d1 : decide ((low : Int) < 1073741824) = true := by simp; omega
    go_wp2_with fail
    refine (rout_any A n c l false 0 (k + 1) N NE EE be _ HI1 (Lib.hid rfl) (by omega) (by omega) (Lib.hid (by have := hp.out; unfold endW at this; rw [decide_eq_false hlow] at this; exact this))).mono ?_
    rintro e w2 ⟨A2, n2, c2, rfl, hb2, hr2⟩
    have HJ2 := Lib.hid (HJ1.out.below hb2 HJ1.out.lt)
    have HW2 := Lib.hid (HW1.out.trans (hb2.mono HW1.out.size))
    have HR2 := Lib.hid hr2
    clear hb2 hr2
    obtain ⟨y1, y2, y3, y4⟩ := blk2 HJ2.out
    go_wp2
    exact bodyPost_ret (v := .tuple #[.agg #[.slice A2 n2 c2, .int .i64 NE], .int .i64 EE]) (by simp [results, Try.results16, go_sem, y1, y2]) rfl ⟨A2, n2, c2, rfl, (HW2.out.setCell (by simp) _).setCell (by simp) _, rd_box HR2.out HJ2.out _ _⟩
end Go.Proofs.Ytgelgbfnioagbaa.Cd
