/-
  Own texts, laid together: Jb.
-/
import Derived.Test.YtgelgbfnioagbaaJa
import Derived.Test.YtgelgbfnioagbaaGj
import Derived.StillTailTactics
/- Jb -/
namespace Go.Proofs.Ytgelgbfnioagbaa.Cd
open Go.RowKit
/-- bytes of the answer's own, or none -/
def FrB (w : World) (A : Option Addr) (n : Nat) (bs : List Nat) (w' : World) : Prop := n = 0 ∨ ∃ g, A = some ⟨g, 0, none⟩ ∧ w.heap.size ≤ g ∧ bs.length = n ∧ Blk w' g 5 (bcells bs)
theorem FrB.five {w u : World} {A : Option Addr} {n br : Nat} {bs : List Nat} (h : FrB w A n bs u) (hb : br < w.heap.size) (x0 x1 x2 x3 x4 : Value) : FrB w A n bs (((((u.setCell ⟨br, 0, none⟩ x0).setCell ⟨br, 1, none⟩ x1).setCell ⟨br, 2, none⟩ x2).setCell ⟨br, 3, none⟩ x3).setCell ⟨br, 4, none⟩ x4) := by
  rcases h with h | ⟨g, e, hg, hl, hB⟩
  · exact .inl h
  · have hn : ∀ i, g ≠ (⟨br, i, none⟩ : Addr).block := fun i => by show g ≠ br; omega
    exact .inr ⟨g, e, hg, hl, ((((hB.far (hn 0) x0).far (hn 1) x1).far (hn 2) x2).far (hn 3) x3).far (hn 4) x4⟩
theorem FrB.mono {w w0 u : World} {A : Option Addr} {n : Nat} {bs : List Nat} (h : FrB w A n bs u) (hb : w0.heap.size ≤ w.heap.size) : FrB w0 A n bs u := by
  rcases h with h | ⟨g, e, hg, hl, hB⟩
  · exact .inl h
  · exact .inr ⟨g, e, Nat.le_trans hb hg, hl, hB⟩
theorem FrB.next {w u u' : World} {A : Option Addr} {n : Nat} {bs : List Nat} (h : FrB w A n bs u) (hb : Below u.heap.size u u') : FrB w A n bs u' := by
  rcases h with h | ⟨g, e, hg, hl, hB⟩
  · exact .inl h
  · exact .inr ⟨g, e, hg, hl, hB.below hb hB.lt⟩
/-- a state by value, and an error; the bytes are its own -/
def EOutF (w : World) (lo hi : Nat) (wt N E : Int) (bs : List Nat) (e : Ending) (w' : World) : Prop :=
  ∃ A n c, e = .returned (.tuple #[encV lo hi wt A n c N, .int .i64 E]) ∧ Below w.heap.size w w' ∧ Rd w' A n bs ∧ FrB w A n bs w'
theorem EOutF.err {w w' : World} {E : Int} (hb : Below w.heap.size w w') : EOutF w 0 0 0 0 E [] (.returned (.tuple #[encV 0 0 0 none 0 0 0, .int .i64 E])) w' := ⟨none, 0, 0, rfl, hb, Rd.none_, .inl rfl⟩
theorem isN_fr {w u : World} {A : Option Addr} {n c : Nat} {N : Int} {l : List Bool} (h : IsN u w.heap.size (.agg #[.slice A n c, .int .i64 N]) l) : FrB w A n (pack l) u := by
  obtain ⟨g, e, hg, hB, _⟩ := h
  simp only [Value.agg.injEq, Array.mk.injEq, List.cons.injEq, Value.slice.injEq, and_true] at e
  exact .inr ⟨g, e.1.1, hg, e.1.2.1.symm, hB⟩
set_option maxRecDepth 100000 in
set_option maxHeartbeats 2000000 in
theorem wstate_any (z : Bs) (p : Nat) (e : En) (w : World) (hs : Hid (WS z p e w)) (ho : e.out.length ≤ 65536) :
    Calls Try.prog 40 #[.pointer (some ⟨p, 0, none⟩)] w (EOutF w e.low e.high (e.wait : Int) ((e.out.length : Nat) : Int) 0 (pack e.out)) := by
  have HS0 := Lib.hid (WSm.next hs.out ((Below.refl w.heap.size w).alloc (Nat.le_refl _) (.cells #[.int .u32 0, .int .u32 0, .int .i64 0, .slice none 0 0, .int .i64 0] 27)))
  have HK := Lib.hid (Blk.new w 27 #[.int .u32 0, .int .u32 0, .int .i64 0, .slice none 0 0, .int .i64 0])
  have HW := Lib.hid ((Below.refl w.heap.size w).alloc (Nat.le_refl _) (.cells #[.int .u32 0, .int .u32 0, .int .i64 0, .slice none 0 0, .int .i64 0] 27))
  obtain ⟨g, kk, cap, c3, hj⟩ := end_join HS0.out (by omega)
  have HJ := Lib.hid hj
  have lp := WSm.lt hs.out
  clear hj
  go_enter Try.func40, Try.ntmps40
  go_wp2_with fail
  clear c3 lp
  generalize w.alloc (.cells #[.int .u32 0, .int .u32 0, .int .i64 0, .slice none 0 0, .int .i64 0] 27) = w1 at HS0 HK HW HJ ⊢
  obtain ⟨br, hbr⟩ : ∃ br, br = w.heap.size := ⟨_, rfl⟩
  rw [← hbr] at HK ⊢
  have HBR := Lib.hid hbr
  clear hbr
  refine HJ.out.mono ?_
  rintro ee w2 ⟨A2, n2, c2, N2, er, rfl, hb2, hq⟩
  have hq2 : er = 0 ∧ IsN w2 w1.heap.size (.agg #[.slice A2 n2 c2, .int .i64 N2]) e.out := by
    rcases hq with ⟨_, h1, h2⟩ | ⟨h, _⟩
    · exact ⟨h1, h2⟩
    · omega
  obtain ⟨rfl, hIN⟩ := hq2
  have hN2 : N2 = ((e.out.length : Nat) : Int) := (isB_parts hIN.isB).2.1
  subst hN2
  have HFB2 := Lib.hid ((isN_fr hIN).next ((Below.refl w2.heap.size w2).alloc (Nat.le_refl _) (.cells #[.slice A2 n2 c2, .int .i64 ((e.out.length : Nat) : Int)] 25)))
  have HBW := Lib.hid (show br < w1.heap.size ∧ w.heap.size ≤ w1.heap.size from ⟨HK.out.lt, HW.out.size⟩)
  have HR2 := Lib.hid ((isB_parts hIN.isB).2.2.1.alloc (.cells #[.slice A2 n2 c2, .int .i64 ((e.out.length : Nat) : Int)] 25))
  have HK2 := Lib.hid ((HK.out.below hb2 HK.out.lt).alloc (.cells #[.slice A2 n2 c2, .int .i64 ((e.out.length : Nat) : Int)] 25))
  have HX2 := Lib.hid (Blk.new w2 25 #[.slice A2 n2 c2, .int .i64 ((e.out.length : Nat) : Int)])
  have HW2 := Lib.hid ((HW.out.trans (hb2.mono HW.out.size)).alloc (HW.out.trans (hb2.mono HW.out.size)).size (.cells #[.slice A2 n2 c2, .int .i64 ((e.out.length : Nat) : Int)] 25))
  have HS2 := Lib.hid (WSm.next hs.out HW2.out)
  clear hb2 hq hIN HW HK HS0 HJ
  go_wp2_with fail
  generalize w2.alloc (.cells #[.slice A2 n2 c2, .int .i64 ((e.out.length : Nat) : Int)] 25) = w3 at HFB2 HR2 HK2 HX2 HW2 HS2 ⊢
  generalize w2.heap.size = b4 at HX2 ⊢
  obtain ⟨x0, x1, -, -⟩ := WSm.two HS2.out
  obtain ⟨x2, -⟩ := WSm.wait_ HS2.out
  obtain ⟨j0, j1, -, -⟩ := blk2 HX2.out
  go_still_tail 16, (by kernel_rfl)
  change wpList _ _ _ _ _ w3.drew
  have HR4 := Lib.hid HR2.out.drew
  have HFB4 := Lib.hid (show FrB w1 A2 n2 (pack e.out) w3.drew from HFB2.out)
  have HK4 := Lib.hid HK2.out.drew
  have HW4 := Lib.hid (Below.drew HW2.out)
  clear x0 x1 x2 j0 j1 HR2 HK2 HW2 HX2 HS2 HFB2
  generalize w3.drew = w4 at HR4 HK4 HW4 HFB4 ⊢
  obtain ⟨y1, y2, y3, y4, y5⟩ := blk5 HK4.out
  obtain ⟨z1, z2, z3, z4, z5⟩ := frz5 HK4.out
  go_wp2
  exact bodyPost_ret (v := .tuple #[encV e.low e.high (e.wait : Int) A2 n2 c2 ((e.out.length : Nat) : Int), .int .i64 0]) (by simp [results, Try.results40, go_sem, encV, y1, y2, y3, y4, y5]) rfl ⟨A2, n2, c2, rfl, below5 HW4.out (by have := HBR.out; omega) _ _ _ _ _, rd_five HR4.out HK4.out _ _ _ _ _, (HFB4.out.five HBW.out.1 _ _ _ _ _).mono HBW.out.2⟩
set_option maxRecDepth 100000 in
set_option maxHeartbeats 2000000 in
theorem pputE_arg (low high : Nat) (wt : Int) (A C : Option Addr) (n c m d : Nat) (N : Int) (bs : List Nat) (xs : List Int) (s : Int) (w : World) (hl : low < 4294967296) (hh : high < 4294967296) (hr : Hid (Rd w A n bs)) (hx : Hid (Fq.RdI w C m xs)) (hbad : Hid (okE low high wt bs N = false)) :
    Calls Try.prog 13 #[encV low high wt A n c N, .agg #[.slice C m d], .int .i64 s] w (EOutF w 0 0 0 0 1 []) := by
  have HS0 := Lib.hid (putS_start w low high wt A C n c m d N bs xs hr.out hx.out)
  have hcon := fun u (hb : Below w.heap.size w u) => resume_no low high wt A n c N bs u hl hh (Lib.hid (hr.out.below hb)) hbad
  unfold encV at hcon
  have HCON := Lib.hid hcon
  clear hcon
  unfold encV
  go_enter Try.func13, Try.ntmps13
  go_wp2_with fail
  generalize (((w.alloc (.cells #[.int .u32 (low : Int), .int .u32 (high : Int), .int .i64 wt, .slice A n c, .int .i64 N] 27)).alloc (.cells #[.slice C m d] 30)).alloc (.cells #[.int .u32 0, .int .u32 0, .int .i64 0, .slice none 0 0, .int .i64 0] 27)) = w0 at HS0 ⊢
  refine (HCON.out w0 HS0.out.2.2.2.2.2).mono ?_
  rintro e w2 ⟨rfl, hb2⟩
  have HS2 := Lib.hid (HS0.out.next hb2)
  clear hb2 HS0 HCON
  obtain ⟨y1, y2, y3, y4, y5⟩ := blk5 HS2.out.2.2.1
  obtain ⟨z1, z2, z3, z4, z5⟩ := frz5 HS2.out.2.2.1
  go_wp2
  exact bodyPost_ret (v := .tuple #[encV 0 0 0 none 0 0 0, .int .i64 1]) (by simp [results, Try.results13, go_sem, encV, y1, y2, y3, y4, y5]) rfl (EOutF.err (below5 HS2.out.2.2.2.2.2 (by omega) _ _ _ _ _))
theorem PutS.base {w w' u : World} {be bf br : Nat} {low high : Nat} {wt : Int} {A C : Option Addr} {n c m d : Nat} {N : Int} {bs : List Nat} {xs : List Int} (h : PutS w u be bf br low high wt A C n c m d N bs xs) (hb : Below u.heap.size u w') : PutS w w' be bf br low high wt A C n c m d N bs xs := h.next hb
set_option maxRecDepth 100000 in
set_option maxHeartbeats 4000000 in
theorem pputE_ok (low high k : Nat) (A C : Option Addr) (n c m d : Nat) (N : Int) (bs : List Nat) (l : List Bool) (xs : List Int) (s : Int) (lo hi : Nat) (wt NN EE : Int) (be : List Nat) (w : World) (hlh : low < high) (hh : high < 4294967296) (hk3 : Hid (kind low high = 3)) (hk : k ≤ 65536) (hr : Hid (Rd w A n bs)) (hib : Hid (IsB w (.agg #[.slice A n c, .int .i64 N]) l)) (hx : Hid (Fq.RdI w C m xs)) (hm : Hid (m ≤ maxLen))
    (hp : Hid ((okP (s, xs) = false ∧ (lo, hi, wt, NN, EE, be) = (0, 0, 0, 0, 1, [])) ∨ (okP (s, xs) = true ∧ encWhat (put1 ⟨low, high, k, l⟩ (s, xs)) = (lo, hi, wt, NN, EE, be)))) :
    Calls Try.prog 13 #[encV low high (k : Int) A n c N, .agg #[.slice C m d], .int .i64 s] w (EOutF w lo hi wt NN EE be) := by
  have HLL := Lib.hid (isB_parts hib.out).2.2.2
  have HS0 := Lib.hid (putS_start w low high (k : Int) A C n c m d N bs xs hr.out hx.out)
  have hcon := fun u (hb : Below w.heap.size w u) => resume_ok low high k A n c N l u (by omega) hh hk hk3 (Lib.hid (hib.out.below hb))
  unfold encV at hcon
  have HCON := Lib.hid hcon
  clear hcon
  unfold encV
  go_enter Try.func13, Try.ntmps13
  go_wp2_with fail
  generalize (((w.alloc (.cells #[.int .u32 (low : Int), .int .u32 (high : Int), .int .i64 (k : Int), .slice A n c, .int .i64 N] 27)).alloc (.cells #[.slice C m d] 30)).alloc (.cells #[.int .u32 0, .int .u32 0, .int .i64 0, .slice none 0 0, .int .i64 0] 27)) = w0 at HS0 ⊢
  obtain ⟨be', hbe⟩ : ∃ be', be' = w.heap.size := ⟨_, rfl⟩
  rw [← hbe] at HS0 ⊢
  have HBE := Lib.hid hbe
  clear hbe
  refine (HCON.out w0 HS0.out.2.2.2.2.2).mono ?_
  rintro e w2 ⟨z, p, hz, rfl, hw2⟩
  have HW2 := Lib.hid hw2
  have HZ := Lib.hid (show PutS w z.w be' (be' + 1) (be' + 1 + 1) low high (k : Int) A C n c m d N bs xs by rw [hz]; exact HS0.out)
  have HS2 := Lib.hid (HZ.out.next (WSm.base hw2))
  clear hw2 hz HCON HS0
  have x3 := Fq.blk0 HS2.out.2.1
  go_wp2_with fail
  clear x3
  rcases hp.out with ⟨hq, he⟩ | ⟨hq, he⟩
  · simp only [Prod.mk.injEq] at he
    obtain ⟨rfl, rfl, rfl, rfl, rfl, rfl⟩ := he
    have HQ := Lib.hid hq
    clear hq
    refine (put_no z p _ _ _ _ _ C m d xs s _ HW2 (Lib.hid HS2.out.2.2.2.2.1) hm HQ).mono ?_
    rintro e w5 ⟨rfl, h5⟩
    have HS5 := Lib.hid (HZ.out.next h5.base)
    clear h5
    obtain ⟨y1, y2, y3, y4, y5⟩ := blk5 HS5.out.2.2.1
    obtain ⟨z1, z2, z3, z4, z5⟩ := frz5 HS5.out.2.2.1
    go_wp2
    exact bodyPost_ret (v := .tuple #[encV 0 0 0 none 0 0 0, .int .i64 1]) (by simp [results, Try.results13, go_sem, encV, y1, y2, y3, y4, y5]) rfl (EOutF.err (below5 HS5.out.2.2.2.2.2 (by have := HBE.out; omega) _ _ _ _ _))
  · have HQ := Lib.hid hq
    have HE := Lib.hid he
    clear hq he
    have HWS := Lib.hid (show WS z p ⟨low, high, k, l⟩ w2 from HW2.out)
    have ol : l.length ≤ 65536 := HLL.out
    have Lx : WSm z p low high k l.length l w2 := HW2.out
    clear Lx
    obtain ⟨fin, hfin⟩ : ∃ fin, put1 ⟨low, high, k, l⟩ (s, xs) = fin := ⟨_, rfl⟩
    have HFIN := Lib.hid hfin
    rw [hfin] at HE
    clear hfin
    rcases putC_cases fin with ⟨hc, ho1, hw1⟩ | hc
    · have HC := Lib.hid hc
      have hh2 : (fin.low, fin.high, ((fin.wait : Nat) : Int), ((fin.out.length : Nat) : Int), (0 : Int), pack fin.out) = (lo, hi, wt, NN, EE, be) := by rw [← HE.out]; unfold encWhat; rw [if_pos ⟨ho1, hw1⟩]
      simp only [Prod.mk.injEq] at hh2
      obtain ⟨rfl, rfl, rfl, rfl, rfl, rfl⟩ := hh2
      clear hc HE
      refine (put_w z p ⟨low, high, k, l⟩ fin 0 C m d xs s _ _ _ w2 HWS (Lib.hid ⟨by show low ≤ high; omega, hh⟩) hk3 ol hk (Lib.hid HS2.out.2.2.2.2.1) hm (Lib.hid (symP_of HQ.out)) HFIN HC).mono ?_
      rintro e w5 ⟨rfl, h5⟩
      have HS5 := Lib.hid (HZ.out.next (WSm.base h5))
      have HW5 := Lib.hid h5
      clear h5 HWS HW2 HS2
      go_wp2_with fail
      refine (wstate_any z p fin w5 HW5 ho1).mono ?_
      rintro e w6 ⟨A6, n6, c6, rfl, hb6, hr6, hf6⟩
      have HF6 := Lib.hid hf6
      have HL6 := Lib.hid (show be' + 1 + 1 < w5.heap.size ∧ w.heap.size ≤ w5.heap.size from ⟨HS5.out.2.2.1.lt, HS5.out.2.2.2.2.2.size⟩)
      have HS6 := Lib.hid (HS5.out.next hb6)
      have HR6 := Lib.hid hr6
      clear hb6 hr6 hf6 HS5 HW5
      unfold encV
      obtain ⟨y1, y2, y3, y4, y5⟩ := blk5 HS6.out.2.2.1
      obtain ⟨z1, z2, z3, z4, z5⟩ := frz5 HS6.out.2.2.1
      go_wp2
      exact bodyPost_ret (v := .tuple #[encV fin.low fin.high (fin.wait : Int) A6 n6 c6 ((fin.out.length : Nat) : Int), .int .i64 0]) (by simp [results, Try.results13, go_sem, encV, y1, y2, y3, y4, y5]) rfl ⟨A6, n6, c6, rfl, below5 HS6.out.2.2.2.2.2 (by have := HBE.out; omega) _ _ _ _ _, rd_five HR6.out HS6.out.2.2.1 _ _ _ _ _, (HF6.out.five HL6.out.1 _ _ _ _ _).mono HL6.out.2⟩
    · have HC := Lib.hid hc
      have hh2 : ((0 : Nat), (0 : Nat), (0 : Int), (0 : Int), (2 : Int), ([] : List Nat)) = (lo, hi, wt, NN, EE, be) := by
        rw [← HE.out]
        unfold encWhat
        rw [if_neg]
        intro h
        unfold putC at hc
        rw [if_pos h] at hc
        cases hc
      simp only [Prod.mk.injEq] at hh2
      obtain ⟨rfl, rfl, rfl, rfl, rfl, rfl⟩ := hh2
      clear hc HE
      refine (put_w z p ⟨low, high, k, l⟩ fin 2 C m d xs s _ _ _ w2 HWS (Lib.hid ⟨by show low ≤ high; omega, hh⟩) hk3 ol hk (Lib.hid HS2.out.2.2.2.2.1) hm (Lib.hid (symP_of HQ.out)) HFIN HC).mono ?_
      rintro e w5 ⟨rfl, h5⟩
      have HS5 := Lib.hid (HZ.out.next (WSm.base h5))
      clear h5 HWS HW2 HS2
      obtain ⟨y1, y2, y3, y4, y5⟩ := blk5 HS5.out.2.2.1
      obtain ⟨z1, z2, z3, z4, z5⟩ := frz5 HS5.out.2.2.1
      go_wp2
      exact bodyPost_ret (v := .tuple #[encV 0 0 0 none 0 0 0, .int .i64 2]) (by simp [results, Try.results13, go_sem, encV, y1, y2, y3, y4, y5]) rfl (EOutF.err (below5 HS5.out.2.2.2.2.2 (by have := HBE.out; omega) _ _ _ _ _))
theorem rend_no (low high : Nat) (wt : Int) (A : Option Addr) (n c : Nat) (N : Int) (bs : List Nat) (w : World) (hl : low < 4294967296) (hh : high < 4294967296) (hr : Hid (Rd w A n bs)) (hbad : Hid (okE low high wt bs N = false)) :
    Calls Try.prog 16 #[encV low high wt A n c N] w (JOut w 0 1 []) := by
  have HK := Lib.hid (show Blk ((w.alloc (.cells #[.int .u32 (low : Int), .int .u32 (high : Int), .int .i64 wt, .slice A n c, .int .i64 N] 27)).alloc (.cells #[.slice none 0 0, .int .i64 0] 25)) (w.heap.size + 1) 25 #[.slice none 0 0, .int .i64 0] from Blk.newAt (by simp))
  have HW := Lib.hid (show Below w.heap.size w ((w.alloc (.cells #[.int .u32 (low : Int), .int .u32 (high : Int), .int .i64 wt, .slice A n c, .int .i64 N] 27)).alloc (.cells #[.slice none 0 0, .int .i64 0] 25)) from ((Below.refl w.heap.size w).alloc (Nat.le_refl _) _).alloc (by simp) _)
  unfold encV
  go_enter Try.func16, Try.ntmps16
  go_wp2_with fail
  generalize (w.alloc (.cells #[.int .u32 (low : Int), .int .u32 (high : Int), .int .i64 wt, .slice A n c, .int .i64 N] 27)).alloc (.cells #[.slice none 0 0, .int .i64 0] 25) = w0 at HK HW ⊢
  refine (rcheckEnc_any low high wt A n c N bs false w0 hl hh (Lib.hid (hr.out.below HW.out)) hbad).mono ?_
  rintro e w1 ⟨rfl, hb1⟩
  have HK1 := Lib.hid (HK.out.below hb1 HK.out.lt)
  have HW1 := Lib.hid (HW.out.trans (hb1.mono HW.out.size))
  clear hb1
  obtain ⟨y1, y2, y3, y4⟩ := blk2 HK1.out
  go_wp2
  exact bodyPost_ret (v := .tuple #[.agg #[.slice none 0 0, .int .i64 0], .int .i64 1]) (by simp [results, Try.results16, go_sem, y1, y2]) rfl ⟨none, 0, 0, rfl, (HW1.out.setCell (by simp) _).setCell (by simp) _, Rd.none_⟩
theorem pend_no (low high : Nat) (wt : Int) (A : Option Addr) (n c : Nat) (N : Int) (bs : List Nat) (w : World) (hl : low < 4294967296) (hh : high < 4294967296) (hr : Hid (Rd w A n bs)) (hbad : Hid (okE low high wt bs N = false)) :
    Calls Try.prog 15 #[encV low high wt A n c N] w (BBad w 1) := by
  have HK := Lib.hid (show Blk ((w.alloc (.cells #[.int .u32 (low : Int), .int .u32 (high : Int), .int .i64 wt, .slice A n c, .int .i64 N] 27)).alloc (.cells #[.slice none 0 0, .int .i64 0] 25)) (w.heap.size + 1) 25 #[.slice none 0 0, .int .i64 0] from Blk.newAt (by simp))
  have HW := Lib.hid (show Below w.heap.size w ((w.alloc (.cells #[.int .u32 (low : Int), .int .u32 (high : Int), .int .i64 wt, .slice A n c, .int .i64 N] 27)).alloc (.cells #[.slice none 0 0, .int .i64 0] 25)) from ((Below.refl w.heap.size w).alloc (Nat.le_refl _) _).alloc (by simp) _)
  have hcon := fun u (hb : Below w.heap.size w u) => resume_no low high wt A n c N bs u hl hh (Lib.hid (hr.out.below hb)) hbad
  unfold encV at hcon
  have HCON := Lib.hid hcon
  clear hcon
  unfold encV
  go_enter Try.func15, Try.ntmps15
  go_wp2_with fail
  generalize (w.alloc (.cells #[.int .u32 (low : Int), .int .u32 (high : Int), .int .i64 wt, .slice A n c, .int .i64 N] 27)).alloc (.cells #[.slice none 0 0, .int .i64 0] 25) = w0 at HK HW ⊢
  refine (HCON.out w0 HW.out).mono ?_
  rintro e w1 ⟨rfl, hb1⟩
  have HK1 := Lib.hid (HK.out.below hb1 HK.out.lt)
  have HW1 := Lib.hid (HW.out.trans (hb1.mono HW.out.size))
  clear hb1
  obtain ⟨y1, y2, y3, y4⟩ := blk2 HK1.out
  go_wp2
  exact bodyPost_ret (v := .tuple #[zeroB, .int .i64 1]) (by simp [results, Try.results15, go_sem, zeroB, y1, y2]) rfl ⟨rfl, (HW1.out.setCell (by simp) _).setCell (by simp) _⟩
theorem pend_ok (low high k : Nat) (A : Option Addr) (n c : Nat) (N : Int) (l : List Bool) (w : World) (hl : low < 4294967296) (hh : high < 4294967296) (hk : k ≤ 65536) (hk3 : Hid (kind low high = 3)) (hib : Hid (IsB w (.agg #[.slice A n c, .int .i64 N]) l)) :
    Calls Try.prog 15 #[encV low high (k : Int) A n c N] w (BOut w (JQ w.heap.size (endBits ⟨low, high, k, l⟩))) := by
  have HLL := Lib.hid (isB_parts hib.out).2.2.2
  have HK := Lib.hid (show Blk ((w.alloc (.cells #[.int .u32 (low : Int), .int .u32 (high : Int), .int .i64 (k : Int), .slice A n c, .int .i64 N] 27)).alloc (.cells #[.slice none 0 0, .int .i64 0] 25)) (w.heap.size + 1) 25 #[.slice none 0 0, .int .i64 0] from Blk.newAt (by simp))
  have HW := Lib.hid (show Below w.heap.size w ((w.alloc (.cells #[.int .u32 (low : Int), .int .u32 (high : Int), .int .i64 (k : Int), .slice A n c, .int .i64 N] 27)).alloc (.cells #[.slice none 0 0, .int .i64 0] 25)) from ((Below.refl w.heap.size w).alloc (Nat.le_refl _) _).alloc (by simp) _)
  have hcon := fun u (hb : Below w.heap.size w u) => resume_ok low high k A n c N l u hl hh hk hk3 (Lib.hid (hib.out.below hb))
  unfold encV at hcon
  have HCON := Lib.hid hcon
  clear hcon
  unfold encV
  go_enter Try.func15, Try.ntmps15
  go_wp2_with fail
  generalize (w.alloc (.cells #[.int .u32 (low : Int), .int .u32 (high : Int), .int .i64 (k : Int), .slice A n c, .int .i64 N] 27)).alloc (.cells #[.slice none 0 0, .int .i64 0] 25) = w0 at HK HW ⊢
  refine (HCON.out w0 HW.out).mono ?_
  rintro e w1 ⟨z, p, hz, rfl, h1⟩
  have HZ := Lib.hid (show Blk z.w (w.heap.size + 1) 25 #[.slice none 0 0, .int .i64 0] ∧ Below w.heap.size w z.w by rw [hz]; exact ⟨HK.out, HW.out⟩)
  have HWS := Lib.hid (show WS z p ⟨low, high, k, l⟩ w1 from h1)
  clear h1 hz HCON HK HW
  go_wp2_with fail
  refine (end_w z p ⟨low, high, k, l⟩ _ w1 HWS HLL.out hk (Lib.hid rfl)).mono ?_
  rintro e w5 ⟨A5, n5, c5, N5, er5, rfl, hb5, hq5⟩
  have HK5 := Lib.hid (HZ.out.1.below hb5 HZ.out.1.lt)
  have HB5 := Lib.hid hb5
  have HQ5 := Lib.hid hq5
  clear hb5 hq5
  obtain ⟨y1, y2, y3, y4⟩ := blk2 HK5.out
  go_wp2
  exact bodyPost_ret (v := .tuple #[.agg #[.slice A5 n5 c5, .int .i64 N5], .int .i64 er5]) (by simp [results, Try.results15, go_sem, y1, y2]) rfl (BOut.store HZ.out.2 (by omega) HZ.out.1.lt HB5.out HQ5.out _ _)
end Go.Proofs.Ytgelgbfnioagbaa.Cd
