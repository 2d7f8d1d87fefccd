/-
  Own texts, laid together: Ic.
-/
import Derived.Test.YtgelgbfnioagbaaIa
import Derived.Test.YtgelgbfnioagbaaGp
import Derived.StillTailTactics
/- Ic -/
namespace Go.Proofs.Ytgelgbfnioagbaa.Cd
open Go.RowKit
theorem isB_it1 {w : World} {A : Option Addr} {n c : Nat} {N : Int} {l : List Bool} (h : IsB w (.agg #[.slice A n c, .int .i64 N]) l) : It.ok ⟨A, n, c, N, pack l⟩ = true ∧ It.bits ⟨A, n, c, N, pack l⟩ = l := by
  obtain ⟨_, hN, _, hl⟩ := isB_parts h
  refine ⟨?_, ?_⟩
  · show okB (pack l) N = true
    rw [hN]; exact okB_pack l hl
  · show bitsIn (pack l) N.toNat = l
    rw [hN]; exact bitsIn_pack l
/-- Join of one -/
theorem join_one {w : World} {b : Nat} {A1 : Option Addr} {n1 c1 : Nat} {N1 : Int} {l1 : List Bool} (h1 : IsB w (.agg #[.slice A1 n1 c1, .int .i64 N1]) l1) (hb : Blk w b 25 #[.slice A1 n1 c1, .int .i64 N1]) :
    Calls Try.prog 32 #[.slice (some ⟨b, 0, none⟩) 1 1] w (BOut w (JQ w.heap.size l1)) := by
  have hall : allBits [⟨A1, n1, c1, N1, pack l1⟩] = l1 := by
    show It.bits _ ++ [] = _
    rw [(isB_it1 h1).2, List.append_nil]
  have := join_out (some ⟨b, 0, none⟩) 1 1 [⟨A1, n1, c1, N1, pack l1⟩] w (by omega) ?_ ?_
  · rw [hall] at this; exact this
  · refine ⟨rfl, fun _ => ⟨_, rfl, fun j x hx => ?_⟩⟩
    rcases (show j = 0 by
      obtain ⟨hk, _⟩ := List.getElem?_eq_some_iff.1 hx
      have hk' : j < 1 := hk
      omega) with rfl
    injection hx with hx
    subst hx
    exact ⟨hb.cell 0, hb.cell 1, (isB_parts h1).2.2.1⟩
  · intro x hx
    have : x = ⟨A1, n1, c1, N1, pack l1⟩ := by simpa using hx
    rw [this]
    exact (isB_it1 h1).1
set_option maxRecDepth 100000 in
set_option maxHeartbeats 2000000 in
theorem rstate_any (p : Nat) (d : De) (A : Option Addr) (n c L : Nat) (l : List Bool) (w : World) (hs : Hid (RdS w p d A n c (L : Int))) (hI : Hid (IsB w (.agg #[.slice A n c, .int .i64 (L : Int)]) l)) :
    Calls Try.prog 50 #[.pointer (some ⟨p, 0, none⟩)] w (DOut w d.low d.high d.code (d.at_ : Int) (L : Int) 0 (pack l)) := by
  have hL := (isB_parts hI.out).2.1
  have HLL := Lib.hid (show l.length ≤ 65536 ∧ (L : Int) = (l.length : Int) from ⟨(isB_parts hI.out).2.2.2, hL⟩)
  clear hL
  have HK := Lib.hid (show Blk ((w.alloc (.cells #[.int .u32 0, .int .u32 0, .int .u32 0, .slice none 0 0, .int .i64 0, .int .i64 0] 45)).alloc (.cells #[.slice A n c, .int .i64 (L : Int)] 25)) w.heap.size 45 #[.int .u32 0, .int .u32 0, .int .u32 0, .slice none 0 0, .int .i64 0, .int .i64 0] from (Blk.new w _ _).alloc _)
  have HJ := Lib.hid (show Blk ((w.alloc (.cells #[.int .u32 0, .int .u32 0, .int .u32 0, .slice none 0 0, .int .i64 0, .int .i64 0] 45)).alloc (.cells #[.slice A n c, .int .i64 (L : Int)] 25)) (w.heap.size + 1) 25 #[.slice A n c, .int .i64 (L : Int)] from Blk.newAt (by simp))
  have HW := Lib.hid (show Below w.heap.size w ((w.alloc (.cells #[.int .u32 0, .int .u32 0, .int .u32 0, .slice none 0 0, .int .i64 0, .int .i64 0] 45)).alloc (.cells #[.slice A n c, .int .i64 (L : Int)] 25)) from ((Below.refl w.heap.size w).alloc (Nat.le_refl _) _).alloc (by simp) _)
  obtain ⟨-, -, -, c3, c4, -⟩ := hs.out.six
  have lp := Blk.lt hs.out
  go_enter Try.func50, Try.ntmps50
  go_wp2_with fail
  clear c3 c4 lp
  generalize (w.alloc (.cells #[.int .u32 0, .int .u32 0, .int .u32 0, .slice none 0 0, .int .i64 0, .int .i64 0] 45)).alloc (.cells #[.slice A n c, .int .i64 (L : Int)] 25) = w1 at HK HJ HW ⊢
  obtain ⟨br, hbr⟩ : ∃ br, br = w.heap.size := ⟨_, rfl⟩
  rw [← hbr] at HK HJ ⊢
  have HBR := Lib.hid hbr
  clear hbr
  refine (join_one (hI.out.below HW.out) HJ.out).mono ?_
  rintro e w2 ⟨A2, n2, c2, N2, er, rfl, hb2, hq⟩
  have hq2 : er = 0 ∧ IsN w2 w1.heap.size (.agg #[.slice A2 n2 c2, .int .i64 N2]) l := by
    rcases hq with ⟨_, h1, h2⟩ | ⟨h, _⟩
    · exact ⟨h1, h2⟩
    · have := HLL.out.1; omega
  obtain ⟨rfl, hIN⟩ := hq2
  have hN2 : N2 = (L : Int) := by rw [(isB_parts hIN.isB).2.1, HLL.out.2]
  subst hN2
  have HIN := Lib.hid (show IsB (w2.alloc (.cells #[.slice A2 n2 c2, .int .i64 (L : Int)] 25)) (.agg #[.slice A2 n2 c2, .int .i64 (L : Int)]) l ∧ (∀ ad, A2 = some ad → 0 < n2 → ad.block ≠ br) from ⟨hIN.isB.alloc _, fun ad ha _ => by
    obtain ⟨g, e, hg, _⟩ := hIN
    simp only [Value.agg.injEq, Array.mk.injEq, List.cons.injEq, Value.slice.injEq, and_true] at e
    have e1 := e.1.1
    rw [ha] at e1
    injection e1 with e1
    rw [e1]
    have := HK.out.lt
    show g ≠ br
    omega⟩)
  have HK2 := Lib.hid ((HK.out.below hb2 HK.out.lt).alloc (.cells #[.slice A2 n2 c2, .int .i64 (L : Int)] 25))
  have HX2 := Lib.hid (Blk.new w2 25 #[.slice A2 n2 c2, .int .i64 (L : Int)])
  have HW2 := Lib.hid ((HW.out.trans (hb2.mono HW.out.size)).alloc (HW.out.trans (hb2.mono HW.out.size)).size (.cells #[.slice A2 n2 c2, .int .i64 (L : Int)] 25))
  have HS2 := Lib.hid (hs.out.next HW2.out)
  clear hb2 hq hIN HJ HW HK
  go_wp2_with fail
  generalize w2.alloc (.cells #[.slice A2 n2 c2, .int .i64 (L : Int)] 25) = w3 at HIN HK2 HX2 HW2 HS2 ⊢
  generalize w2.heap.size = b4 at HX2 ⊢
  obtain ⟨x0, x1, x2, -, -, x5⟩ := HS2.out.six
  obtain ⟨j0, j1, -, -⟩ := blk2 HX2.out
  obtain ⟨y1, y2, y3, y4, y5, y6⟩ := blk6 HK2.out
  obtain ⟨z1, z2, z3, z4, z5, z6⟩ := frz6 HK2.out
  go_still_tail 20, (by kernel_rfl)
  change wpList _ _ _ _ _ w3.drew
  have HIN4 := Lib.hid (show IsB w3.drew (.agg #[.slice A2 n2 c2, .int .i64 (L : Int)]) l ∧ (∀ ad, A2 = some ad → 0 < n2 → ad.block ≠ br) from ⟨HIN.out.1, HIN.out.2⟩)
  have HK4 := Lib.hid (HK2.out.drew)
  have HW4 := Lib.hid (Below.drew HW2.out)
  clear x0 x1 x2 x5 j0 j1 y1 y2 y3 y4 y5 y6 z1 z2 z3 z4 z5 z6 HIN HK2 HW2 HX2 HS2
  generalize w3.drew = w4 at HIN4 HK4 HW4 ⊢
  obtain ⟨y1, y2, y3, y4, y5, y6⟩ := blk6 HK4.out
  obtain ⟨z1, z2, z3, z4, z5, z6⟩ := frz6 HK4.out
  go_wp2
  refine bodyPost_ret (v := .tuple #[decV d.low d.high d.code A2 n2 c2 (L : Int) (d.at_ : Int), .int .i64 0]) (by simp [results, Try.results50, go_sem, decV, y1, y2, y3, y4, y5, y6]) rfl ⟨A2, n2, c2, rfl, below6 HW4.out (by have := HBR.out; omega) _ _ _ _ _ _, ?_⟩
  obtain ⟨-, -, q3, -⟩ := isB_parts HIN4.out.1
  exact rd_far (rd_far (rd_far (rd_far (rd_far (rd_far q3 HIN4.out.2 _ _) HIN4.out.2 _ _) HIN4.out.2 _ _) HIN4.out.2 _ _) HIN4.out.2 _ _) HIN4.out.2 _ _
end Go.Proofs.Ytgelgbfnioagbaa.Cd
