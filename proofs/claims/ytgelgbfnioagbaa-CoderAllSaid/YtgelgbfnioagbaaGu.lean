/-
  Own texts, laid together: Gu.
-/
import Derived.Test.YtgelgbfnioagbaaGt
import Derived.Test.YtgelgbfnioagbaaFa
/- Gu -/
namespace Go.Proofs.Ytgelgbfnioagbaa.Cd
open Go.RowKit
/-- all was put, and is bits -/
def AllP (w : World) (l : List Bool) (e : Ending) (w' : World) : Prop :=
  ∃ A n c N, e = .returned (.tuple #[.agg #[.slice A n c, .int .i64 ((N : Nat) : Int)], .int .i64 0]) ∧ IsB w' (.agg #[.slice A n c, .int .i64 (N : Int)]) l ∧ N = l.length ∧ Below w.heap.size w w'
theorem AllOut.good {w w' : World} {ps : List Pr} {e : Ending} (h : AllOut w ps e w') (h0 : allErr e0 ps = 0) (hl : (endBits (stE e0 ps)).length ≤ 65536) : AllP w (endBits (stE e0 ps)) e w' := by
  rcases h with ⟨_, A, n, c, N, er, rfl, hb, h⟩ | ⟨h, _⟩
  · rcases h with ⟨_, rfl, hn⟩ | ⟨h, _⟩
    · have hB := hn.isB
      obtain ⟨_, hN, _, _⟩ := isB_parts hB
      subst hN
      exact ⟨A, n, c, _, rfl, hB, rfl, hb⟩
    · omega
  · exact absurd h0 h
set_option maxRecDepth 100000 in
set_option maxHeartbeats 4000000 in
theorem live_c (w : World) : Calls Try.prog 10 #[] w fun e w' => e = .returned (.bool true) ∧ Below w.heap.size w w' := by
  go_enter Try.func10, Try.ntmps10
  go_wp2_with fail
  refine (all_nil w).mono ?_
  rintro e w1 ⟨g1, rfl, hg1, hb1⟩
  have HG1 := Lib.hid hg1
  have HB1 := Lib.hid hb1
  clear hg1 hb1
  go_wp2_with fail
  have HX1 := Lib.hid (show Blk ((w1.alloc (.cells #[.slice (some ⟨g1, 0, none⟩) 1 1, .int .i64 2] 25)).alloc (.cells #[.int .i64 1, .int .i64 3] 3)) w1.heap.size 25 #[.slice (some ⟨g1, 0, none⟩) 1 1, .int .i64 2] from (Blk.new w1 _ _).alloc _)
  have HX2 := Lib.hid (show Blk ((w1.alloc (.cells #[.slice (some ⟨g1, 0, none⟩) 1 1, .int .i64 2] 25)).alloc (.cells #[.int .i64 1, .int .i64 3] 3)) g1 5 #[.int .u8 64] from (HG1.out.alloc _).alloc _)
  have HR := Lib.hid (show Fq.RdI ((w1.alloc (.cells #[.slice (some ⟨g1, 0, none⟩) 1 1, .int .i64 2] 25)).alloc (.cells #[.int .i64 1, .int .i64 3] 3)) (some ⟨w1.heap.size + 1, 0, none⟩) 2 [1, 3] from Fq.RdI.of_blk (Blk.newAt (t := 3) (cs := #[.int .i64 1, .int .i64 3]) (by simp)) rfl)
  have HW := Lib.hid (show Below w.heap.size w ((w1.alloc (.cells #[.slice (some ⟨g1, 0, none⟩) 1 1, .int .i64 2] 25)).alloc (.cells #[.int .i64 1, .int .i64 3] 3)) from (HB1.out.alloc HB1.out.size _).alloc (HB1.out.alloc HB1.out.size _).size _)
  generalize (w1.alloc (.cells #[.slice (some ⟨g1, 0, none⟩) 1 1, .int .i64 2] 25)).alloc (.cells #[.int .i64 1, .int .i64 3] 3) = w2 at HX1 HX2 HR HW ⊢
  generalize w1.heap.size = b1 at HX1 HR ⊢
  clear HG1 HB1
  refine (Fq.new_ok _ 2 _ [1, 3] w2 HR (by decide +kernel)).mono ?_
  rintro e w3 ⟨gf, rfl, hgf, hB, hb⟩
  rw [ex_tab] at hB ⊢
  have HS3 := Lib.hid (show LvS w b1 g1 w3.heap.size gf (w3.alloc (.cells #[.slice (some ⟨gf, 0, none⟩) 3 3] 30)) from
    ⟨(HX1.out.below hb HX1.out.lt).alloc _, (HX2.out.below hb HX2.out.lt).alloc _, Blk.new w3 _ _, hB.alloc _, (HW.out.trans (hb.mono HW.out.size)).alloc (HW.out.trans (hb.mono HW.out.size)).size _⟩)
  clear hgf hB hb HX1 HX2 HR HW
  unfold Fq.freqV
  have h3 := HS3.out.x3.lt
  go_wp2_with fail
  have HS4 := Lib.hid ((HS3.out.alloc (.cells #[.int .i64 1, .int .i64 0, .int .i64 1] 3)).alloc (.cells #[.slice (some ⟨gf, 0, none⟩) 3 3, .slice (some ⟨gf, 0, none⟩) 3 3, .slice (some ⟨gf, 0, none⟩) 3 3] 30))
  have HR4 := Lib.hid (show Fq.RdI (((w3.alloc (.cells #[.slice (some ⟨gf, 0, none⟩) 3 3] 30)).alloc (.cells #[.int .i64 1, .int .i64 0, .int .i64 1] 3)).alloc (.cells #[.slice (some ⟨gf, 0, none⟩) 3 3, .slice (some ⟨gf, 0, none⟩) 3 3, .slice (some ⟨gf, 0, none⟩) 3 3] 30)) (some ⟨w3.heap.size + 1, 0, none⟩) 3 [1, 0, 1] from Fq.RdI.of_blk ((Blk.newAt (w := w3.alloc (.cells #[.slice (some ⟨gf, 0, none⟩) 3 3] 30)) (t := 3) (cs := #[.int .i64 1, .int .i64 0, .int .i64 1]) (by simp)).alloc _) rfl)
  have HT4 := Lib.hid (rdT_three HS4.out (bt := w3.heap.size + 1 + 1) (Blk.newAt (by simp)))
  generalize ((w3.alloc (.cells #[.slice (some ⟨gf, 0, none⟩) 3 3] 30)).alloc (.cells #[.int .i64 1, .int .i64 0, .int .i64 1] 3)).alloc (.cells #[.slice (some ⟨gf, 0, none⟩) 3 3, .slice (some ⟨gf, 0, none⟩) 3 3, .slice (some ⟨gf, 0, none⟩) 3 3] 30) = w4 at HS4 HR4 HT4 ⊢
  generalize w3.heap.size = b3 at HS4 HR4 HT4 ⊢
  clear HS3 h3
  refine (all_walk _ 3 3 _ 3 [1, 0, 1] [t3 gf, t3 gf, t3 gf] w4 (Lib.hid (by unfold maxLen; omega)) HR4 HT4).mono ?_
  intro e w5 hall
  rw [ex_prs] at hall
  obtain ⟨A5, n5, c5, N5, rfl, hB5, hN5, hb5⟩ := hall.good ex_err ex_len
  have HS5 := Lib.hid (HS4.out.next hb5)
  have HI5 := Lib.hid hB5
  clear hall hB5 hN5 hb5 HS4 HR4 HT4
  have c3 := Fq.blk0 HS5.out.x3
  have l3 := HS5.out.x3.lt
  go_wp2_with fail
  clear c3 l3
  have HS6 := Lib.hid ((HS5.out.alloc (.cells #[.slice A5 n5 c5, .int .i64 (N5 : Int)] 25)).alloc (.cells #[.slice (some ⟨gf, 0, none⟩) 3 3, .slice (some ⟨gf, 0, none⟩) 3 3, .slice (some ⟨gf, 0, none⟩) 3 3] 30))
  have HT6 := Lib.hid (rdT_three HS6.out (bt := w5.heap.size + 1) (Blk.newAt (by simp)))
  have HI6 := Lib.hid ((HI5.out.alloc (.cells #[.slice A5 n5 c5, .int .i64 (N5 : Int)] 25)).alloc (.cells #[.slice (some ⟨gf, 0, none⟩) 3 3, .slice (some ⟨gf, 0, none⟩) 3 3, .slice (some ⟨gf, 0, none⟩) 3 3] 30))
  generalize (w5.alloc (.cells #[.slice A5 n5 c5, .int .i64 (N5 : Int)] 25)).alloc (.cells #[.slice (some ⟨gf, 0, none⟩) 3 3, .slice (some ⟨gf, 0, none⟩) 3 3, .slice (some ⟨gf, 0, none⟩) 3 3] 30) = w6 at HS6 HT6 HI6 ⊢
  generalize w5.heap.size = b5 at HT6 ⊢
  clear HS5 HI5
  refine (back_walk A5 n5 c5 N5 (endBits (stE e0 ex3)) _ 3 3 [t3 gf, t3 gf, t3 gf] w6 HI6 (by omega) HT6).mono ?_
  intro e w7 hback
  have hall := all_back ex_err []
  rw [List.append_nil] at hall
  rw [ex_tbs] at hback
  rcases hback with ⟨_, g7, rfl, hg7, hB7, hb7⟩ | ⟨h, _⟩
  · rw [hall.2] at hB7
    have HS7 := Lib.hid (HS6.out.next hb7)
    have HB7 := Lib.hid hB7
    clear hall hg7 hB7 hb7 HS6 HI6 HT6
    obtain ⟨y1, y2, -, -⟩ := blk2 HS7.out.x1
    have y3 := Fq.blk0 HS7.out.x2
    go_wp2_with fail
    clear y1 y2 y3
    have HS8 := Lib.hid (HS7.out.alloc (.cells #[.int .i64 1, .int .i64 0, .int .i64 1] 3))
    have HR8 := Lib.hid (show Fq.RdI (w7.alloc (.cells #[.int .i64 1, .int .i64 0, .int .i64 1] 3)) (some ⟨w7.heap.size, 0, none⟩) 3 [1, 0, 1] from Fq.RdI.of_blk (Blk.new w7 _ _) rfl)
    have HQ8 := Lib.hid (show Fq.RdI (w7.alloc (.cells #[.int .i64 1, .int .i64 0, .int .i64 1] 3)) (some ⟨g7, 0, none⟩) 3 [1, 0, 1] from Fq.RdI.of_blk (HB7.out.alloc _) rfl)
    generalize w7.alloc (.cells #[.int .i64 1, .int .i64 0, .int .i64 1] 3) = w8 at HS8 HR8 HQ8 ⊢
    generalize w7.heap.size = b7 at HR8 ⊢
    clear HS7 HB7
    refine (Fq.requal_any _ _ 3 3 _ _ [1, 0, 1] [1, 0, 1] true w8 (by unfold maxLen; omega) (by unfold maxLen; omega) HQ8.out HR8.out (by decide)).mono ?_
    rintro e w9 ⟨rfl, q, rfl⟩
    go_wp2
    go_ret
    exact ⟨rfl, below_drewN HS8.out.x5 q⟩
  · exact absurd hall.1 h
end Go.Proofs.Ytgelgbfnioagbaa.Cd
