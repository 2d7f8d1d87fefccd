/-
  Own texts, laid together: Th.
-/
import Derived.Test.YthpnlfegicofeaaTg
import Derived.Test.YthpnlfegicofeaaFy
/- Th -/
namespace Go.Proofs.Ythpnlfegicofeaa.Tb
open Go.RowKit Go.Proofs.Ythpnlfegicofeaa.Fx Go.Proofs.Ythpnlfegicofeaa.Fq
theorem cos_lit (m v : Int) (w : World) (h : cosP (pl m) = v) : Calls Try.prog 13 #[.int .i64 m] w fun e w' => e = .returned (.int .i64 v) ∧ Below w.heap.size w w' := by rw [← h]; exact cos_any m w
theorem sin_lit (m v : Int) (w : World) (h : sinP (pl m) = v) : Calls Try.prog 15 #[.int .i64 m] w fun e w' => e = .returned (.int .i64 v) ∧ Below w.heap.size w w' := by rw [← h]; exact sin_any m w
set_option maxRecDepth 100000 in
set_option maxHeartbeats 1000000 in
theorem live_t (w : World) : Calls Try.prog 8 #[] w fun e w' => e = .returned (.bool true) ∧ Below w.heap.size w w' := by
  go_enter Try.func8, Try.ntmps8
  go_wp2_with fail
  refine (cos_lit 0 16777216 _ (by decide +kernel)).mono ?_
  rintro e w1 ⟨rfl, h1⟩
  have H1 := Lib.hid h1
  clear h1
  go_wp2_with fail
  refine (cos_lit 32 0 _ (by decide +kernel)).mono ?_
  rintro e w2 ⟨rfl, h1⟩
  have H2 := Lib.hid (H1.out.trans (h1.mono H1.out.size))
  clear h1 H1
  go_wp2_with fail
  refine (cos_lit 64 (-16777216) _ (by decide +kernel)).mono ?_
  rintro e w3 ⟨rfl, h1⟩
  have H3 := Lib.hid (H2.out.trans (h1.mono H2.out.size))
  clear h1 H2
  go_wp2_with fail
  refine (sin_lit 32 16777216 _ (by decide +kernel)).mono ?_
  rintro e w4 ⟨rfl, h1⟩
  have H4 := Lib.hid (H3.out.trans (h1.mono H3.out.size))
  clear h1 H3
  go_wp2
  go_ret
  exact ⟨rfl, H4.out⟩
theorem halfT_form (i : Int) : ∃ a b c : Int, halfT i = .tuple #[.int .i64 a, .int .i64 b, .int .i64 c] := by
  unfold halfT
  split <;> exact ⟨_, _, _, rfl⟩
theorem winT_form (n : Int) : ∃ a b : Int, winT n = .tuple #[.int .i64 a, .int .i64 b] := by
  unfold winT
  split <;> exact ⟨_, _, rfl⟩
theorem kerT_form (n k : Int) : ∃ a b : Int, kerT n k = .tuple #[.int .i64 a, .int .i64 b] := by
  unfold kerT
  split <;> exact ⟨_, _, rfl⟩
set_option maxRecDepth 100000 in
set_option maxHeartbeats 2000000 in
theorem turns_walk (i m : Int) (w : World) : Calls Try.prog 3 #[.int .i64 i, .int .i64 m] w fun e w' => e = .returned (.bool true) ∧ Below w.heap.size w w' := by
  obtain ⟨a, b, c, hh⟩ := halfT_form i
  have HH := Lib.hid hh
  have HT := Lib.hid (show turnT (pl m) = .tuple #[.int .i64 (ptP (pl m)).1, .int .i64 (ptP (pl m)).2] from rfl)
  have HC := Lib.hid (cos_any m)
  have HS := Lib.hid (sin_any m)
  have HRC := Lib.hid (rcos_any m)
  have HRS := Lib.hid (rsin_any m)
  have HU := Lib.hid (turn_any m)
  have HRU := Lib.hid (rturn_any m)
  clear hh
  generalize pl m = n at HT HC HS HRC HRS HU HRU
  generalize (ptP n).1 = x at HT
  generalize (ptP n).2 = y at HT
  generalize cosP n = cc at HC HRC
  generalize sinP n = ss at HS HRS
  go_enter Try.func3, Try.ntmps3
  go_wp2_with fail
  refine (live_t _).mono ?_
  rintro e w1 ⟨rfl, h1⟩
  have H1 := Lib.hid h1
  clear h1
  go_wp2_with fail
  refine (half_any i _).mono ?_
  rw [HH.out]
  rintro e w2 ⟨rfl, h1⟩
  have H2 := Lib.hid (H1.out.trans (h1.mono H1.out.size))
  clear h1 H1
  go_wp2_with fail
  refine (rHalf_any i _).mono ?_
  rw [HH.out]
  rintro e w3 ⟨rfl, rfl⟩
  go_wp2_with fail
  refine (HU.out _).mono ?_
  rw [HT.out]
  rintro e w3 ⟨rfl, h1⟩
  have H3 := Lib.hid (H2.out.trans (h1.mono H2.out.size))
  clear h1 H2
  go_wp2_with fail
  refine (HRU.out _).mono ?_
  rw [HT.out]
  rintro e w4 ⟨rfl, rfl⟩
  go_wp2_with fail
  refine (HC.out _).mono ?_
  rintro e w5 ⟨rfl, h1⟩
  have H5 := Lib.hid (H3.out.trans (h1.mono H3.out.size))
  clear h1 H3
  go_wp2_with fail
  refine (HRC.out _).mono ?_
  rintro e w6 ⟨rfl, rfl⟩
  go_wp2_with fail
  refine (HS.out _).mono ?_
  rintro e w7 ⟨rfl, h1⟩
  have H7 := Lib.hid (H5.out.trans (h1.mono H5.out.size))
  clear h1 H5
  go_wp2_with fail
  refine (HRS.out _).mono ?_
  rintro e w8 ⟨rfl, rfl⟩
  go_wp2
  go_ret
  exact ⟨rfl, H7.out⟩
set_option maxRecDepth 100000 in
set_option maxHeartbeats 2000000 in
theorem frames_walk (n k : Int) (w : World) : Calls Try.prog 4 #[.int .i64 n, .int .i64 k] w fun e w' => e = .returned (.bool true) ∧ Below w.heap.size w w' := by
  obtain ⟨a, b, hh⟩ := winT_form n
  have HH := Lib.hid hh
  obtain ⟨c, d, hk⟩ := kerT_form n k
  have HK := Lib.hid hk
  clear hh hk
  go_enter Try.func4, Try.ntmps4
  go_wp2_with fail
  refine (live_t _).mono ?_
  rintro e w1 ⟨rfl, h1⟩
  have H1 := Lib.hid h1
  clear h1
  go_wp2_with fail
  refine (window_any n _).mono ?_
  rw [HH.out]
  rintro e w2 ⟨rfl, h1⟩
  have H2 := Lib.hid (H1.out.trans (h1.mono H1.out.size))
  clear h1 H1
  go_wp2_with fail
  refine (rwindow_any n _).mono ?_
  rw [HH.out]
  rintro e w3 ⟨rfl, rfl⟩
  go_wp2_with fail
  refine (kernel_any n k _).mono ?_
  rw [HK.out]
  rintro e w3 ⟨rfl, h1⟩
  have H3 := Lib.hid (H2.out.trans (h1.mono H2.out.size))
  clear h1 H2
  go_wp2_with fail
  refine (rkernel_any n k _).mono ?_
  rw [HK.out]
  rintro e w4 ⟨rfl, rfl⟩
  by_cases hk : 0 ≤ k ∧ k ≤ 15
  · go_wp2_with fail
    refine (row_any k _ hk.1 hk.2).mono ?_
    rintro e w5 ⟨r, rfl, hB, h1⟩
    have H5 := Lib.hid (H3.out.trans (h1.mono H3.out.size))
    have HB := Lib.hid hB
    clear h1 H3 hB
    go_wp2_with fail
    refine (rrow_any k _ hk.1 hk.2).mono ?_
    rintro e w6 ⟨A, c6, rfl, hR, h1⟩
    have H6 := Lib.hid (H5.out.trans (h1.mono H5.out.size))
    have HR := Lib.hid hR
    have HR1 := Lib.hid (RdI.of_blk (HB.out.below h1 HB.out.lt) (rowI_length k))
    clear h1 H5 hR HB hk
    go_wp2_with fail
    refine (requal_any _ _ _ _ _ _ _ _ true _ (by unfold maxLen; omega) (by unfold maxLen; omega) HR1.out HR.out (decide_eq_true rfl)).mono ?_
    rintro e w7 ⟨rfl, q, rfl⟩
    go_wp2
    go_ret
    exact ⟨rfl, below_drewN H6.out _⟩
  · have HN := Lib.hid hk
    clear hk
    go_wp2_with fail
    refine (row_no k _ HN.out).mono ?_
    rintro e w5 ⟨rfl, rfl⟩
    go_wp2_with fail
    refine (rrow_no k _ HN.out).mono ?_
    rintro e w6 ⟨rfl, rfl⟩
    go_wp2_with fail
    refine (requal_any none none 0 0 0 0 [] [] true _ (by unfold maxLen; omega) (by unfold maxLen; omega) RdI.none_ RdI.none_ (decide_eq_true rfl)).mono ?_
    rintro e w7 ⟨rfl, q, rfl⟩
    go_wp2
    go_ret
    exact ⟨rfl, below_drewN H3.out _⟩
end Go.Proofs.Ythpnlfegicofeaa.Tb
