/-
  Own texts, laid together: Ti.
-/
import Derived.Test.YthpnlfegicofeaaTh
/- Ti -/
namespace Go.Proofs.Ythpnlfegicofeaa.Tb
open Go.RowKit Go.Proofs.Ythpnlfegicofeaa.Fx Go.Proofs.Ythpnlfegicofeaa.Fq
theorem circ_in : ∀ n, n < 128 → cosP n * cosP n + sinP n * sinP n - 281474976710656 ≤ 134217728 ∧ -134217728 ≤ cosP n * cosP n + sinP n * sinP n - 281474976710656 := by decide +kernel
theorem small_in : ∀ n, n < 128 → -16777300 ≤ cosP n ∧ cosP n ≤ 16777300 ∧ -16777300 ≤ sinP n ∧ sinP n ≤ 16777300 := by decide +kernel
theorem win_in : ∀ n, n < 16 → sinP (2 * n + 1) * sinP (2 * n + 1) + sinP (2 * (n + 16) + 1) * sinP (2 * (n + 16) + 1) - 281474976710656 ≤ 134217728 ∧ -134217728 ≤ sinP (2 * n + 1) * sinP (2 * n + 1) + sinP (2 * (n + 16) + 1) * sinP (2 * (n + 16) + 1) - 281474976710656 := by decide +kernel
theorem opp_in : ∀ n, n < 128 → (cosP ((n + 64) % 128) - -cosP n ≤ 1 ∧ -cosP n - cosP ((n + 64) % 128) ≤ 1) ∧ (sinP ((n + 64) % 128) - -sinP n ≤ 1 ∧ -sinP n - sinP ((n + 64) % 128) ≤ 1)
    ∧ (cosP ((128 - n) % 128) - cosP n ≤ 4 ∧ cosP n - cosP ((128 - n) % 128) ≤ 4) ∧ (sinP ((128 - n) % 128) - -sinP n ≤ 4 ∧ -sinP n - sinP ((128 - n) % 128) ≤ 4)
    ∧ (cosP ((n + 96) % 128) - sinP n ≤ 4 ∧ sinP n - cosP ((n + 96) % 128) ≤ 4) := by decide +kernel
theorem win_pos : ∀ n, n < 32 → 0 < sinP (2 * n + 1) := by decide +kernel
theorem sq_in {x : Int} (h : -16777300 ≤ x ∧ x ≤ 16777300) : 0 ≤ x * x ∧ x * x ≤ 281477795300000 := by
  refine ⟨?_, ?_⟩
  · rcases Int.le_total 0 x with g | g
    · exact Int.mul_nonneg g g
    · exact Int.mul_nonneg_of_nonpos_of_nonpos g g
  · have : (x * x).natAbs ≤ 16777300 * 16777300 := by
      rw [Int.natAbs_mul]
      exact Nat.mul_le_mul (by omega) (by omega)
    omega
theorem tmd (m d : Int) (hd : 1 ≤ d) : ∃ t, m.tmod d = t ∧ -d < t ∧ t < d ∧ ∃ q, d * q + t = m := by
  have h2 := tdm m d hd
  exact ⟨_, rfl, by have := h2.2; omega, by have := h2.2; omega, _, h2.1⟩
theorem window_lit (n : Nat) (z : Int) (v : Int) (w : World) (hn : n ≤ 31) (hz : z = (n : Int)) (h : sinP (2 * n + 1) = v) : Calls Try.prog 17 #[.int .i64 z] w fun e w' => e = .returned (.tuple #[.int .i64 v, .int .i64 0]) ∧ Below w.heap.size w w' := by
  have := window_any z w
  rw [show winT z = .tuple #[.int .i64 v, .int .i64 0] by
    unfold winT
    rw [if_pos ⟨by omega, by omega⟩, show pl (2 * z + 1) = 2 * n + 1 by unfold pl; omega, h]] at this
  exact this
set_option maxRecDepth 100000 in
set_option maxHeartbeats 2000000 in
theorem circle_walk (m n : Int) (w : World) : Calls Try.prog 5 #[.int .i64 m, .int .i64 n] w fun e w' => e = .returned (.bool true) ∧ Below w.heap.size w w' := by
  obtain ⟨p1, p2⟩ := pl_is m
  obtain ⟨u1, u2⟩ := circ_in (pl m) p1
  obtain ⟨s1, s2, s3, s4⟩ := small_in (pl m) p1
  obtain ⟨t, ht, t1, t2, q, hq⟩ := tmd m 1099511627776 (by omega)
  have hpt : pl (t + 128) = pl m := by unfold pl; omega
  obtain ⟨r, hr, r1, r2, q', hq'⟩ := tmd n 16 (by omega)
  obtain ⟨N, hN⟩ : ∃ N : Nat, (r + 16) % 16 = (N : Int) := ⟨((r + 16) % 16).toNat, by omega⟩
  have hr3 : r % 16 = (N : Int) := by omega
  have hN16 : N < 16 := by omega
  obtain ⟨v1, v2⟩ := win_in N hN16
  obtain ⟨-, -, a1, a2⟩ := small_in (2 * N + 1) (by omega)
  obtain ⟨-, -, b1, b2⟩ := small_in (2 * (N + 16) + 1) (by omega)
  have HC := Lib.hid (cos_any m)
  have HS := Lib.hid (sin_any m)
  have HC2 := Lib.hid (fun w => cos_lit (t + 128) (cosP (pl m)) w (by rw [hpt]))
  generalize cosP (pl m) = c at *
  generalize sinP (pl m) = s at *
  have HA := Lib.hid (fun w => window_lit N (N : Int) _ w (by omega) rfl rfl)
  have HB := Lib.hid (fun w => window_lit (N + 16) ((N : Int) + 16) _ w (by omega) (by omega) rfl)
  generalize sinP (2 * N + 1) = A at *
  generalize sinP (2 * (N + 16) + 1) = B at *
  obtain ⟨cc1, cc2⟩ := sq_in ⟨s1, s2⟩
  obtain ⟨ss1, ss2⟩ := sq_in ⟨s3, s4⟩
  obtain ⟨aa1, aa2⟩ := sq_in ⟨a1, a2⟩
  obtain ⟨bb1, bb2⟩ := sq_in ⟨b1, b2⟩
  obtain ⟨C2, e1⟩ : ∃ x, c * c = x := ⟨_, rfl⟩
  obtain ⟨S2, e2⟩ : ∃ x, s * s = x := ⟨_, rfl⟩
  obtain ⟨A2, e3⟩ : ∃ x, A * A = x := ⟨_, rfl⟩
  obtain ⟨B2, e4⟩ : ∃ x, B * B = x := ⟨_, rfl⟩
  rw [e1, e2] at u1 u2
  rw [e3, e4] at v1 v2
  rw [e1] at cc1 cc2
  rw [e2] at ss1 ss2
  rw [e3] at aa1 aa2
  rw [e4] at bb1 bb2
  obtain ⟨o1, f1⟩ : ∃ x, C2 + S2 - 281474976710656 = x := ⟨_, rfl⟩
  obtain ⟨o2, f2⟩ : ∃ x, A2 + B2 - 281474976710656 = x := ⟨_, rfl⟩
  rw [f1] at u1 u2
  rw [f2] at v1 v2
  have d1 : ¬ 134217728 < o1 := by omega
  have d2 : ¬ o1 < -134217728 := by omega
  have n16 : (N : Int) < 16 := by omega
  have dc : (c != c) = false := by simp
  clear hpt hq hq' p1 p2 s1 s2 s3 s4 a1 a2 b1 b2
  go_enter Try.func5, Try.ntmps5
  go_wp2_with fail
  refine (live_t _).mono ?_
  rintro e w1 ⟨rfl, h1⟩
  have H1 := Lib.hid h1
  clear h1
  go_wp2_with fail
  refine (HC.out _).mono ?_
  rintro e w2 ⟨rfl, h1⟩
  have H2 := Lib.hid (H1.out.trans (h1.mono H1.out.size))
  clear h1 H1
  go_wp2_with fail
  refine (HS.out _).mono ?_
  rintro e w3 ⟨rfl, h1⟩
  have H3 := Lib.hid (H2.out.trans (h1.mono H2.out.size))
  clear h1 H2
  go_wp2_with fail
  refine (HC2.out _).mono ?_
  rintro e w4 ⟨rfl, h1⟩
  have H4 := Lib.hid (H3.out.trans (h1.mono H3.out.size))
  clear h1 H3
  go_wp2_with fail
  refine (HA.out _).mono ?_
  rintro e w5 ⟨rfl, h1⟩
  have H5 := Lib.hid (H4.out.trans (h1.mono H4.out.size))
  clear h1 H4
  go_wp2_with fail
  refine (HB.out _).mono ?_
  rintro e w6 ⟨rfl, h1⟩
  have H6 := Lib.hid (H5.out.trans (h1.mono H5.out.size))
  clear h1 H5
  go_wp2
  go_ret
  exact ⟨rfl, H6.out⟩
theorem near_lit (a b d : Int) (w : World) (ha : -20000000 ≤ a ∧ a ≤ 20000000) (hb : -20000000 ≤ b ∧ b ≤ 20000000) (h1 : a - b ≤ d) (h2 : b - a ≤ d) :
    Calls Try.prog 24 #[.int .i64 a, .int .i64 b, .int .i64 d] w fun e w' => e = .returned (.bool true) ∧ w = w' := by
  obtain ⟨a1, a2⟩ := ha
  obtain ⟨b1, b2⟩ := hb
  obtain ⟨x, hx⟩ : ∃ x, a - b = x := ⟨_, rfl⟩
  obtain ⟨y, hy⟩ : ∃ y, b - a = y := ⟨_, rfl⟩
  rw [hx] at h1
  rw [hy] at h2
  have x1 : -40000000 ≤ x := by omega
  have x2 : x ≤ 40000000 := by omega
  have y1 : -40000000 ≤ y := by omega
  have y2 : y ≤ 40000000 := by omega
  go_enter Try.func24, Try.ntmps24
  go_wp2
  go_ret
  exact ⟨rfl, rfl⟩
set_option maxRecDepth 100000 in
set_option maxHeartbeats 2000000 in
theorem opposite_walk (m : Int) (w : World) : Calls Try.prog 6 #[.int .i64 m] w fun e w' => e = .returned (.bool true) ∧ Below w.heap.size w w' := by
  obtain ⟨t, ht, t1, t2, -⟩ := tmd m 1099511627776 (by omega)
  obtain ⟨n, hn⟩ : ∃ n, pl t = n := ⟨_, rfl⟩
  have hn1 : n < 128 := by rw [← hn]; exact (pl_is t).1
  have e1 : pl (t + 64) = (n + 64) % 128 := by rw [← hn]; unfold pl; omega
  have e2 : pl (-t) = (128 - n) % 128 := by rw [← hn]; unfold pl; omega
  have e3 : pl (t - 32) = (n + 96) % 128 := by rw [← hn]; unfold pl; omega
  obtain ⟨⟨a1, a2⟩, ⟨b1, b2⟩, ⟨c1, c2⟩, ⟨d1, d2⟩, f1, f2⟩ := opp_in n hn1
  obtain ⟨s1, s2, s3, s4⟩ := small_in n hn1
  obtain ⟨s5, s6, s7, s8⟩ := small_in ((n + 64) % 128) (by omega)
  obtain ⟨s9, s10, s11, s12⟩ := small_in ((128 - n) % 128) (by omega)
  obtain ⟨s13, s14, -, -⟩ := small_in ((n + 96) % 128) (by omega)
  have HC := Lib.hid (fun w => cos_lit t (cosP n) w (by rw [hn]))
  have HS := Lib.hid (fun w => sin_lit t (sinP n) w (by rw [hn]))
  have HC1 := Lib.hid (fun w => cos_lit (t + 64) _ w (by rw [e1]))
  have HS1 := Lib.hid (fun w => sin_lit (t + 64) _ w (by rw [e1]))
  have HC2 := Lib.hid (fun w => cos_lit (-t) _ w (by rw [e2]))
  have HS2 := Lib.hid (fun w => sin_lit (-t) _ w (by rw [e2]))
  have HC3 := Lib.hid (fun w => cos_lit (t - 32) _ w (by rw [e3]))
  clear e1 e2 e3 hn hn1
  generalize cosP ((n + 64) % 128) = ca at *
  generalize sinP ((n + 64) % 128) = sa at *
  generalize cosP ((128 - n) % 128) = cb at *
  generalize sinP ((128 - n) % 128) = sb at *
  generalize cosP ((n + 96) % 128) = cd at *
  generalize cosP n = c at *
  generalize sinP n = s at *
  have N1 := Lib.hid (fun w => near_lit ca (-c) 1 w (by omega) (by omega) (by omega) (by omega))
  have N2 := Lib.hid (fun w => near_lit sa (-s) 1 w (by omega) (by omega) (by omega) (by omega))
  have N3 := Lib.hid (fun w => near_lit cb c 4 w (by omega) (by omega) (by omega) (by omega))
  have N4 := Lib.hid (fun w => near_lit sb (-s) 4 w (by omega) (by omega) (by omega) (by omega))
  have N5 := Lib.hid (fun w => near_lit cd s 4 w (by omega) (by omega) (by omega) (by omega))
  clear a1 a2 b1 b2 c1 c2 d1 d2 f1 f2
  go_enter Try.func6, Try.ntmps6
  go_wp2_with fail
  refine (live_t _).mono ?_
  rintro e w1 ⟨rfl, h1⟩
  have H1 := Lib.hid h1
  clear h1
  go_wp2_with fail
  refine (HC.out _).mono ?_
  rintro e w2 ⟨rfl, h1⟩
  have H2 := Lib.hid (H1.out.trans (h1.mono H1.out.size))
  clear h1 H1
  go_wp2_with fail
  refine (HS.out _).mono ?_
  rintro e w3 ⟨rfl, h1⟩
  have H3 := Lib.hid (H2.out.trans (h1.mono H2.out.size))
  clear h1 H2
  go_wp2_with fail
  refine (HC1.out _).mono ?_
  rintro e w4 ⟨rfl, h1⟩
  have H4 := Lib.hid (H3.out.trans (h1.mono H3.out.size))
  clear h1 H3
  go_wp2_with fail
  refine (N1.out _).mono ?_
  rintro e w5 ⟨rfl, rfl⟩
  go_wp2_with fail
  refine (HS1.out _).mono ?_
  rintro e w5 ⟨rfl, h1⟩
  have H5 := Lib.hid (H4.out.trans (h1.mono H4.out.size))
  clear h1 H4
  go_wp2_with fail
  refine (N2.out _).mono ?_
  rintro e w6 ⟨rfl, rfl⟩
  go_wp2_with fail
  refine (HC2.out _).mono ?_
  rintro e w6 ⟨rfl, h1⟩
  have H6 := Lib.hid (H5.out.trans (h1.mono H5.out.size))
  clear h1 H5
  go_wp2_with fail
  refine (N3.out _).mono ?_
  rintro e w7 ⟨rfl, rfl⟩
  go_wp2_with fail
  refine (HS2.out _).mono ?_
  rintro e w7 ⟨rfl, h1⟩
  have H7 := Lib.hid (H6.out.trans (h1.mono H6.out.size))
  clear h1 H6
  go_wp2_with fail
  refine (N4.out _).mono ?_
  rintro e w8 ⟨rfl, rfl⟩
  go_wp2_with fail
  refine (HC3.out _).mono ?_
  rintro e w8 ⟨rfl, h1⟩
  have H8 := Lib.hid (H7.out.trans (h1.mono H7.out.size))
  clear h1 H7
  go_wp2_with fail
  refine (N5.out _).mono ?_
  rintro e w9 ⟨rfl, rfl⟩
  go_wp2
  go_ret
  exact ⟨rfl, H8.out⟩
theorem rowI_get (k : Int) (n : Nat) (hn : n < 32) : (rowI k).getD n 0 = kerI (n : Int) k := by
  unfold rowI
  rw [List.getD_eq_getElem?_getD, List.getElem?_map, List.getElem?_range hn]
  rfl
set_option maxRecDepth 100000 in
set_option maxHeartbeats 2000000 in
theorem rows_walk (n k : Int) (w : World) : Calls Try.prog 7 #[.int .i64 n, .int .i64 k] w fun e w' => e = .returned (.bool true) ∧ Below w.heap.size w w' := by
  obtain ⟨t, ht, t1, t2, -⟩ := tmd n 32 (by omega)
  obtain ⟨r, hr, r1, r2, -⟩ := tmd k 16 (by omega)
  obtain ⟨N, hN⟩ : ∃ N : Nat, (t + 32) % 32 = (N : Int) := ⟨((t + 32) % 32).toNat, by omega⟩
  obtain ⟨K, hK⟩ : ∃ K : Nat, (r + 16) % 16 = (K : Int) := ⟨((r + 16) % 16).toNat, by omega⟩
  have hN' : t % 32 = (N : Int) := by omega
  have hK' : r % 16 = (K : Int) := by omega
  have N32 : N < 32 := by omega
  have K16 : K < 16 := by omega
  have n32 : (N : Int) < 32 := by omega
  have k16 : (K : Int) < 16 := by omega
  obtain ⟨z, hz⟩ : ∃ z, phI (N : Int) (K : Int) = z := ⟨_, rfl⟩
  obtain ⟨z0, z1⟩ := ph_in (n := (N : Int)) (k := (K : Int)) (by omega) (by omega) (by omega) (by omega)
  rw [hz] at z0 z1
  have HKV := Lib.hid (show kerI (N : Int) (K : Int) = cosP (pl z) by unfold kerI; rw [hz])
  have HKT := Lib.hid (show kerT (N : Int) (K : Int) = .tuple #[.int .i64 (cosP (pl z)), .int .i64 0] by unfold kerT; rw [if_pos ⟨by omega, by omega, by omega, by omega⟩, HKV.out])
  have HG := Lib.hid (show (rowI (K : Int)).getD N 0 = cosP (pl z) by rw [rowI_get _ _ N32, HKV.out])
  have HWN := Lib.hid (fun w => window_lit N (N : Int) _ w (by omega) rfl rfl)
  have HS := Lib.hid (fun w => sin_lit (2 * (N : Int) + 1) (sinP (2 * N + 1)) w (by rw [show pl (2 * (N : Int) + 1) = 2 * N + 1 by unfold pl; omega]))
  have HC := Lib.hid (cos_any z)
  have hp := win_pos N N32
  unfold phI at hz
  clear HKV
  generalize cosP (pl z) = c at *
  generalize sinP (2 * N + 1) = s at *
  go_enter Try.func7, Try.ntmps7
  go_wp2_with fail
  refine (live_t _).mono ?_
  rintro e w1 ⟨rfl, h1⟩
  have H1 := Lib.hid h1
  clear h1
  go_wp2_with fail
  rw [hN, hK]
  clear hN hK hN' hK' ht hr t1 t2 r1 r2
  refine (row_any (K : Int) _ (by omega) (by omega)).mono ?_
  rintro e w2 ⟨R, rfl, hB, h1⟩
  have H2 := Lib.hid (H1.out.trans (h1.mono H1.out.size))
  have HB := Lib.hid hB
  clear h1 H1 hB
  go_wp2_with fail
  refine (kernel_any (N : Int) (K : Int) _).mono ?_
  rw [HKT.out]
  rintro e w3 ⟨rfl, h1⟩
  have H3 := Lib.hid (H2.out.trans (h1.mono H2.out.size))
  have HB3 := Lib.hid (HB.out.below h1 HB.out.lt)
  clear h1 H2 HB
  go_wp2_with fail
  refine (HWN.out _).mono ?_
  rintro e w4 ⟨rfl, h1⟩
  have H4 := Lib.hid (H3.out.trans (h1.mono H3.out.size))
  have HB4 := Lib.hid (HB3.out.below h1 HB3.out.lt)
  clear h1 H3 HB3
  have cN := blk_at HB4.out (i := N) (by rw [rowI_length]; exact N32)
  rw [HG.out] at cN
  go_wp2_with fail
  refine (HC.out _).mono ?_
  rintro e w5 ⟨rfl, h1⟩
  have H5 := Lib.hid (H4.out.trans (h1.mono H4.out.size))
  clear h1 H4 cN HB4
  go_wp2_with fail
  refine (HS.out _).mono ?_
  rintro e w6 ⟨rfl, h1⟩
  have H6 := Lib.hid (H5.out.trans (h1.mono H5.out.size))
  clear h1 H5
  go_wp2
  go_ret
  exact ⟨rfl, H6.out⟩
end Go.Proofs.Ythpnlfegicofeaa.Tb
