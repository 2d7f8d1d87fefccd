/-
  Own texts, laid together: Sg.
-/
import Derived.Test.YtcddfmeehehjgaaSf
/- Sg -/
namespace Go.Proofs.Ytcddfmeehehjgaa.Fx
open Go.RowKit
theorem logN_twice (n : Nat) (h : 0 < n) : logN (2 * n) = logN n + 8 := by
  unfold logN
  have h8 : 0 < n ^ 8 := Nat.pow_pos h
  have := log2_shift (x := n ^ 8) (s := 8) (r := 0) h8 (by omega)
  rw [Nat.zero_add] at this
  rw [Nat.mul_pow, this]
  omega
theorem logN_square (n : Nat) (h : 0 < n) : logN (n * n) = 2 * logN n ∨ logN (n * n) = 2 * logN n + 1 := by
  unfold logN
  have h8 : 0 < n ^ 8 := Nat.pow_pos h
  rw [Nat.mul_pow]
  obtain ⟨h1, h2⟩ := log2_in h8
  generalize n ^ 8 = x at h8 h1 h2
  have h3 := Nat.mul_le_mul h1 h1
  have h4 : x * x < 2 ^ (x.log2 + 1) * 2 ^ (x.log2 + 1) := Nat.mul_lt_mul'' h2 h2
  rw [← Nat.pow_add] at h3 h4
  have hp : 0 < x * x := Nat.mul_pos h8 h8
  have h5 : 2 * x.log2 ≤ (x * x).log2 := (Nat.le_log2 (by omega)).2 (by rw [Nat.two_mul]; exact h3)
  have h6 : (x * x).log2 < 2 * x.log2 + 2 := (Nat.log2_lt (by omega)).2 (by rw [show 2 * x.log2 + 2 = x.log2 + 1 + (x.log2 + 1) by omega]; exact h4)
  omega
theorem sqrt_anyI (z : Int) (n : Nat) (hz : z = (n : Int)) (w : World) (hn : n < 18446744073709551616) : Calls Try.prog 23 #[.int .u64 z] w (RtP n w) := by
  subst hz; exact sqrt_any n w hn
theorem log_anyI (z : Int) (n : Nat) (hz : z = (n : Int)) (w : World) (hn : n < 18446744073709551616) : Calls Try.prog 25 #[.int .u64 z] w fun e w' => e = .returned (.int .i64 (logN n : Int)) ∧ Below w.heap.size w w' := by
  subst hz; exact log_any n w hn
/-- what a root is, in whole numbers -/
theorem root_int {n r : Nat} (h : IsRt n r) (hn : n < 18446744073709551616) : ∃ x y q z : Int, (r : Int) = x ∧ 0 ≤ x ∧ x ≤ 4294967295 ∧ x * x = y ∧ 0 ≤ y ∧ y ≤ (n : Int) ∧ x + 1 = q ∧ q * q = z ∧ (n : Int) < z ∧ (x < 4294967295 → z < 18446744073709551616) := by
  have r2 := h.lt hn
  refine ⟨_, ((r * r : Nat) : Int), ((r + 1 : Nat) : Int), (((r + 1) * (r + 1) : Nat) : Int), rfl, by omega, by omega, by simp, by omega, ?_, by simp, by simp, ?_, ?_⟩
  · exact Int.ofNat_le.2 h.1
  · exact Int.ofNat_lt.2 h.2
  · intro hx
    have := Nat.mul_le_mul (show r + 1 ≤ 4294967295 by omega) (show r + 1 ≤ 4294967295 by omega)
    omega
set_option maxRecDepth 100000 in
set_option maxHeartbeats 4000000 in
theorem squares_walk (n : Nat) (N : Int) (hN : Hid (N = (n : Int))) (n0 : 0 ≤ N) (n1 : N < 18446744073709551616) (w : World) :
    Calls Try.prog 8 #[.int .u64 N] w fun e w' => e = .returned (.bool true) ∧ Below w.heap.size w w' := by
  have HB := Lib.hid (show n < 18446744073709551616 by have := hN.out; omega)
  have HLT := Lib.hid (logN_lt n HB.out)
  go_enter Try.func8, Try.ntmps8
  go_wp2_with fail
  refine (live_any _).mono ?_
  rintro e w1 ⟨rfl, hb1⟩
  have H1 := Lib.hid hb1
  clear hb1
  go_wp2_with fail
  refine (sqrt_anyI N n hN.out _ HB.out).mono ?_
  rintro e w' ⟨r, rfl, hr, rfl⟩
  obtain ⟨x, y, q, z, hx, x0, x1, hy, y0, y1, hq, hz, z1, z2⟩ := root_int hr HB.out
  rw [hx]
  rw [← hN.out] at y1 z1
  have HZ2 := Lib.hid z2
  clear hr hx z2
  obtain ⟨k, hk⟩ : ∃ k, logN n = k := ⟨_, rfl⟩
  have HK := Lib.hid hk
  clear hk
  rcases Int.lt_or_le x 4294967295 with c | c
  all_goals
    try have z3 := HZ2.out c
    by_cases h0 : N = 0
    · go_wp2_with fail
      refine (log_any 0 _ (by omega)).mono ?_
      rintro e w2 ⟨rfl, hb2⟩
      rw [show logN 0 = 0 by decide]
      have H2 := Lib.hid (H1.out.trans (hb2.mono H1.out.size))
      clear hb2
      go_wp2
      go_ret
      exact ⟨by first | rfl | (show Ending.returned (Value.bool (decide ((k : Int) < 512))) = _; rw [D5.out]), H2.out⟩
    · have h0' : (N == 0) = false := by simp; exact h0
      have HN0 := Lib.hid (show 0 < n by have := hN.out; omega)
      go_wp2_with fail
      refine (log_anyI N n hN.out _ HB.out).mono ?_
      rintro e w2 ⟨rfl, hb2⟩
      have H2 := Lib.hid (H1.out.trans (hb2.mono H1.out.size))
      clear hb2 x0 x1 hy y0 y1 hq hz z1 h0 h0' c
      try clear z3
      rw [HK.out]
      have k2 : k < 512 := by have := HLT.out; rw [HK.out] at this; exact this
      have D5 := Lib.hid (show decide ((k : Int) < 512) = true by simp; omega)
      by_cases g1 : N < 9223372036854775808
      · obtain ⟨n2, hn2⟩ : ∃ n2, 2 * n = n2 := ⟨_, rfl⟩
        obtain ⟨N2, hN2⟩ : ∃ N2, 2 * N = N2 := ⟨_, rfl⟩
        have HNN := Lib.hid (show N2 = (n2 : Int) by have := hN.out; omega)
        have HB2 := Lib.hid (show n2 < 18446744073709551616 by have := hN.out; omega)
        have HL2 := Lib.hid (show logN n2 = k + 8 by rw [← hn2, logN_twice n HN0.out, HK.out])
        clear hn2
        go_wp2_with fail
        refine (log_anyI _ n2 (by rw [← HNN.out]) _ HB2.out).mono ?_
        rintro e w3 ⟨rfl, hb3⟩
        have H3 := Lib.hid (H2.out.trans (hb3.mono H2.out.size))
        clear hb3 hN2
        rw [HL2.out]
        clear HL2
        by_cases g2 : N < 4294967296
        · obtain ⟨m, hm⟩ : ∃ m, n * n = m := ⟨_, rfl⟩
          obtain ⟨M, hM⟩ : ∃ M, N * N = M := ⟨_, rfl⟩
          have bm : m < 18446744073709551616 := by
            have := hN.out
            have := Nat.mul_le_mul (show n ≤ 4294967295 by omega) (show n ≤ 4294967295 by omega)
            omega
          have hMm : M = (m : Int) := by rw [← hM, ← hm, hN.out]; simp
          have bM : M < 18446744073709551616 := by omega
          have bM0 : 0 ≤ M := by omega
          have HMm := Lib.hid hMm
          have HBM := Lib.hid bm
          have HSQ := Lib.hid (show logN m = 2 * k ∨ logN m = 2 * k + 1 by rw [← hm, ← HK.out]; exact logN_square n HN0.out)
          clear hm hMm bm
          go_wp2_with fail
          refine (log_anyI M m HMm.out _ HBM.out).mono ?_
          rintro e w4 ⟨rfl, hb4⟩
          have H4 := Lib.hid (H3.out.trans (hb4.mono H3.out.size))
          clear hb4 hM bM bM0
          rcases HSQ.out with hs | hs
          · rw [hs]
            clear hs
            go_wp2
            go_ret
            exact ⟨by first | rfl | (show Ending.returned (Value.bool (decide ((k : Int) < 512))) = _; rw [D5.out]), H4.out⟩
          · rw [hs]
            clear hs
            go_wp2
            go_ret
            exact ⟨by first | rfl | (show Ending.returned (Value.bool (decide ((k : Int) < 512))) = _; rw [D5.out]), H4.out⟩
        · go_wp2
          go_ret
          exact ⟨by first | rfl | (show Ending.returned (Value.bool (decide ((k : Int) < 512))) = _; rw [D5.out]), H3.out⟩
      · go_wp2
        go_ret
        exact ⟨by first | rfl | (show Ending.returned (Value.bool (decide ((k : Int) < 512))) = _; rw [D5.out]), H2.out⟩
theorem squares_law (n : Nat) (w : World) (hn : n < 18446744073709551616) :
    Calls Try.prog 8 #[.int .u64 (n : Int)] w fun e w' => e = .returned (.bool true) ∧ Below w.heap.size w w' :=
  squares_walk n (n : Int) (Lib.hid rfl) (by omega) (by omega) w
end Go.Proofs.Ytcddfmeehehjgaa.Fx
