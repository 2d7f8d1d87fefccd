/-
  Own texts, laid together: Qi.
-/
import Derived.Test.YtcnckamocbaceaaDoorMR
/- Qi -/
namespace Go.Proofs.YtcnckamocbaceaaDoor.Lp
open Go.RowKit Go.Proofs.YtcnckamocbaceaaDoor.Fx Go.Proofs.YtcnckamocbaceaaDoor.Fq Go.Proofs.YtcnckamocbaceaaDoor.Tb
theorem peakV_ex (l : Int) : ∃ p e : Int, peakV l = .tuple #[.int .i64 p, .int .i64 e] := by
  unfold peakV; split <;> exact ⟨_, _, rfl⟩
theorem stepV_ex (l k : Int) : ∃ p e : Int, stepV l k = .tuple #[.int .i64 p, .int .i64 e] := by
  unfold stepV; split <;> exact ⟨_, _, rfl⟩
set_option maxRecDepth 100000 in
set_option maxHeartbeats 4000000 in
theorem quantSteps_any (l k : Int) (w : World) (he : Edg w) : Calls Tryd.prog 3 #[.int .i64 l, .int .i64 k] w fun e w' => e = .returned (.bool true) ∧ Below w.heap.size w w' := by
  have HM := Lib.hid (Mem.start w)
  have F0 := Lib.hid (qlive_any w he)
  have F1 := Lib.hid (fun u => qpeak_any l u)
  have F2 := Lib.hid (fun u => rpeak_any l u)
  have F3 := Lib.hid (fun u => qstep_any l k u)
  have F4 := Lib.hid (fun u => rstep_any l k u)
  have F5 := Lib.hid (fun u => qmost_any k u)
  have F6 := Lib.hid (fun u => rmost_any k u)
  obtain ⟨p, e, hp⟩ := peakV_ex l
  obtain ⟨s, f, hs⟩ := stepV_ex l k
  rw [hp] at F1 F2
  rw [hs] at F3 F4
  generalize (mostV k : Int) = m at F5 F6
  clear he hp hs
  go_enter Tryd.func3, Tryd.ntmps3
  go_wp2_with fail
  refine F0.out.mono ?_
  rintro e w1 ⟨rfl, h1⟩
  have HM2 := Lib.hid (HM.out.below h1)
  clear h1 HM
  have HM := HM2
  clear HM2
  go_wp2_with fail
  refine (F1.out _).mono ?_
  rintro e w2 ⟨rfl, h1⟩
  have HM2 := Lib.hid (HM.out.below h1)
  clear h1 HM
  have HM := HM2
  clear HM2
  go_wp2_with fail
  refine (F2.out _).mono ?_
  rintro e w3 ⟨rfl, rfl⟩
  go_wp2_with fail
  refine (F3.out _).mono ?_
  rintro e w4 ⟨rfl, h1⟩
  have HM2 := Lib.hid (HM.out.below h1)
  clear h1 HM
  have HM := HM2
  clear HM2
  go_wp2_with fail
  refine (F4.out _).mono ?_
  rintro e w5 ⟨rfl, rfl⟩
  go_wp2_with fail
  refine (F5.out _).mono ?_
  rintro e w6 ⟨rfl, h1⟩
  have HM2 := Lib.hid (HM.out.below h1)
  clear h1 HM
  have HM := HM2
  clear HM2
  go_wp2_with fail
  refine (F6.out _).mono ?_
  rintro e w7 ⟨rfl, rfl⟩
  go_wp2_with fail
  go_ret
  exact ⟨rfl, HM.out.1⟩
set_option maxRecDepth 100000 in
set_option maxHeartbeats 4000000 in
theorem quantReach_any (l k : Int) (w : World) (he : Edg w) : Calls Tryd.prog 8 #[.int .i64 l, .int .i64 k] w fun e w' => e = .returned (.bool true) ∧ Below w.heap.size w w' := by
  have HM := Lib.hid (Mem.start w)
  have F0 := Lib.hid (qlive_any w he)
  have l1 := Int.tmod_lt_of_pos l (show (0 : Int) < 256 by decide)
  have l2 := Int.tmod_lt_of_pos (-l) (show (0 : Int) < 256 by decide)
  rw [Int.neg_tmod] at l2
  have k1 := Int.tmod_lt_of_pos k (show (0 : Int) < 7 by decide)
  have k2 := Int.tmod_lt_of_pos (-k) (show (0 : Int) < 7 by decide)
  rw [Int.neg_tmod] at k2
  have e1 : IntKind.i64.wrap (l.tmod 256 + 256) = l.tmod 256 + 256 := i64_w (by omega) (by omega)
  have e3 : IntKind.i64.wrap (k.tmod 7 + 7) = k.tmod 7 + 7 := i64_w (by omega) (by omega)
  obtain ⟨n, e2, hn⟩ : ∃ n : Nat, (l.tmod 256 + 256).tmod 256 = (n : Int) ∧ n < 256 := by
    have h1 := Int.tmod_nonneg 256 (show 0 ≤ l.tmod 256 + 256 by omega)
    have h2 := Int.tmod_lt_of_pos (l.tmod 256 + 256) (show (0 : Int) < 256 by decide)
    exact ⟨((l.tmod 256 + 256).tmod 256).toNat, by omega, by omega⟩
  obtain ⟨j, e4, hj⟩ : ∃ j : Nat, (k.tmod 7 + 7).tmod 7 = (j : Int) ∧ j < 7 := by
    have h1 := Int.tmod_nonneg 7 (show 0 ≤ k.tmod 7 + 7 by omega)
    have h2 := Int.tmod_lt_of_pos (k.tmod 7 + 7) (show (0 : Int) < 7 by decide)
    exact ⟨((k.tmod 7 + 7).tmod 7).toNat, by omega, by omega⟩
  clear l1 l2 k1 k2
  obtain ⟨i, hi⟩ : ∃ i : Nat, i = j + 1 := ⟨_, rfl⟩
  have e5 : IntKind.i64.wrap (1 + (j : Int)) = (i : Int) := by rw [show (1 : Int) + (j : Int) = (i : Int) by omega]; exact i64_w (by omega) (by omega)
  have e6 : IntKind.i64.wrap ((i : Int) - 1) = (j : Int) := by rw [show (i : Int) - 1 = (j : Int) by omega]; exact i64_w (by omega) (by omega)
  have e7 : IntKind.i64.wrap ((n : Int) + 1) = (n : Int) + 1 := i64_w (by omega) (by omega)
  have F1 := Lib.hid (fun u => qpeak_any (n : Int) u)
  rw [show peakV (n : Int) = .tuple #[.int .i64 (peakN n : Int), .int .i64 0] by unfold peakV; rw [if_pos (by omega)]; rfl] at F1
  have F2 := Lib.hid (fun u => qstep_any (n : Int) (i : Int) u)
  rw [show stepV (n : Int) (i : Int) = .tuple #[.int .i64 (stepN n i : Int), .int .i64 0] by unfold stepV; rw [if_pos (by omega)]; rfl] at F2
  have F3 := Lib.hid (fun u => qmost_any (i : Int) u)
  rw [show mostV (i : Int) = mostN i by unfold mostV; congr 1; omega] at F3
  have F4 := Lib.hid (fun u => qmost_any (j : Int) u)
  rw [show mostV (j : Int) = mostN j by unfold mostV; congr 1; omega] at F4
  have F5 := Lib.hid (fun (h : n < 255) u => qpeak_any ((n : Int) + 1) u)
  rw [show peakV ((n : Int) + 1) = if n < 255 then .tuple #[.int .i64 (peakN (n + 1) : Int), .int .i64 0] else peakV ((n : Int) + 1) by
    split
    · unfold peakV; rw [if_pos (by omega)]; rfl
    · rfl] at F5
  have hms : (mostN i : Int) = 2 * (mostN j : Int) + 1 := by rw [hi, mostN_succ]; omega
  have hr := stepN_reach (l := n) (k := i) (by omega)
  have hp := peakN_bd n hn
  have hx := Lib.hid (peakN_next n)
  have hs := stepN_bd (l := n) (k := i) hn (by omega) (by omega)
  have hm := mostN_bd i (by omega)
  generalize peakN (n + 1) = p' at F5 hx
  generalize peakN n = p at F1 hr hp hx
  generalize stepN n i = s at F2 hr hs
  generalize mostN i = m at F3 hms hr hm
  generalize mostN j = m' at F4 hms
  obtain ⟨X, hX⟩ : ∃ X : Nat, m * s = X := ⟨_, rfl⟩
  obtain ⟨Y, hY⟩ : ∃ Y : Nat, m * (s - 1) = Y := ⟨_, rfl⟩
  have bX : X ≤ 127 * 4026531967 := by rw [← hX]; exact Nat.mul_le_mul hm hs.2
  have bY : Y ≤ 127 * 4026531967 := by rw [← hY]; exact Nat.mul_le_mul hm (by omega)
  rw [hX, hY] at hr
  have w1 : IntKind.i64.wrap ((m : Int) * (s : Int)) = (X : Int) := by rw [← hX, Int.natCast_mul]; refine i64_w ?_ ?_ <;> (rw [← Int.natCast_mul, hX]; omega)
  have w2 : IntKind.i64.wrap ((s : Int) - 1) = ((s - 1 : Nat) : Int) := by rw [show (s : Int) - 1 = ((s - 1 : Nat) : Int) by omega]; exact i64_w (by omega) (by omega)
  have w3 : IntKind.i64.wrap ((m : Int) * ((s - 1 : Nat) : Int)) = (Y : Int) := by rw [← Int.natCast_mul, hY]; exact i64_w (by omega) (by omega)
  have w4 : IntKind.i64.wrap (2 * (p : Int)) = 2 * (p : Int) := i64_w (by omega) (by omega)
  have w5 : IntKind.i64.wrap (2 * (m' : Int)) = 2 * (m' : Int) := i64_w (by omega) (by omega)
  have w6 : IntKind.i64.wrap (2 * (m' : Int) + 1) = (m : Int) := by rw [← hms]; exact i64_w (by omega) (by omega)
  have d1 : decide (X < p) = false := decide_eq_false (by omega)
  have d2 : decide (p ≤ Y) = false := decide_eq_false (by omega)
  clear he hX hY bX bY hr hp hs hm hi hms
  generalize ((s - 1 : Nat) : Int) = s' at w2 w3
  by_cases hlt : n < 255
  · have hlt' : (n : Int) < 255 := by omega
    have F6 := Lib.hid (F5.out hlt)
    rw [if_pos hlt] at F6
    have hq := hx.out hlt
    have d3 : decide (p' < p) = false := decide_eq_false (by omega)
    have d4 : decide (2 * (p : Int) < (p' : Int)) = false := decide_eq_false (by omega)
    clear hx F5 hq hn hj hlt
    go_enter Tryd.func8, Tryd.ntmps8
    go_wp2_with fail
    refine F0.out.mono ?_
    rintro e z1 ⟨rfl, h1⟩
    have HM2 := Lib.hid (HM.out.below h1)
    clear h1 HM
    have HM := HM2
    clear HM2
    go_wp2_with fail
    refine (F1.out _).mono ?_
    rintro e z2 ⟨rfl, h1⟩
    have HM2 := Lib.hid (HM.out.below h1)
    clear h1 HM
    have HM := HM2
    clear HM2
    go_wp2_with fail
    refine (F2.out _).mono ?_
    rintro e z3 ⟨rfl, h1⟩
    have HM2 := Lib.hid (HM.out.below h1)
    clear h1 HM
    have HM := HM2
    clear HM2
    go_wp2_with fail
    refine (F3.out _).mono ?_
    rintro e z4 ⟨rfl, h1⟩
    have HM2 := Lib.hid (HM.out.below h1)
    clear h1 HM
    have HM := HM2
    clear HM2
    go_wp2_with fail
    refine (F6.out _).mono ?_
    rintro e z5 ⟨rfl, h1⟩
    have HM2 := Lib.hid (HM.out.below h1)
    clear h1 HM
    have HM := HM2
    clear HM2
    go_wp2_with fail
    refine (F4.out _).mono ?_
    rintro e z6 ⟨rfl, h1⟩
    have HM2 := Lib.hid (HM.out.below h1)
    clear h1 HM
    have HM := HM2
    clear HM2
    go_wp2_with fail
    go_ret
    exact ⟨rfl, HM.out.1⟩
  · have hge : ¬ (n : Int) < 255 := by omega
    clear hx F5 hn hj hlt
    go_enter Tryd.func8, Tryd.ntmps8
    go_wp2_with fail
    refine F0.out.mono ?_
    rintro e z1 ⟨rfl, h1⟩
    have HM2 := Lib.hid (HM.out.below h1)
    clear h1 HM
    have HM := HM2
    clear HM2
    go_wp2_with fail
    refine (F1.out _).mono ?_
    rintro e z2 ⟨rfl, h1⟩
    have HM2 := Lib.hid (HM.out.below h1)
    clear h1 HM
    have HM := HM2
    clear HM2
    go_wp2_with fail
    refine (F2.out _).mono ?_
    rintro e z3 ⟨rfl, h1⟩
    have HM2 := Lib.hid (HM.out.below h1)
    clear h1 HM
    have HM := HM2
    clear HM2
    go_wp2_with fail
    refine (F3.out _).mono ?_
    rintro e z4 ⟨rfl, h1⟩
    have HM2 := Lib.hid (HM.out.below h1)
    clear h1 HM
    have HM := HM2
    clear HM2
    go_wp2_with fail
    refine (F4.out _).mono ?_
    rintro e z6 ⟨rfl, h1⟩
    have HM2 := Lib.hid (HM.out.below h1)
    clear h1 HM
    have HM := HM2
    clear HM2
    go_wp2_with fail
    go_ret
    exact ⟨rfl, HM.out.1⟩
end Go.Proofs.YtcnckamocbaceaaDoor.Lp
