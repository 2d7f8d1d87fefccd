/-
  Own texts, laid together: Te.
-/
import Derived.Test.YtplfcncibmgllaaTd
import Derived.Deep.OwnRows
import Derived.Laws.CopyOwn
/- Te -/
namespace Go.Proofs.Ytplfcncibmgllaa.Tb
open Go.RowKit Go.Proofs.Ytplfcncibmgllaa.Fx Go.Proofs.Ytplfcncibmgllaa.Fq
theorem isSample_any (n : Int) (b : Bool) (w : World) (hb : decide (0 ≤ n ∧ n ≤ 31) = b) : Calls Try.prog 39 #[.int .i64 n] w fun e w' => e = .returned (.bool b) ∧ w = w' := by
  by_cases h0 : 0 ≤ n
  · by_cases h1 : n < 32
    · obtain rfl : b = true := by rw [← hb]; exact decide_eq_true ⟨h0, by omega⟩
      clear hb
      go_enter Try.func39, Try.ntmps39
      go_wp2
      go_ret
      exact ⟨rfl, rfl⟩
    · obtain rfl : b = false := by rw [← hb]; exact decide_eq_false (fun h => by omega)
      clear hb
      go_enter Try.func39, Try.ntmps39
      go_wp2
      go_ret
      exact ⟨rfl, rfl⟩
  · obtain rfl : b = false := by rw [← hb]; exact decide_eq_false (fun h => by omega)
    clear hb
    go_enter Try.func39, Try.ntmps39
    go_wp2
    go_ret
    exact ⟨rfl, rfl⟩
theorem isNumber_any (n : Int) (b : Bool) (w : World) (hb : decide (0 ≤ n ∧ n ≤ 15) = b) : Calls Try.prog 42 #[.int .i64 n] w fun e w' => e = .returned (.bool b) ∧ w = w' := by
  by_cases h0 : 0 ≤ n
  · by_cases h1 : n < 16
    · obtain rfl : b = true := by rw [← hb]; exact decide_eq_true ⟨h0, by omega⟩
      clear hb
      go_enter Try.func42, Try.ntmps42
      go_wp2
      go_ret
      exact ⟨rfl, rfl⟩
    · obtain rfl : b = false := by rw [← hb]; exact decide_eq_false (fun h => by omega)
      clear hb
      go_enter Try.func42, Try.ntmps42
      go_wp2
      go_ret
      exact ⟨rfl, rfl⟩
  · obtain rfl : b = false := by rw [← hb]; exact decide_eq_false (fun h => by omega)
    clear hb
    go_enter Try.func42, Try.ntmps42
    go_wp2
    go_ret
    exact ⟨rfl, rfl⟩
/-- the kernel's place -/
def phI (n k : Int) : Int := (2 * n + 17) * (2 * k + 1)
theorem ph_in {n k : Int} (h1 : 0 ≤ n) (h2 : n ≤ 31) (h3 : 0 ≤ k) (h4 : k ≤ 15) : 0 ≤ phI n k ∧ phI n k ≤ 2449 := by
  unfold phI
  refine ⟨Int.mul_nonneg (by omega) (by omega), ?_⟩
  have := Int.mul_le_mul (show 2 * n + 17 ≤ 79 by omega) (show 2 * k + 1 ≤ 31 by omega) (by omega) (by omega)
  omega
theorem phase_any (n k z : Int) (w : World) (h1 : 0 ≤ n) (h2 : n ≤ 31) (h3 : 0 ≤ k) (h4 : k ≤ 15) (hz : phI n k = z) : Calls Try.prog 45 #[.int .i64 n, .int .i64 k] w fun e w' => e = .returned (.int .i64 z) ∧ w = w' := by
  obtain ⟨z0, z1⟩ := ph_in h1 h2 h3 h4
  rw [hz] at z0 z1
  unfold phI at hz
  go_enter Try.func45, Try.ntmps45
  go_wp2
  go_ret
  exact ⟨rfl, rfl⟩
def winT (n : Int) : Value := if 0 ≤ n ∧ n ≤ 31 then .tuple #[.int .i64 (sinP (pl (2 * n + 1))), .int .i64 0] else .tuple #[.int .i64 0, .int .i64 1]
def kerI (n k : Int) : Int := cosP (pl (phI n k))
def kerT (n k : Int) : Value := if 0 ≤ n ∧ n ≤ 31 ∧ 0 ≤ k ∧ k ≤ 15 then .tuple #[.int .i64 (kerI n k), .int .i64 0] else .tuple #[.int .i64 0, .int .i64 1]
set_option maxHeartbeats 1000000 in
theorem window_any (n : Int) (w : World) : Calls Try.prog 35 #[.int .i64 n] w fun e w' => e = .returned (winT n) ∧ Below w.heap.size w w' := by
  by_cases h : 0 ≤ n ∧ n ≤ 31
  · have HV := Lib.hid (show winT n = .tuple #[.int .i64 (sinP (pl (2 * n + 1))), .int .i64 0] by unfold winT; rw [if_pos h])
    obtain ⟨h0, h1⟩ := h
    go_enter Try.func35, Try.ntmps35
    go_wp2_with fail
    refine (isSample_any n true w (decide_eq_true ⟨h0, h1⟩)).mono ?_
    rintro e w1 ⟨rfl, rfl⟩
    go_wp2_with fail
    refine (sin_any (2 * n + 1) _).mono ?_
    rintro e w2 ⟨rfl, hb⟩
    have HB := Lib.hid hb
    clear hb
    go_wp2
    go_ret2
    exact ⟨by rw [HV.out]; rfl, HB.out⟩
  · have HV := Lib.hid (show winT n = .tuple #[.int .i64 0, .int .i64 1] by unfold winT; rw [if_neg h])
    go_enter Try.func35, Try.ntmps35
    go_wp2_with fail
    refine (isSample_any n false w (decide_eq_false h)).mono ?_
    rintro e w1 ⟨rfl, rfl⟩
    go_wp2
    go_ret2
    exact ⟨by rw [HV.out]; rfl, Below.refl _ _⟩
/-- a row, as far as it is made -/
def rowK (k : Int) (j : Nat) : List Int := (List.range 32).map fun n => if n < j then kerI ((n : Nat) : Int) k else 0
def rowI (k : Int) : List Int := (List.range 32).map fun n => kerI ((n : Nat) : Int) k
theorem rowK_length (k : Int) (j : Nat) : (rowK k j).length = 32 := by simp [rowK]
theorem rowI_length (k : Int) : (rowI k).length = 32 := by simp [rowI]
theorem rowK_all (k : Int) : rowK k 32 = rowI k := by
  unfold rowK rowI
  refine List.map_congr_left fun n hn => ?_
  rw [if_pos (List.mem_range.1 hn)]
theorem rowK_none (k : Int) : rowK k 0 = List.replicate 32 0 := by unfold rowK; rfl
theorem rowK_set (k : Int) (j : Nat) (hj : j < 32) : (rowK k j).set j (kerI (j : Int) k) = rowK k (j + 1) := by
  refine List.ext_getElem? fun i => ?_
  rw [List.getElem?_set, rowK_length]
  by_cases hi : i < 32
  · simp only [rowK, List.getElem?_map, List.getElem?_range hi, Option.map_some]
    by_cases h : j = i
    · subst h
      rw [if_pos rfl, if_pos hj, if_pos (by omega)]
    · rw [if_neg h]
      by_cases h2 : i < j
      · rw [if_pos h2, if_pos (by omega)]
      · rw [if_neg h2, if_neg (by omega)]
  · rw [List.getElem?_eq_none (by rw [rowK_length]; omega), List.getElem?_eq_none (by rw [rowK_length]; omega), if_neg (by omega)]
theorem info_intT : (Try.prog.info? 3).map (fun i => (i.zero, i.size, i.bytes)) = some (some (.int .i64 0), 1, 8) := by kernel_rfl
theorem Cs.self {w0 w : World} {g : Nat} (h : Cs w0 g w) : Cs w g w := by
  obtain ⟨k, k1, k2, k3, -⟩ := h
  exact ⟨k, k1, k2, k3, only_of_below (Below.refl _ _) _⟩
theorem Cs.next {w0 w w' : World} {g : Nat} (h : Cs w0 g w) (h' : Cs w g w') : Cs w0 g w' ∧ w.grownBy w' (some g) := by
  obtain ⟨k, -, -, -, k4⟩ := h
  obtain ⟨j, j1, j2, j3, j4⟩ := h'
  exact ⟨⟨j, j1, j2, j3, grown_trans k4 j4⟩, j4⟩
/-- the circle and the row on the way -/
def RowS (w : World) (g r : Nat) (xs : List Int) (w' : World) : Prop := Cs w g w' ∧ Blk w' r 3 (icells xs) ∧ g < r ∧ w.heap.size ≤ r
def RowQ (w : World) (xs : List Int) (e : Ending) (w' : World) : Prop := ∃ r, e = .returned (.tuple #[.slice (some ⟨r, 0, none⟩) 32 32, .int .i64 0]) ∧ Blk w' r 3 (icells xs) ∧ Below w.heap.size w w'
set_option maxRecDepth 100000 in
set_option maxHeartbeats 2000000 in
theorem row_any (k : Int) (w : World) (h0 : 0 ≤ k) (h1 : k ≤ 15) : Calls Try.prog 38 #[.int .i64 k] w (RowQ w (rowI k)) := by
  have hmk : ∀ u : World, (Instr.makeSlice 43 (.int .i64 32) (.int .i64 32)).run Try.prog u = .ok (.slice (some ⟨u.heap.size, 0, none⟩) 32 32) (u.alloc (.cells (madeCells #[.int .i64 0] 32) 3)) := fun u =>
    run_make_row' (P := Try.prog) 43 3 (.int .i64 0) 8 Try.underlying43 info_intT rfl .i64 .i64 32 (by omega) (by omega) u
  go_enter Try.func38, Try.ntmps38
  go_wp2_with fail
  refine (isNumber_any k true _ (decide_eq_true ⟨h0, h1⟩)).mono ?_
  rintro e w1 ⟨rfl, rfl⟩
  go_wp2_with fail
  refine (newCircle_any _).mono ?_
  rintro e w1 ⟨rfl, hB, hb1⟩
  have HB := Lib.hid hB
  have HW := Lib.hid hb1
  clear hB hb1
  go_wp2_with fail
  have HS := Lib.hid (show RowS w1 w.heap.size w1.heap.size (rowK k 0) (w1.alloc (.cells (madeCells #[.int .i64 0] 32) 3)) from ⟨(Cs.fresh HB.out).below ((Below.refl w1.heap.size w1).alloc (Nat.le_refl _) _), by rw [rowK_none, ← icells_zero]; exact Blk.new _ _ _, HB.out.lt, Nat.le_refl _⟩)
  clear hmk
  generalize w1.alloc (.cells (madeCells #[.int .i64 0] 32) 3) = w2 at HS ⊢
  generalize w1.heap.size = r at HS ⊢
  obtain ⟨g, hg⟩ : ∃ g, g = w.heap.size := ⟨_, rfl⟩
  rw [← hg] at HS HB ⊢
  have HG := Lib.hid hg
  clear hg
  go_loopw [6, 14] (fun _ vi wr => ∃ j : Nat, j ≤ 32 ∧ vi = .int .i64 (j : Int) ∧ Hid (RowS w1 g r (rowK k j) wr)) (fun _ vi _ => 32 - (intOf vi).toNat)
  case atStart => exact ⟨0, by omega, rfl, HS⟩
  case round =>
    obtain ⟨j, hj, rfl, HR⟩ := hrel
    by_cases hlt : j < 32
    · obtain ⟨z, hz⟩ : ∃ z, phI (j : Int) k = z := ⟨_, rfl⟩
      have HZ := Lib.hid hz
      obtain ⟨q1, q2⟩ := pl_is z
      have HV := Lib.hid (show cosP (pl z) = kerI (j : Int) k by unfold kerI; rw [hz])
      generalize pl z = n at q1 q2 HV
      have HQ1 := Lib.hid q1
      have HQ2 := Lib.hid q2
      have hi := run_at0 (cosP n) (sinP n)
      clear hz q1 q2
      go_wp2_with fail
      refine (phase_any (j : Int) k z _ (by omega) (by omega) h0 h1 HZ.out).mono ?_
      rintro e w3 ⟨rfl, rfl⟩
      go_wp2_with fail
      refine (rounded_any g n z wr HQ1.out HQ2.out (Lib.hid HR.out.1.self)).mono ?_
      rintro e w3 ⟨rfl, hQ⟩
      obtain ⟨c1, c2⟩ := HR.out.1.next hQ
      have hb3 := HR.out.2.1.only c2 (by have := HR.out.2.2.1; omega)
      have HC3 := Lib.hid c1
      have HB3 := Lib.hid hb3
      have c0 := blk_at hb3 (i := j) (by rw [rowK_length]; exact hlt)
      have f0 := Blk.frozen hb3 j
      have j32 : (j : Int) < 32 := by omega
      have HP := Lib.hid (show RowS w1 g r (rowK k (j + 1)) (w3.setCell ⟨r, j, none⟩ (.int .i64 (cosP n))) from by
        refine ⟨?_, ?_, HR.out.2.2⟩
        · obtain ⟨kk, k1, k2, k3, k4⟩ := HC3.out
          exact ⟨kk, k1, k2, k3.far (p := ⟨r, j, none⟩) (by show g ≠ r; have := HR.out.2.2.1; omega) _, only_setCell k4 (p := ⟨r, j, none⟩) (.inr HR.out.2.2.2) _⟩
        · have := blk_put HB3.out j (cosP n)
          rwa [HV.out, rowK_set k j hlt, ← HV.out] at this)
      clear hQ c1 c2 hb3 HR
      go_wp2
      go_roundw
      case rel => exact ⟨j + 1, by omega, by go_num, HP⟩
      case measure => simp [intOf]; omega
    · obtain rfl : j = 32 := by omega
      rw [rowK_all] at HR
      go_wp2
      go_ret2
      exact ⟨r, rfl, HR.out.2.1, by rw [← HG.out]; have := HW.out; rw [← HG.out] at this; obtain ⟨kk, -, -, -, k4⟩ := HR.out.1; exact below_grown this k4 (Nat.le_refl _) (by have := HW.out.size; have := HG.out; omega)⟩
set_option maxHeartbeats 1000000 in
theorem row_no (k : Int) (w : World) (h : ¬ (0 ≤ k ∧ k ≤ 15)) : Calls Try.prog 38 #[.int .i64 k] w fun e w' => e = .returned (.tuple #[.slice none 0 0, .int .i64 1]) ∧ w = w' := by
  go_enter Try.func38, Try.ntmps38
  go_wp2_with fail
  refine (isNumber_any k false _ (decide_eq_false h)).mono ?_
  rintro e w1 ⟨rfl, rfl⟩
  go_wp2
  go_ret2
  exact ⟨rfl, rfl⟩
end Go.Proofs.Ytplfcncibmgllaa.Tb
