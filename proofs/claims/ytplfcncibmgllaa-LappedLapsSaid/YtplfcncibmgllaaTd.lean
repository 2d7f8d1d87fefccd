/-
  Own texts, laid together: Td.
-/
import Derived.Test.YtplfcncibmgllaaTc
/- Td -/
namespace Go.Proofs.Ytplfcncibmgllaa.Tb
open Go.RowKit Go.Proofs.Ytplfcncibmgllaa.Fx
/-- cosines and sines in parts of 2^24 -/
def cosP (n : Nat) : Int := roundI (ptP n).1 6
def sinP (n : Nat) : Int := roundI (ptP n).2 6
theorem below_grown {B g : Nat} {w w1 w2 : World} (h : Below B w w1) (k : w1.grownBy w2 (some g)) (hg : B ≤ g) (hB : B ≤ w1.heap.size) : Below B w w2 :=
  ⟨k.os.trans h.os, k.tape.trans h.tape, k.output.trans h.output, Nat.le_trans h.size k.size, fun i hi => (k.block i (by omega) (fun e => by injection e; omega)).trans (h.block i hi)⟩
theorem Cs.fresh {w w1 : World} (h : Blk w1 w.heap.size 79 (circA 2)) : Cs w1 w.heap.size w1 := ⟨2, by omega, by omega, h, only_of_below (Below.refl _ _) _⟩
theorem Cs.out {w w1 w2 : World} (h : Cs w1 w.heap.size w2) (hb : Below w.heap.size w w1) : Below w.heap.size w w2 := by
  obtain ⟨k, -, -, -, h4⟩ := h
  exact below_grown hb h4 (Nat.le_refl _) hb.size
theorem ptP_low (n : Nat) (h : n < 128) : Low (ptP n) := stP_low n h 7 (by omega)
set_option maxRecDepth 100000 in
set_option maxHeartbeats 2000000 in
theorem rounded_any (g n : Nat) (m : Int) (w : World) (hn : n < 128) (hm : m % 128 = (n : Int)) (hC : Hid (Cs w g w)) :
    Calls Try.prog 44 #[.pointer (some ⟨g, 0, none⟩), .int .i64 m] w fun e w' => e = .returned (.agg #[.int .i64 (cosP n), .int .i64 (sinP n)]) ∧ Cs w g w' := by
  obtain ⟨x1, x2, x3, x4⟩ := ptP_low n hn
  have R1 := Lib.hid (show ∀ u, Calls Try.prog 14 #[.int .i64 (ptP n).1, .int .i64 6] u fun e w' => e = .returned (.int .i64 (cosP n)) ∧ w' = u from fun u => (round_any _ _ u ⟨by omega, by omega⟩).mono fun _ _ ⟨h, k⟩ => ⟨h, k.symm⟩)
  have R2 := Lib.hid (show ∀ u, Calls Try.prog 14 #[.int .i64 (ptP n).2, .int .i64 6] u fun e w' => e = .returned (.int .i64 (sinP n)) ∧ w' = u from fun u => (round_any _ _ u ⟨by omega, by omega⟩).mono fun _ _ ⟨h, k⟩ => ⟨h, k.symm⟩)
  have HC0 := Lib.hid (show Cs (w.alloc (.cells #[.int .i64 0, .int .i64 0] 74)) g (w.alloc (.cells #[.int .i64 0, .int .i64 0] 74)) by
    obtain ⟨k, k1, k2, k3, -⟩ := hC.out
    exact ⟨k, k1, k2, k3.alloc _, only_of_below (Below.refl _ _) _⟩)
  have HA := Lib.hid (at_any g n m _ hn hm HC0)
  have HW := Lib.hid (show w.grownBy (w.alloc (.cells #[.int .i64 0, .int .i64 0] 74)) (some g) from only_alloc (only_of_below (Below.refl _ _) _) _)
  have HR := Lib.hid (show Blk (w.alloc (.cells #[.int .i64 0, .int .i64 0] 74)) w.heap.size 74 #[.int .i64 0, .int .i64 0] ∧ g ≠ w.heap.size from ⟨Blk.new w _ _, by
    obtain ⟨k, -, -, k3, -⟩ := hC.out
    have := k3.lt
    omega⟩)
  have HZ := Lib.hid (show w.heap.size < (w.alloc (.cells #[.int .i64 0, .int .i64 0] 74)).heap.size by simp)
  clear x1 x2 x3 x4 hn hm hC HC0
  go_enter Try.func44, Try.ntmps44
  go_wp2_with fail
  generalize w.alloc (.cells #[.int .i64 0, .int .i64 0] 74) = w1 at HA HW HR HZ ⊢
  obtain ⟨r, hr⟩ : ∃ r, r = w.heap.size := ⟨_, rfl⟩
  rw [← hr] at HR HZ ⊢
  have HRS := Lib.hid hr
  clear hr
  refine HA.out.mono ?_
  rintro e w2 ⟨rfl, hQ⟩
  have HQ := Lib.hid (show Cs w g w2 by
    obtain ⟨k, k1, k2, k3, k4⟩ := hQ
    exact ⟨k, k1, k2, k3, grown_trans HW.out k4⟩)
  have HR2 := Lib.hid (show Blk w2 r 74 #[.int .i64 0, .int .i64 0] from by
    obtain ⟨k, k1, k2, k3, k4⟩ := hQ
    exact HR.out.1.only k4 (Ne.symm HR.out.2))
  have HZ2 := Lib.hid (show r < w2.heap.size from HR2.out.lt)
  clear hQ HA HW HZ
  go_wp2_with fail
  have HQ3 := Lib.hid (HQ.out.below ((Below.refl w2.heap.size w2).alloc (Nat.le_refl _) (.cells #[.int .i64 (ptP n).1, .int .i64 (ptP n).2] 74)))
  have HR3 := Lib.hid (HR2.out.alloc (.cells #[.int .i64 (ptP n).1, .int .i64 (ptP n).2] 74))
  have HP3 := Lib.hid (Blk.new w2 74 #[.int .i64 (ptP n).1, .int .i64 (ptP n).2])
  clear HQ HR2 HZ2
  generalize w2.alloc (.cells #[.int .i64 (ptP n).1, .int .i64 (ptP n).2] 74) = w3 at HQ3 HR3 HP3 ⊢
  generalize w2.heap.size = q at HP3 ⊢
  obtain ⟨ca, cb, -, -⟩ := blk2 HP3.out
  refine wp_region_still_tail 7 (by kernel_rfl) (by kernel_rfl) ?_
  simp only [List.take_succ_cons, List.take_zero, List.drop_succ_cons, List.drop_zero]
  iterate 2 still_step
  still_call (R1.out _)
  iterate 2 still_step
  still_call (R2.out _)
  still_step
  refine wpStill_nil ?_
  change wpList _ _ _ _ _ w3.drew
  have HQ4 := Lib.hid HQ3.out.drew
  have HR4 := Lib.hid HR3.out.drew
  clear ca cb HQ3 HR3 HP3 R1 R2
  generalize w3.drew = w4 at HQ4 HR4 ⊢
  obtain ⟨y0, y1, z0, z1⟩ := blk2 HR4.out
  go_wp2
  refine bodyPost_ret (v := .agg #[.int .i64 (cosP n), .int .i64 (sinP n)]) (by simp [results, Try.results44, go_sem, y0, y1]) rfl ⟨rfl, ?_⟩
  obtain ⟨k, k1, k2, k3, k4⟩ := HQ4.out
  exact ⟨k, k1, k2, (k3.far (p := ⟨r, 0, none⟩) HR.out.2 _).far (p := ⟨r, 1, none⟩) HR.out.2 _, only_setCell (only_setCell k4 (p := ⟨r, 0, none⟩) (.inr (Nat.le_of_eq HRS.out.symm)) _) (p := ⟨r, 1, none⟩) (.inr (Nat.le_of_eq HRS.out.symm)) _⟩
theorem run_at0 (a b : Int) (w : World) : Sem.run Try.prog (Instr.index 74 (.agg #[.int .i64 a, .int .i64 b]) (.int .i64 0)) w = .ok (.int .i64 a) w := by kernel_rfl
theorem run_at1 (a b : Int) (w : World) : Sem.run Try.prog (Instr.index 74 (.agg #[.int .i64 a, .int .i64 b]) (.int .i64 1)) w = .ok (.int .i64 b) w := by kernel_rfl
/-- the place on the circle -/
def pl (m : Int) : Nat := (m % 128).toNat
theorem pl_is (m : Int) : pl m < 128 ∧ m % 128 = (pl m : Int) := by unfold pl; omega
theorem sin_any (m : Int) (w : World) : Calls Try.prog 40 #[.int .i64 m] w fun e w' => e = .returned (.int .i64 (sinP (pl m))) ∧ Below w.heap.size w w' := by
  obtain ⟨hn, hm⟩ := pl_is m
  generalize pl m = n at hn hm ⊢
  have HN := Lib.hid hn
  have HM := Lib.hid hm
  clear hn hm
  go_enter Try.func40, Try.ntmps40
  go_wp2_with fail
  refine (newCircle_any _).mono ?_
  rintro e w1 ⟨rfl, hB, hb1⟩
  have HB := Lib.hid hB
  have HW := Lib.hid hb1
  clear hB hb1
  go_wp2_with fail
  refine (rounded_any _ n m w1 HN.out HM.out (Lib.hid (Cs.fresh HB.out))).mono ?_
  rintro e w2 ⟨rfl, hQ⟩
  have HQ := Lib.hid (hQ.out HW.out)
  clear hQ HB HW
  have hi := run_at1 (cosP n) (sinP n)
  go_wp2
  go_ret
  exact ⟨rfl, HQ.out⟩
def halfT (i : Int) : Value := if 1 ≤ i ∧ i ≤ 7 then .tuple #[.int .i64 (partP i.toNat).1, .int .i64 (partP i.toNat).2, .int .i64 0] else .tuple #[.int .i64 0, .int .i64 0, .int .i64 1]
def turnT (n : Nat) : Value := .tuple #[.int .i64 (ptP n).1, .int .i64 (ptP n).2]
end Go.Proofs.Ytplfcncibmgllaa.Tb
