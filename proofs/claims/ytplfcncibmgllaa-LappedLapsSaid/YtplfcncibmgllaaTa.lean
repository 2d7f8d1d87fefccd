/-
  Own texts, laid together: Ta.
-/
import Derived.Test.YtplfcncibmgllaaSb
import Derived.StillTailTactics
/- Ta -/
namespace Go.Proofs.Ytplfcncibmgllaa.Tb
open Go.RowKit Go.Proofs.Ytplfcncibmgllaa.Fx
/-- the i-th part's cosine and sine -/
def partP (i : Nat) : Int × Int :=
  if i = 1 then (-1073741824, 0) else if i = 2 then (0, 1073741824) else if i = 3 then (759250124, 759250124) else if i = 4 then (992008094, 410903207)
  else if i = 5 then (1053110175, 209476638) else if i = 6 then (1068571463, 105245105) else if i = 7 then (1072448454, 52686017) else (0, 0)
def rot (p q : Int × Int) : Int × Int := (roundI (p.1 * q.1 - p.2 * q.2) 30, roundI (p.1 * q.2 + p.2 * q.1) 30)
/-- the point behind j parts -/
def stP (m : Nat) : Nat → Int × Int
  | 0 => (1073741824, 0)
  | j + 1 => if m / 2 ^ (6 - j) % 2 = 1 then rot (stP m j) (partP (j + 1)) else stP m j
def ptP (m : Nat) : Int × Int := stP m 7
/-- no number of a point is great -/
def Low (p : Int × Int) : Prop := -1100000000 ≤ p.1 ∧ p.1 ≤ 1100000000 ∧ -1100000000 ≤ p.2 ∧ p.2 ≤ 1100000000
instance (p : Int × Int) : Decidable (Low p) := inferInstanceAs (Decidable (_ ∧ _))
theorem stP_low : ∀ m, m < 128 → ∀ j, j < 8 → Low (stP m j) := by decide +kernel
theorem partP_low : ∀ i, i < 8 → Low (partP i) := by decide +kernel
instance (n r : Nat) : Decidable (IsRt n r) := inferInstanceAs (Decidable (_ ∧ _))
theorem partP_root : ∀ i, i < 8 → 2 < i → IsRt ((1073741824 + (partP (i - 1)).1).toNat * 536870912) (partP i).1.toNat ∧ IsRt ((1073741824 - (partP (i - 1)).1).toNat * 536870912) (partP i).2.toNat
    ∧ 0 ≤ (partP i).1 ∧ 0 ≤ (partP i).2 ∧ 0 ≤ 1073741824 + (partP (i - 1)).1 ∧ 0 ≤ 1073741824 - (partP (i - 1)).1 ∧ (partP (i - 1)).1 ≤ 1073741824 := by decide +kernel
theorem low_mul {x y : Int} (h1 : -1100000000 ≤ x) (h2 : x ≤ 1100000000) (h3 : -1100000000 ≤ y) (h4 : y ≤ 1100000000) : -1210000000000000000 ≤ x * y ∧ x * y ≤ 1210000000000000000 := by
  have h : (x * y).natAbs ≤ 1100000000 * 1100000000 := by
    rw [Int.natAbs_mul]
    exact Nat.mul_le_mul (by omega) (by omega)
  omega
theorem blk2 {w : World} {g : Nat} {t : TypeId} {u v : Value} (h : Blk w g t #[u, v]) : w.cell? ⟨g, 0, none⟩ = some u ∧ w.cell? ⟨g, 1, none⟩ = some v ∧ w.frozen? ⟨g, 0, none⟩ = false ∧ w.frozen? ⟨g, 1, none⟩ = false := ⟨h.cell 0, h.cell 1, h.frozen 0, h.frozen 1⟩
theorem below_pt {B g : Nat} {w w4 : World} (h : Below B w w4) (hg : B ≤ g) (u v : Value) : Below B w ((w4.setCell ⟨g, 0, none⟩ u).setCell ⟨g, 1, none⟩ v) := (h.setCell (p := ⟨g, 0, none⟩) hg u).setCell (p := ⟨g, 1, none⟩) hg v
/-- a point as a value -/
def ptV (p : Int × Int) : Value := .agg #[.int .i64 p.1, .int .i64 p.2]
set_option maxHeartbeats 1000000 in
theorem root_any (v : Int) (r : Nat) (w : World) (h0 : 0 ≤ v) (h1 : v ≤ 2147483648) (hr : IsRt (v.toNat * 536870912) r) :
    Calls Try.prog 50 #[.int .i64 v] w fun e w' => e = .returned (.int .i64 (r : Int)) ∧ w = w' := by
  obtain ⟨n, rfl⟩ : ∃ n : Nat, v = (n : Int) := ⟨v.toNat, by omega⟩
  rw [show ((n : Int)).toNat = n by omega] at hr
  obtain ⟨m, hm⟩ : ∃ m, m = n * 536870912 := ⟨_, rfl⟩
  have hm2 : (n : Int) * 536870912 = (m : Int) := by omega
  rw [← hm] at hr
  have hlt : m < 18446744073709551616 := by omega
  have r1 := hr.lt hlt
  have HR := Lib.hid hr
  have HM := Lib.hid hm
  clear hr hm
  go_enter Try.func50, Try.ntmps50
  go_wp2_with fail
  refine (sqrt_any m _ hlt).mono ?_
  rintro e w' ⟨s, rfl, hs, rfl⟩
  obtain rfl := HR.out.uniq hs
  go_wp2
  go_ret
  exact ⟨rfl, rfl⟩
set_option maxRecDepth 100000 in
set_option maxHeartbeats 2000000 in
theorem turned_any (a b c d : Int) (w : World) (hp : Low (a, b)) (hq : Low (c, d)) :
    Calls Try.prog 51 #[.agg #[.int .i64 a, .int .i64 b], .agg #[.int .i64 c, .int .i64 d]] w fun e w' => e = .returned (ptV (rot (a, b) (c, d))) ∧ Below w.heap.size w w' := by
  obtain ⟨a1, a2, b1, b2⟩ := hp
  obtain ⟨c1, c2, d1, d2⟩ := hq
  dsimp only at a1 a2 b1 b2 c1 c2 d1 d2
  have m1 := low_mul a1 a2 c1 c2
  have m2 := low_mul b1 b2 d1 d2
  have m3 := low_mul a1 a2 d1 d2
  have m4 := low_mul b1 b2 c1 c2
  obtain ⟨x1, e1⟩ : ∃ x, a * c = x := ⟨_, rfl⟩
  obtain ⟨x2, e2⟩ : ∃ x, b * d = x := ⟨_, rfl⟩
  obtain ⟨x3, e3⟩ : ∃ x, a * d = x := ⟨_, rfl⟩
  obtain ⟨x4, e4⟩ : ∃ x, b * c = x := ⟨_, rfl⟩
  rw [e1] at m1
  rw [e2] at m2
  rw [e3] at m3
  rw [e4] at m4
  obtain ⟨y1, f1⟩ : ∃ y, x1 - x2 = y := ⟨_, rfl⟩
  obtain ⟨y2, f2⟩ : ∃ y, x3 + x4 = y := ⟨_, rfl⟩
  have HV := Lib.hid (show ptV (rot (a, b) (c, d)) = .agg #[.int .i64 (roundI y1 30), .int .i64 (roundI y2 30)] by unfold ptV rot; rw [← f1, ← f2, ← e1, ← e2, ← e3, ← e4])
  have b1' : -9223372036854775808 ≤ y1 ∧ y1 ≤ 9223372036854775807 := by omega
  have b2' : -9223372036854775808 ≤ y2 ∧ y2 ≤ 9223372036854775807 := by omega
  have g1 : IntKind.i64.wrap (a * c) = x1 := by rw [e1]; exact IntWalk.i64_in _ (by omega)
  have g2 : IntKind.i64.wrap (b * d) = x2 := by rw [e2]; exact IntWalk.i64_in _ (by omega)
  have g3 : IntKind.i64.wrap (a * d) = x3 := by rw [e3]; exact IntWalk.i64_in _ (by omega)
  have g4 : IntKind.i64.wrap (b * c) = x4 := by rw [e4]; exact IntWalk.i64_in _ (by omega)
  have g5 : IntKind.i64.wrap (x1 - x2) = y1 := by rw [f1]; exact IntWalk.i64_in _ (by omega)
  have g6 : IntKind.i64.wrap (x3 + x4) = y2 := by rw [f2]; exact IntWalk.i64_in _ (by omega)
  have r1 : ∀ w, Calls Try.prog 14 #[.int .i64 y1, .int .i64 30] w fun e w' => e = .returned (.int .i64 (roundI y1 30)) ∧ w' = w := fun w => (round_any _ _ w b1').mono fun _ _ ⟨h, k⟩ => ⟨h, k.symm⟩
  have r2 : ∀ w, Calls Try.prog 14 #[.int .i64 y2, .int .i64 30] w fun e w' => e = .returned (.int .i64 (roundI y2 30)) ∧ w' = w := fun w => (round_any _ _ w b2').mono fun _ _ ⟨h, k⟩ => ⟨h, k.symm⟩
  clear e1 e2 e3 e4 f1 f2 b1' b2' m1 m2 m3 m4
  have R1 := Lib.hid r1
  have R2 := Lib.hid r2
  clear r1 r2 a1 a2 b1 b2 c1 c2 d1 d2
  have HA := Lib.hid (show Blk (((w.alloc (.cells #[.int .i64 a, .int .i64 b] 74)).alloc (.cells #[.int .i64 c, .int .i64 d] 74)).alloc (.cells #[.int .i64 0, .int .i64 0] 74)) w.heap.size 74 #[.int .i64 a, .int .i64 b] from ((Blk.new w _ _).alloc _).alloc _)
  have HB := Lib.hid (show Blk (((w.alloc (.cells #[.int .i64 a, .int .i64 b] 74)).alloc (.cells #[.int .i64 c, .int .i64 d] 74)).alloc (.cells #[.int .i64 0, .int .i64 0] 74)) (w.heap.size + 1) 74 #[.int .i64 c, .int .i64 d] from (Blk.newAt (by simp)).alloc _)
  have HC := Lib.hid (show Blk (((w.alloc (.cells #[.int .i64 a, .int .i64 b] 74)).alloc (.cells #[.int .i64 c, .int .i64 d] 74)).alloc (.cells #[.int .i64 0, .int .i64 0] 74)) (w.heap.size + 1 + 1) 74 #[.int .i64 0, .int .i64 0] from Blk.newAt (by simp))
  have HW := Lib.hid (show Below w.heap.size w (((w.alloc (.cells #[.int .i64 a, .int .i64 b] 74)).alloc (.cells #[.int .i64 c, .int .i64 d] 74)).alloc (.cells #[.int .i64 0, .int .i64 0] 74)) from (((Below.refl w.heap.size w).alloc (Nat.le_refl _) _).alloc (by simp) _).alloc (by simp; omega) _)
  go_enter Try.func51, Try.ntmps51
  go_wp2_with fail
  generalize ((w.alloc (.cells #[.int .i64 a, .int .i64 b] 74)).alloc (.cells #[.int .i64 c, .int .i64 d] 74)).alloc (.cells #[.int .i64 0, .int .i64 0] 74) = w1 at HA HB HC HW ⊢
  obtain ⟨p, hp⟩ : ∃ p, p = w.heap.size := ⟨_, rfl⟩
  rw [← hp] at HA HB HC HW ⊢
  have HP := Lib.hid hp
  clear hp
  obtain ⟨ca, cb, -, -⟩ := blk2 HA.out
  obtain ⟨cc, cd, -, -⟩ := blk2 HB.out
  refine wp_region_still_tail 25 (by kernel_rfl) (by kernel_rfl) ?_
  simp only [List.take_succ_cons, List.take_zero, List.drop_succ_cons, List.drop_zero]
  iterate 11 still_step
  still_call (R1.out _)
  iterate 11 still_step
  still_call (R2.out _)
  still_step
  refine wpStill_nil ?_
  change wpList _ _ _ _ _ w1.drew
  have HC4 := Lib.hid HC.out.drew
  have HW4 := Lib.hid (Below.drew HW.out)
  clear ca cb cc cd HA HB HC HW R1 R2
  generalize w1.drew = w4 at HC4 HW4 ⊢
  obtain ⟨ca, cb, za, zb⟩ := blk2 HC4.out
  go_wp2
  refine bodyPost_ret (v := .agg #[.int .i64 (roundI y1 30), .int .i64 (roundI y2 30)]) (by simp [results, Try.results51, go_sem, ca, cb]) rfl ⟨by rw [HV.out], ?_⟩
  rw [← HP.out]
  exact below_pt HW4.out (by omega) _ _
set_option maxRecDepth 100000 in
set_option maxHeartbeats 2000000 in
theorem halved_any (d s : Int) (c r : Nat) (w : World) (hd1 : 0 ≤ 1073741824 + d) (hd2 : 0 ≤ 1073741824 - d) (hc : IsRt ((1073741824 + d).toNat * 536870912) c) (hr : IsRt ((1073741824 - d).toNat * 536870912) r) :
    Calls Try.prog 47 #[.agg #[.int .i64 d, .int .i64 s]] w fun e w' => e = .returned (.agg #[.int .i64 (c : Int), .int .i64 (r : Int)]) ∧ Below w.heap.size w w' := by
  obtain ⟨y1, f1⟩ : ∃ y, 1073741824 + d = y := ⟨_, rfl⟩
  obtain ⟨y2, f2⟩ : ∃ y, 1073741824 - d = y := ⟨_, rfl⟩
  rw [f1] at hd1 hc
  rw [f2] at hd2 hr
  have g5 : IntKind.i64.wrap (1073741824 + d) = y1 := by rw [f1]; exact IntWalk.i64_in _ (by omega)
  have g6 : IntKind.i64.wrap (1073741824 - d) = y2 := by rw [f2]; exact IntWalk.i64_in _ (by omega)
  have r1 : ∀ w, Calls Try.prog 50 #[.int .i64 y1] w fun e w' => e = .returned (.int .i64 (c : Int)) ∧ w' = w := fun w => (root_any _ _ w hd1 (by omega) hc).mono fun _ _ ⟨h, k⟩ => ⟨h, k.symm⟩
  have r2 : ∀ w, Calls Try.prog 50 #[.int .i64 y2] w fun e w' => e = .returned (.int .i64 (r : Int)) ∧ w' = w := fun w => (root_any _ _ w hd2 (by omega) hr).mono fun _ _ ⟨h, k⟩ => ⟨h, k.symm⟩
  have R1 := Lib.hid r1
  have R2 := Lib.hid r2
  clear r1 r2 f1 f2 hd1 hd2 hc hr
  have HA := Lib.hid (show Blk ((w.alloc (.cells #[.int .i64 d, .int .i64 s] 74)).alloc (.cells #[.int .i64 0, .int .i64 0] 74)) w.heap.size 74 #[.int .i64 d, .int .i64 s] from (Blk.new w _ _).alloc _)
  have HC := Lib.hid (show Blk ((w.alloc (.cells #[.int .i64 d, .int .i64 s] 74)).alloc (.cells #[.int .i64 0, .int .i64 0] 74)) (w.heap.size + 1) 74 #[.int .i64 0, .int .i64 0] from Blk.newAt (by simp))
  have HW := Lib.hid (show Below w.heap.size w ((w.alloc (.cells #[.int .i64 d, .int .i64 s] 74)).alloc (.cells #[.int .i64 0, .int .i64 0] 74)) from ((Below.refl w.heap.size w).alloc (Nat.le_refl _) _).alloc (by simp) _)
  go_enter Try.func47, Try.ntmps47
  go_wp2_with fail
  generalize (w.alloc (.cells #[.int .i64 d, .int .i64 s] 74)).alloc (.cells #[.int .i64 0, .int .i64 0] 74) = w1 at HA HC HW ⊢
  obtain ⟨p, hp⟩ : ∃ p, p = w.heap.size := ⟨_, rfl⟩
  rw [← hp] at HA HC HW ⊢
  have HP := Lib.hid hp
  clear hp
  obtain ⟨ca, cb, -, -⟩ := blk2 HA.out
  refine wp_region_still_tail 9 (by kernel_rfl) (by kernel_rfl) ?_
  simp only [List.take_succ_cons, List.take_zero, List.drop_succ_cons, List.drop_zero]
  iterate 3 still_step
  still_call (R1.out _)
  iterate 3 still_step
  still_call (R2.out _)
  still_step
  refine wpStill_nil ?_
  change wpList _ _ _ _ _ w1.drew
  have HC4 := Lib.hid HC.out.drew
  have HW4 := Lib.hid (Below.drew HW.out)
  clear ca cb HA HC HW R1 R2
  generalize w1.drew = w4 at HC4 HW4 ⊢
  obtain ⟨ca, cb, za, zb⟩ := blk2 HC4.out
  go_wp2
  refine bodyPost_ret (v := .agg #[.int .i64 (c : Int), .int .i64 (r : Int)]) (by simp [results, Try.results47, go_sem, ca, cb]) rfl ⟨rfl, ?_⟩
  rw [← HP.out]
  exact below_pt HW4.out (by omega) _ _
/-- the circle's cells: what makes parts, and the parts that are there -/
def keptV (k i : Nat) : Value := if 1 ≤ i ∧ i ≤ k then .iface 74 (ptV (partP i)) else .nilIface
def circA (k : Nat) : Array Value := #[.func (.func 47) #[] #[], keptV k 0, keptV k 1, keptV k 2, keptV k 3, keptV k 4, keptV k 5, keptV k 6, keptV k 7]
def NewC (w : World) (e : Ending) (w' : World) : Prop := e = .returned (.pointer (some ⟨w.heap.size, 0, none⟩)) ∧ Blk w' w.heap.size 79 (circA 2) ∧ Below w.heap.size w w'
set_option maxRecDepth 100000 in
set_option maxHeartbeats 2000000 in
theorem newCircle_any (w : World) : Calls Try.prog 43 #[] w (NewC w) := by
  go_enter Try.func43, Try.ntmps43
  go_wp2
  go_ret
  exact ⟨rfl, Blk.new w _ _, (Below.refl w.heap.size w).alloc (Nat.le_refl _) _⟩
end Go.Proofs.Ytplfcncibmgllaa.Tb
