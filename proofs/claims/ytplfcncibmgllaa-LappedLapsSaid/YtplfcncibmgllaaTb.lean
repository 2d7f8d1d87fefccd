/-
  Own texts, laid together: Tb.
-/
import Derived.Test.YtplfcncibmgllaaTa
import Derived.Deep.RegionHeld3
/- Tb -/
namespace Go.Proofs.Ytplfcncibmgllaa.Tb
open Go.RowKit Go.Proofs.Ytplfcncibmgllaa.Fx
theorem circA_get (k i : Nat) (h : i ≤ 7) : (circA k)[1 + i]? = some (keptV k i) := by
  rcases (show i = 0 ∨ i = 1 ∨ i = 2 ∨ i = 3 ∨ i = 4 ∨ i = 5 ∨ i = 6 ∨ i = 7 by omega) with rfl | rfl | rfl | rfl | rfl | rfl | rfl | rfl <;> rfl
theorem circA_size (k : Nat) : (circA k).size = 9 := rfl
theorem circA_put (i : Nat) (h1 : 1 ≤ i) (h : i < 7) : (circA i).setIfInBounds (1 + (i + 1)) (.iface 74 (ptV (partP (i + 1)))) = circA (i + 1) := by
  rcases (show i = 1 ∨ i = 2 ∨ i = 3 ∨ i = 4 ∨ i = 5 ∨ i = 6 by omega) with rfl | rfl | rfl | rfl | rfl | rfl <;> rfl
theorem run_told (v : Value) (w : World) : Sem.run Try.prog (Instr.typeAssert (.iface 74 v) 20 74 true) w = .ok (.tuple #[v, .bool true]) w := by kernel_rfl
theorem run_sure (v : Value) (w : World) : Sem.run Try.prog (Instr.typeAssert (.iface 74 v) 20 74 false) w = .ok v w := by kernel_rfl
theorem run_none (w : World) : Sem.run Try.prog (Instr.typeAssert .nilIface 20 74 true) w = .ok (.tuple #[.agg #[.int .i64 0, .int .i64 0], .bool false]) w := by kernel_rfl
def PartQ (w : World) (g k i : Nat) (e : Ending) (w' : World) : Prop := e = .returned (ptV (partP i)) ∧ Blk w' g 79 (circA (max k i)) ∧ w.grownBy w' (some g)
set_option maxRecDepth 100000 in
set_option maxHeartbeats 2000000 in
theorem part_old (g k i : Nat) (w : World) (hi : 1 ≤ i) (hik : i ≤ k) (hk : k ≤ 7) (hB : Hid (Blk w g 79 (circA k))) :
    Calls Try.prog 52 #[.pointer (some ⟨g, 0, none⟩), .int .i64 (i : Int)] w (PartQ w g k i) := by
  have ci : w.cell? ⟨g, 1 + i, none⟩ = some (.iface 74 (.agg #[.int .i64 (partP i).1, .int .i64 (partP i).2])) := by
    rw [hB.out.cell, circA_get k i (by omega)]
    unfold keptV; rw [if_pos ⟨hi, hik⟩]; rfl
  have lg := hB.out.lt
  have i8 : (i : Int) < 8 := by omega
  have HI := Lib.hid (show max k i = k by omega)
  have ta := run_told (.agg #[.int .i64 (partP i).1, .int .i64 (partP i).2])
  go_enter Try.func52, Try.ntmps52
  go_wp2
  refine bodyPost_ret (v := .agg #[.int .i64 (partP i).1, .int .i64 (partP i).2]) (by simp [results, Try.results52, go_sem]) rfl ⟨rfl, ?_, ?_⟩
  · rw [HI.out]; exact (hB.out.alloc _).alloc _
  · exact only_alloc (only_alloc (only_of_below (Below.refl _ _) _) _) _
/-- the circle, and all else as it was -/
def Circ (w0 : World) (g k : Nat) (w' : World) : Prop := Blk w' g 79 (circA k) ∧ w0.grownBy w' (some g)
theorem Circ.drew {w0 w' : World} {g k : Nat} (h : Circ w0 g k w') : Circ w0 g k w'.drew := ⟨h.1.drew, only_drew h.2⟩
theorem Circ.cell0 {w0 w' : World} {g k : Nat} (h : Circ w0 g k w') : w'.cell? ⟨g, 0, none⟩ = some (.func (.func 47) #[] #[]) := h.1.cell 0
theorem Circ.put {w0 w' : World} {g j i : Nat} (h : Circ w0 g j w') (h1 : 1 ≤ j) (h7 : j < 7) (e : i = j + 1) : Circ w0 g i (w'.setCell ⟨g, 1 + i, none⟩ (.iface 74 (.agg #[.int .i64 (partP i).1, .int .i64 (partP i).2]))) := by
  subst e
  refine ⟨?_, only_setCell h.2 (.inl rfl) _⟩
  have := h.1.set_ (1 + (j + 1)) (.iface 74 (.agg #[.int .i64 (partP (j + 1)).1, .int .i64 (partP (j + 1)).2]))
  rwa [show (Value.agg #[.int .i64 (partP (j + 1)).1, .int .i64 (partP (j + 1)).2]) = ptV (partP (j + 1)) from rfl, circA_put j h1 h7] at this
theorem grown_trans {a b c : World} {g : Option Nat} (h : a.grownBy b g) (k : b.grownBy c g) : a.grownBy c g :=
  ⟨k.os.trans h.os, k.tape.trans h.tape, k.output.trans h.output, Nat.le_trans h.size k.size, fun i hi hne => (k.block i (Nat.lt_of_lt_of_le hi h.size) hne).trans (h.block i hi hne)⟩
set_option maxRecDepth 100000 in
set_option maxHeartbeats 2000000 in
theorem part_new (g k i j : Nat) (w : World) (hij : i = j + 1) (h2 : 2 ≤ k) (hkj : k ≤ j) (h7 : i ≤ 7) (hB : Hid (Blk w g 79 (circA k)))
    (ih : Hid (∀ u, Blk u g 79 (circA k) → Calls Try.prog 52 #[.pointer (some ⟨g, 0, none⟩), .int .i64 (j : Int)] u (PartQ u g k j))) :
    Calls Try.prog 52 #[.pointer (some ⟨g, 0, none⟩), .int .i64 (i : Int)] w (PartQ w g k i) := by
  have ci : w.cell? ⟨g, 1 + i, none⟩ = some .nilIface := by
    rw [hB.out.cell, circA_get k i (by omega)]
    unfold keptV; rw [if_neg (by omega)]
  have lg := hB.out.lt
  have i8 : (i : Int) < 8 := by omega
  have vj : (i : Int) - 1 = (j : Int) := by omega
  have vw : IntKind.i64.wrap (j : Int) = (j : Int) := IntWalk.i64_in _ (by omega)
  have HI := Lib.hid (show max k i = i ∧ i = j + 1 ∧ 1 ≤ j ∧ j < 7 by omega)
  have HJ := Lib.hid (show max k j = j by omega)
  have HPI := Lib.hid (partP_root i (by omega) (by omega))
  have ta := run_none
  have tb := run_sure (.agg #[.int .i64 (partP i).1, .int .i64 (partP i).2])
  have HS0 := Lib.hid (show Circ ((w.alloc (.cells #[.int .i64 0, .int .i64 0] 74)).alloc (.cells #[.int .i64 0, .int .i64 0] 74)) g k ((w.alloc (.cells #[.int .i64 0, .int .i64 0] 74)).alloc (.cells #[.int .i64 0, .int .i64 0] 74)) from ⟨(hB.out.alloc _).alloc _, only_of_below (Below.refl _ _) _⟩)
  have HW0 := Lib.hid (show w.grownBy ((w.alloc (.cells #[.int .i64 0, .int .i64 0] 74)).alloc (.cells #[.int .i64 0, .int .i64 0] 74)) (some g) from only_alloc (only_alloc (only_of_below (Below.refl _ _) _) _) _)
  have HR0 := Lib.hid (show Blk ((w.alloc (.cells #[.int .i64 0, .int .i64 0] 74)).alloc (.cells #[.int .i64 0, .int .i64 0] 74)) w.heap.size 74 #[.int .i64 0, .int .i64 0] ∧ g ≠ w.heap.size from ⟨(Blk.new w _ _).alloc _, by omega⟩)
  clear hij h2 hkj h7
  go_enter Try.func52, Try.ntmps52
  go_wp2_with fail
  generalize (w.alloc (.cells #[.int .i64 0, .int .i64 0] 74)).alloc (.cells #[.int .i64 0, .int .i64 0] 74) = w1 at HS0 HW0 HR0 ⊢
  obtain ⟨r, hr⟩ : ∃ r, r = w.heap.size := ⟨_, rfl⟩
  rw [← hr] at HR0 ⊢
  have HRS := Lib.hid hr
  clear hr ci lg
  have x0 := HS0.out.cell0
  have C1 := Lib.hid (show ∀ u, Circ w1 g k u → Calls Try.prog 52 #[.pointer (some ⟨g, 0, none⟩), .int .i64 (j : Int)] u (fun e w' => e = .returned (.agg #[.int .i64 (partP j).1, .int .i64 (partP j).2]) ∧ Circ w1 g j w') from fun u h =>
    (ih.out u h.1).mono fun e w' ⟨h1, h2, h3⟩ => ⟨h1, by rw [HJ.out] at h2; exact h2, grown_trans h.2 h3⟩)
  have C2 := Lib.hid (show ∀ u, Circ w1 g j u → Calls Try.prog 47 #[.agg #[.int .i64 (partP j).1, .int .i64 (partP j).2]] u (fun e w' => e = .returned (.agg #[.int .i64 (partP i).1, .int .i64 (partP i).2]) ∧ Circ w1 g j w') from fun u h => by
    obtain ⟨c1, c2, c3, c4, c5, c6, -⟩ := HPI.out
    rw [show i - 1 = j by have := HI.out.2.1; omega] at c1 c2 c5 c6
    have e1 : (((partP i).1.toNat : Nat) : Int) = (partP i).1 := by omega
    have e2 : (((partP i).2.toNat : Nat) : Int) = (partP i).2 := by omega
    have := halved_any (partP j).1 (partP j).2 (partP i).1.toNat (partP i).2.toNat u c5 c6 c1 c2
    rw [e1, e2] at this
    exact this.mono fun e w' ⟨h1, h2⟩ => ⟨h1, h.1.below h2 h.1.lt, grown_trans h.2 (only_of_below h2 _)⟩)
  have HC := Lib.hid (show ∀ u, Circ w1 g j u → u.cell? ⟨g, 1 + i, none⟩ = some .nilIface from fun u h => by
    have := HI.out
    rw [h.1.cell, circA_get j i (by omega)]
    unfold keptV; rw [if_neg (by omega)])
  have HP := Lib.hid (show ∀ u, Circ w1 g j u → Circ w1 g i (u.setCell ⟨g, 1 + i, none⟩ (.iface 74 (.agg #[.int .i64 (partP i).1, .int .i64 (partP i).2]))) from fun u h => h.put HI.out.2.2.1 HI.out.2.2.2 HI.out.2.1)
  clear HPI ih hB
  go_region_held3 (fun w' => w'.cell? ⟨g, 0, none⟩ = some (.func (.func 47) #[] #[])) (first | exact x0 | exact hQ.cell0 | exact hR.cell0 | exact (HP.out _ hR).cell0) (first
    | (go_at_call 52; refine (C1.out _ (by first | exact HS0.out | exact HS0.out.drew)).mono ?_; rintro e w6 ⟨rfl, hQ⟩)
    | (go_at_call 47; refine (C2.out _ hQ).mono ?_; rintro e w7 ⟨rfl, hR⟩; have z := hR.1.frozen (1 + i); have cz : w7.cell? ⟨g, 1 + i, none⟩ = some .nilIface := HC.out _ hR))
  have HF := Lib.hid (HP.out _ hR)
  have HRF := Lib.hid (HR0.out.1.only HF.out.2 (Ne.symm HR0.out.2))
  clear x0 C1 C2 HC HP hQ hR z cz HS0 HJ vj vw
  generalize w7.setCell ⟨g, 1 + i, none⟩ (.iface 74 (.agg #[.int .i64 (partP i).1, .int .i64 (partP i).2])) = w8 at HF HRF ⊢
  have c8 : w8.cell? ⟨g, 1 + i, none⟩ = some (.iface 74 (.agg #[.int .i64 (partP i).1, .int .i64 (partP i).2])) := by
    have := HI.out
    rw [HF.out.1.cell, circA_get i i (by omega)]
    unfold keptV; rw [if_pos (by omega)]; rfl
  obtain ⟨y0, y1, z0, z1⟩ := blk2 HRF.out
  go_wp2
  refine bodyPost_ret (v := .agg #[.int .i64 (partP i).1, .int .i64 (partP i).2]) (by simp [results, Try.results52, go_sem, y0, y1]) rfl ⟨rfl, ?_, ?_⟩
  · rw [HI.out.1]
    exact (HF.out.1.far (p := ⟨r, 0, none⟩) HR0.out.2 _).far (p := ⟨r, 1, none⟩) HR0.out.2 _
  · have hw := grown_trans HW0.out HF.out.2
    exact only_setCell (only_setCell hw (p := ⟨r, 0, none⟩) (.inr (Nat.le_of_eq HRS.out.symm)) _) (p := ⟨r, 1, none⟩) (.inr (Nat.le_of_eq HRS.out.symm)) _
theorem part_any (g : Nat) : ∀ i k : Nat, 1 ≤ i → i ≤ 7 → 2 ≤ k → k ≤ 7 → ∀ w, Blk w g 79 (circA k) →
    Calls Try.prog 52 #[.pointer (some ⟨g, 0, none⟩), .int .i64 (i : Int)] w (PartQ w g k i) := by
  intro i
  induction i with
  | zero => intro k h; omega
  | succ j ih =>
    intro k h1 h7 hk2 hk7 w hB
    rcases Nat.lt_or_ge k (j + 1) with h | h
    · exact part_new g k (j + 1) j w rfl hk2 (by omega) h7 (Lib.hid hB) (Lib.hid fun u hu => ih k (by omega) (by omega) hk2 hk7 u hu)
    · exact part_old g k (j + 1) w (by omega) h hk7 (Lib.hid hB)
end Go.Proofs.Ytplfcncibmgllaa.Tb
