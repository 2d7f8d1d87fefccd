/-
  What greatestFirst answers.
-/
import Derived.Test.YtlmkcipcclomdaaFu
namespace Go.Proofs.Ytlmkcipcclomdaa.Fq
open Go.RowKit

/-- the places as far as k, zeros behind -/
def filled (n k : Nat) : List Nat := (List.range n).map fun j => if j < k then j else 0
theorem filled_length (n k : Nat) : (filled n k).length = n := by simp [filled]
theorem filled_none (n : Nat) : ncells (filled n 0) = icells (List.replicate n 0) := by
  have : (filled n 0).map (fun x : Nat => (x : Int)) = List.replicate n 0 := by simp [filled, List.map_const']
  unfold ncells
  rw [this]
theorem filled_all (n : Nat) : filled n n = List.range n := by
  unfold filled
  refine List.ext_getElem? fun j => ?_
  rw [List.getElem?_map]
  by_cases h : j < n
  · rw [List.getElem?_range h]; simp [h]
  · rw [List.getElem?_eq_none (by simp; omega)]; rfl
theorem filled_set (n k : Nat) (h : k < n) : (filled n k).set k k = filled n (k + 1) := by
  refine List.ext_getElem? fun j => ?_
  rw [List.getElem?_set, filled_length]
  unfold filled
  rw [List.getElem?_map, List.getElem?_map]
  by_cases hj : j < n
  · rw [List.getElem?_range hj]
    by_cases e : k = j
    · subst e; simp [h]
    · rw [if_neg e]
      by_cases h2 : j < k
      · simp [h2, show j < k + 1 by omega]
      · simp [h2, show ¬ j < k + 1 by omega]
  · rw [List.getElem?_eq_none (by simp; omega)]
    simp; omega
theorem ins_range (n : Nat) : Ins (List.range n) n := fun _ hx => List.mem_range.1 hx
def GfP (w : World) (n : Nat) (ls : List Int) (e : Ending) (w' : World) : Prop :=
  ∃ (g : Nat) (ys : List Nat), e = .returned (.slice (some ⟨g, 0, none⟩) n n) ∧ w.heap.size ≤ g ∧ ys.Perm (List.range n) ∧ (n < 20 → ys = insO ls 0 (n - 1) 1 (List.range n)) ∧ Blk w' g 3 (ncells ys) ∧ Below w.heap.size w w'
set_option maxRecDepth 100000 in
set_option maxHeartbeats 2000000 in
theorem greatest_any (A : Option Addr) (n c : Nat) (ls : List Int) (w : World) (hr : Hid (RdI w A n ls)) (h1 : 1 ≤ n) (hn : n ≤ 256) :
    Calls Try.prog 31 #[.slice A n c] w (GfP w n ls) := by
  have hmk : ∀ u : World, (Instr.makeSlice 22 (.int .i64 (n : Int)) (.int .i64 (n : Int))).run Try.prog u = .ok (.slice (some ⟨u.heap.size, 0, none⟩) n n) (u.alloc (.cells (madeCells #[.int .i64 0] n) 3)) := fun u => 
    run_make_row' (P := Try.prog) 22 3 (.int .i64 0) 8 Try.underlying22 info_int rfl .i64 .i64 n (by omega) (by omega) u
  have HL := Lib.hid hr.out.1
  have HAB := Lib.hid (show ∀ ad, A = some ad → 0 < n → ad.block ≠ w.heap.size + 1 from fun ad e _ => by
    obtain ⟨ad', e', hb, _⟩ := hr.out.at_ (k := 0) (by omega)
    rw [e] at e'
    injection e' with e'
    subst e'
    omega)
  go_enter Try.func31, Try.ntmps31
  go_wp2
  clear hmk
  go_loopw [4, 10] (fun _ vk wr => ∃ k : Nat, vk = .int .i64 (k : Int) ∧ k ≤ n ∧ Hid (Blk wr (w.heap.size + 1) 3 (ncells (filled n k)) ∧ Blk wr w.heap.size 22 #[.slice A n c] ∧ Below w.heap.size w wr)) (fun _ vk _ => n - (intOf vk).toNat)
  case atStart =>
    refine ⟨0, rfl, by omega, Lib.hid ⟨?_, (Blk.new w _ _).alloc _, ((Below.refl _ w).alloc (Nat.le_refl _) _).alloc (by simp) _⟩⟩
    rw [filled_none, ← icells_zero]
    exact Blk.newAt (by simp)
  case round =>
    obtain ⟨k, rfl, hk, HZ⟩ := hrel
    by_cases hlt : k < n
    · have hlt' : (k : Int) < (n : Int) := by omega
      have cg := ncells_at HZ.out.1 (i := k) (by rw [filled_length]; exact hlt)
      have fg := Blk.frozen HZ.out.1 k
      generalize (filled n k).getD k 0 = y at cg
      have HS := Lib.hid (filled_set n k hlt)
      go_wp2
      go_roundw
      case rel =>
        refine ⟨k + 1, by go_num, by omega, Lib.hid ⟨?_, Blk.far HZ.out.2.1 (by simp) _, HZ.out.2.2.setCell (by simp) _⟩⟩
        rw [← HS.out]
        exact ncells_put HZ.out.1 k k
      case measure => simp [intOf]; omega
    · have hlt' : ¬ (k : Int) < (n : Int) := by omega
      obtain rfl : k = n := by omega
      have ck := blk0 HZ.out.2.1
      have HC := Lib.hid (show CmpOk wr (w.heap.size + 1) w.heap.size ls from ⟨by omega, A, k, c, ck, hr.out.below HZ.out.2.2, HAB.out⟩)
      have HS := Lib.hid (show St wr wr (w.heap.size + 1) (List.range k) from ⟨World.grownBy.refl _ _, by rw [← filled_all]; exact HZ.out.1⟩)
      have HI := Lib.hid (show Ins (List.range k) ls.length by rw [HL.out]; exact ins_range k)
      have HR := Lib.hid (show (List.range k).length = k from List.length_range)
      have hcon : Calls Try.prog 37 #[.slice (some ⟨w.heap.size + 1, 0, none⟩) k k, cmpV w.heap.size] wr (fun e w' => e = .returned (.tuple #[]) ∧ Hid (∃ ys : List Nat, ys.Perm (List.range k) ∧ (k < 20 → ys = insO ls 0 (k - 1) 1 (List.range k)) ∧ St wr w' (w.heap.size + 1) ys)) := by
        rcases Nat.lt_or_ge k 20 with h20 | h20
        · refine (sortStable_small _ _ k k ls _ wr HC HS HR HI h20).mono ?_
          rintro e w' ⟨rfl, hs⟩
          exact ⟨rfl, Lib.hid ⟨_, insO_perm ls 0 _ _ _ (by rw [HR.out]; omega), fun _ => rfl, hs⟩⟩
        · refine (sortStable_any _ _ k k ls _ wr wr HC HI HR (Lib.hid ⟨_, List.Perm.refl _, HS.out⟩) (by omega)).mono ?_
          rintro e w' ⟨rfl, ys, hp, hs⟩
          exact ⟨rfl, Lib.hid ⟨ys, hp, fun h => by omega, hs⟩⟩
      clear ck
      unfold cmpV at hcon
      go_wp2_with fail
      refine hcon.mono ?_
      rintro e w3 ⟨rfl, H3⟩
      clear hcon
      go_wp2
      go_ret
      obtain ⟨ys, hp, h20, hst⟩ := H3.out
      exact ⟨w.heap.size + 1, ys, rfl, by omega, hp, h20, hst.2, HZ.out.2.2.grown hst.1 HZ.out.2.2.size (fun j hj => by injection hj with hj; omega)⟩
end Go.Proofs.Ytlmkcipcclomdaa.Fq
