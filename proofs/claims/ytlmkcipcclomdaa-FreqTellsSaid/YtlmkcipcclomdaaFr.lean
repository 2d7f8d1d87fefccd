/-
  What slices.Repeat answers of one one.
-/
import Derived.Test.YtlmkcipcclomdaaFq
namespace Go.Proofs.Ytlmkcipcclomdaa.Fq
open Go.RowKit

theorem size_int : (Try.prog.info? 3).map (·.size) = some 1 := by kernel_rfl
/-- k ones, zeros behind -/
def ones (k n : Nat) : List Int := List.replicate k 1 ++ List.replicate (n - k) 0
theorem ones_length (k n : Nat) (h : k ≤ n) : (ones k n).length = n := by simp [ones]; omega
theorem ones_all (n : Nat) : ones n n = List.replicate n 1 := by simp [ones]
theorem ones_copy (k t n : Nat) (k1 : Nat) (hk1 : k1 = k + t) : ((icells (ones k n)).toList.take k ++ List.replicate t (Value.int .i64 1) ++ (icells (ones k n)).toList.drop (k + (List.replicate t (Value.int .i64 1)).length)).toArray = icells (ones k1 n) := by
  subst hk1
  rw [List.length_replicate]
  have e : (icells (ones k n)).toList = List.replicate k (Value.int .i64 1) ++ List.replicate (n - k) (Value.int .i64 0) := by simp [icells, ones]
  rw [e]
  have e1 : (List.replicate k (Value.int .i64 1) ++ List.replicate (n - k) (Value.int .i64 0)).take k = List.replicate k (Value.int .i64 1) := List.take_left' (by simp)
  have e2 : (List.replicate k (Value.int .i64 1) ++ List.replicate (n - k) (Value.int .i64 0)).drop (k + t) = List.replicate (n - (k + t)) (Value.int .i64 0) := by
    rw [List.drop_append, List.drop_of_length_le (by simp), List.drop_replicate]
    simp; omega
  rw [e1, e2]
  simp only [icells, ones, List.map_append, List.map_replicate]
  rw [List.replicate_append_replicate]
theorem one_rep (t : Nat) : ∀ v ∈ List.replicate t (Value.int .i64 1), v.oneCell' = true := by
  intro v hv
  rw [(List.mem_replicate.1 hv).2]
  rfl
theorem ones_src {w : World} {g : Nat} {t : TypeId} {k n m : Nat} (h : Blk w g t (icells (ones k n))) (hm : m ≤ k) (hk : k ≤ n) : ∀ j v, (List.replicate m (Value.int .i64 1))[j]? = some v → w.cell? ((⟨g, 0, none⟩ : Addr).add j) = some v := by
  intro j v hv
  obtain ⟨hj, rfl⟩ := List.getElem?_eq_some_iff.1 hv
  rw [List.length_replicate] at hj
  rw [add_own, blk_at h (by rw [ones_length _ _ hk]; omega)]
  simp [ones, List.getD_eq_getElem?_getD, List.getElem?_append, show j < k by omega]
def RepP (w : World) (n : Nat) (e : Ending) (w' : World) : Prop :=
  ∃ g, e = .returned (.slice (some ⟨g, 0, none⟩) n n) ∧ w.heap.size ≤ g ∧ Blk w' g 3 (icells (List.replicate n 1)) ∧ Below w.heap.size w w'
set_option maxRecDepth 100000 in
set_option maxHeartbeats 2000000 in
theorem repeat_one (G n c : Nat) (w : World) (hg : Hid (Blk w G 3 (icells [1]))) (h1 : 1 ≤ n) (hn : n ≤ 1000) :
    Calls Try.prog 32 #[.slice (some ⟨G, 0, none⟩) 1 c, .int .i64 (n : Int)] w (RepP w n) := by
  have hmk : ∀ u : World, (Instr.makeSlice 22 (.int .i64 (n : Int)) (.int .i64 (n : Int))).run Try.prog u = .ok (.slice (some ⟨u.heap.size, 0, none⟩) n n) (u.alloc (.cells (madeCells #[.int .i64 0] n) 3)) := fun u => 
    run_make_row' (P := Try.prog) 22 3 (.int .i64 0) 8 Try.underlying22 info_int rfl .i64 .i64 n (by omega) (by omega) u
  have HB0 := Lib.hid (show Blk (w.alloc (.cells (madeCells #[.int .i64 0] n) 3)) w.heap.size 3 (icells (ones 0 n)) by
    rw [icells_zero]
    have : ones 0 n = List.replicate n 0 := by simp [ones]
    rw [this]
    exact Blk.new w _ _)
  have hcp := run_copy_row (P := Try.prog) (w.alloc (.cells (madeCells #[.int .i64 0] n) 3)) 22 22 3 3 w.heap.size 0 n n ⟨G, 0, none⟩ 1 c (icells (ones 0 n)) 3 (List.replicate 1 (Value.int .i64 1)) Try.underlying22 size_int HB0.out
    (by rw [List.length_replicate]; exact (Nat.min_eq_left h1).symm) (by
      intro j v hv
      obtain ⟨hj, rfl⟩ := List.getElem?_eq_some_iff.1 hv
      rw [List.length_replicate] at hj
      have : j = 0 := by omega
      subst this
      rw [add_own]
      exact (hg.out.alloc _).cell 0) (by rw [icells_size, ones_length _ _ (by omega)]; simp; omega) (one_rep 1)
  rw [ones_copy 0 1 n 1 rfl, List.length_replicate] at hcp
  go_enter Try.func32, Try.ntmps32
  go_wp2_with fail
  refine (mul_one n _ (by omega)).mono ?_
  rintro e w' ⟨rfl, rfl⟩
  go_wp2
  clear hcp hmk
  have HW := Lib.hid (show Below w.heap.size w ((w.alloc (.cells (madeCells #[.int .i64 0] n) 3)).setRow w.heap.size (icells (ones 1 n))) from below_setRow ((Below.refl _ w).alloc (Nat.le_refl _) _) (Nat.le_refl _) _)
  have HB := Lib.hid (show Blk ((w.alloc (.cells (madeCells #[.int .i64 0] n) 3)).setRow w.heap.size (icells (ones 1 n))) w.heap.size 3 (icells (ones 1 n)) from setRow_heap _ _ _ _ _ _ HB0.out)
  generalize (w.alloc (.cells (madeCells #[.int .i64 0] n) 3)).setRow w.heap.size (icells (ones 1 n)) = w1 at HW HB ⊢
  clear HB0
  go_loopw [8] (fun vk wr => ∃ k : Nat, vk = .int .i64 (k : Int) ∧ 1 ≤ k ∧ k ≤ n ∧ Hid (Blk wr w.heap.size 3 (icells (ones k n)) ∧ Below w.heap.size w wr)) (fun vk _ => n - (intOf vk).toNat)
  case atStart => exact ⟨1, rfl, by omega, by omega, Lib.hid ⟨HB.out, HW.out⟩⟩
  case round =>
    obtain ⟨k, rfl, hk1, hkn, HZ⟩ := hrel
    clear HB HW
    by_cases hlt : k < n
    · have hlt' : (k : Int) < (n : Int) := by omega
      obtain ⟨t, ht⟩ : ∃ t, t = Nat.min k (n - k) := ⟨_, rfl⟩
      have ht1 : 1 ≤ t := by rw [ht]; exact Nat.le_min.2 ⟨hk1, by omega⟩
      have ht2 : k + t ≤ n := by have : t ≤ n - k := by rw [ht]; exact Nat.min_le_right _ _
                                 omega
      have ht3 : t ≤ k := by rw [ht]; exact Nat.min_le_left _ _
      have hcp := run_copy_row (P := Try.prog) wr.drew 22 22 3 3 w.heap.size k (n - k) (n - k) ⟨w.heap.size, 0, none⟩ k n (icells (ones k n)) 3 (List.replicate t (Value.int .i64 1)) Try.underlying22 size_int HZ.out.1
        (by rw [List.length_replicate]; exact ht) (ones_src (w := wr.drew) HZ.out.1 ht3 hkn) (by rw [icells_size, ones_length _ _ hkn, List.length_replicate]; exact ht2) (one_rep t)
      clear ht
      obtain ⟨k2, hk2⟩ : ∃ k2, k2 = k + t := ⟨_, rfl⟩
      rw [ones_copy k t n k2 hk2, List.length_replicate] at hcp
      have e1 : (k : Int) + (t : Int) = (k2 : Int) := by omega
      have b0 : (0 : Int) ≤ (k : Int) := by omega
      have b1 : (k : Int) ≤ (n : Int) := by omega
      have b2 : ¬ n = k := by omega
      have HK2 := Lib.hid hk2
      clear hk2
      go_wp2_with fail
      go_region
      all_goals
        clear hcp
        go_wp2
        go_roundw
        case rel =>
          refine ⟨k2, rfl, by have := HK2.out; omega, by have := HK2.out; omega, Lib.hid ⟨?_, ?_⟩⟩
          · exact setRow_heap _ _ _ _ _ _ HZ.out.1
          · exact below_setRow (Below.drew HZ.out.2) (Nat.le_refl _) _
        case measure => have := HK2.out; simp [intOf]; omega
    · have hlt' : ¬ (k : Int) < (n : Int) := by omega
      obtain rfl : k = n := by omega
      go_wp2
      go_ret
      exact ⟨w.heap.size, rfl, Nat.le_refl _, by rw [← ones_all]; exact HZ.out.1, HZ.out.2⟩
end Go.Proofs.Ytlmkcipcclomdaa.Fq
