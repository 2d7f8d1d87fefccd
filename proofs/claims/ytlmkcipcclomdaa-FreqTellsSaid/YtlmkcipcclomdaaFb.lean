/-
  What pile and New answer.
-/
import Derived.Test.YtlmkcipcclomdaaFa
import Derived.Deep.OwnRows
import Derived.Laws.CopyOwn
namespace Go.Proofs.Ytlmkcipcclomdaa.Fq
open Go.RowKit

theorem info_int : (Try.prog.info? 3).map (fun i => (i.zero, i.size, i.bytes)) = some (some (.int .i64 0), 1, 8) := by kernel_rfl
/-- the counts laid on top of each other as far as place k; zeros behind -/
def piled (zs : List Int) (k : Nat) : List Int := (List.range (zs.length + 1)).map fun j => if j ≤ k then tot (zs.take j) else 0
theorem piled_length (zs : List Int) (k : Nat) : (piled zs k).length = zs.length + 1 := by simp [piled]
theorem piled_getD (zs : List Int) (k j : Nat) (hj : j ≤ zs.length) : (piled zs k).getD j 0 = if j ≤ k then tot (zs.take j) else 0 := by
  simp [piled, List.getD_eq_getElem?_getD, List.getElem?_range (show j < zs.length + 1 by omega)]
theorem piled_all (zs : List Int) : piled zs zs.length = acc zs := by
  unfold piled acc
  refine List.map_congr_left fun j hj => ?_
  rw [if_pos (by have := List.mem_range.1 hj; omega)]
theorem piled_none (zs : List Int) : piled zs 0 = List.replicate (zs.length + 1) 0 := by
  unfold piled
  rw [show List.replicate (zs.length + 1) (0 : Int) = (List.range (zs.length + 1)).map fun _ => 0 by simp [List.map_const']]
  refine List.map_congr_left fun j _ => ?_
  split
  · have : j = 0 := by omega
    subst this; rfl
  · rfl
theorem piled_set (zs : List Int) (k : Nat) (hk : k < zs.length) : (piled zs k).set (k + 1) (tot (zs.take (k + 1))) = piled zs (k + 1) := by
  refine List.ext_getElem? fun j => ?_
  rw [List.getElem?_set]
  by_cases hj : j < zs.length + 1
  · have e1 := get_of_lt (zs := piled zs k) (k := j) (by rw [piled_length]; exact hj)
    have e2 := get_of_lt (zs := piled zs (k + 1)) (k := j) (by rw [piled_length]; exact hj)
    rw [e1, e2, piled_getD _ _ _ (by omega), piled_getD _ _ _ (by omega), piled_length]
    by_cases h : k + 1 = j
    · subst h
      simp [hk]
    · rw [if_neg h]
      by_cases h2 : j ≤ k
      · rw [if_pos h2, if_pos (by omega)]
      · rw [if_neg h2, if_neg (by omega)]
  · rw [List.getElem?_eq_none (by rw [piled_length]; omega), List.getElem?_eq_none (by rw [piled_length]; omega), piled_length]
    simp; omega
/-- a table that a call made -/
def freqV (g m : Nat) : Value := .agg #[.slice (some ⟨g, 0, none⟩) m m]
def PileP (w : World) (cs : List Int) (e : Ending) (w' : World) : Prop :=
  ∃ g, e = .returned (freqV g cs.length) ∧ w.heap.size ≤ g ∧ Blk w' g 3 (icells cs) ∧ Below w.heap.size w w'
theorem addr_own (g k : Nat) : (⟨g, 0, none⟩ : Addr).add k = ⟨g, k, none⟩ := add_own g k
set_option maxHeartbeats 1000000 in
theorem pile_any (A : Option Addr) (n c : Nat) (zs : List Int) (w : World) (hr : Hid (RdI w A n zs)) (hn : n ≤ 1000) (hz : Hid (∀ x ∈ zs, 0 ≤ x ∧ x ≤ 2251799813685248)) :
    Calls Try.prog 29 #[.slice A n c] w (PileP w (acc zs)) := by
  have hmk : ∀ u : World, (Instr.makeSlice 22 (.int .i64 ((n : Int) + 1)) (.int .i64 ((n : Int) + 1))).run Try.prog u = .ok (.slice (some ⟨u.heap.size, 0, none⟩) (n + 1) (n + 1)) (u.alloc (.cells (madeCells #[.int .i64 0] (n + 1)) 3)) := fun u => by
    have := run_make_row' (P := Try.prog) 22 3 (.int .i64 0) 8 Try.underlying22 info_int rfl .i64 .i64 (n + 1) (by omega) (by omega) u
    rw [show ((n + 1 : Nat) : Int) = (n : Int) + 1 by omega] at this
    exact this
  have HL := Lib.hid hr.out.1
  go_enter Try.func29, Try.ntmps29
  go_wp2
  clear hmk
  go_loopw [4, 5, 12] (fun _ _ i wr => ∃ k : Nat, k ≤ n ∧ i = .int .i64 (k : Int) ∧ Blk wr (w.heap.size + 1) 3 (icells (piled zs k)) ∧ Blk wr w.heap.size 24 #[.slice none 0 0] ∧ Below w.heap.size w wr) (fun _ _ i _ => n - (intOf i).toNat)
  case atStart =>
    refine ⟨0, by omega, rfl, ?_, (Blk.new w _ _).alloc _, ((Below.refl _ w).alloc (Nat.le_refl _) _).alloc (by simp) _⟩
    rw [piled_none, HL.out, ← icells_zero]
    exact Blk.newAt (by simp)
  case round =>
    obtain ⟨k, hk, rfl, hB, hR, hW⟩ := hrel
    have hb := take_bd hz.out (by rw [HL.out]; exact Nat.le_refl n) (by omega) k
    have b1 := hb.1
    have b2 : tot (zs.take k) ≤ 2251799813685248000 := by have := hb.2; omega
    clear hb
    by_cases hlt : k < n
    · obtain ⟨ad, rfl, _, hcell⟩ := (hr.out.below hW).at_ hlt
      have HT := Lib.hid (tot_snoc zs k (by rw [HL.out]; exact hlt))
      have hx := hz.out _ (mem_getD (l := zs) (k := k) (by rw [HL.out]; exact hlt))
      have c0 := blk_at hB (i := k) (by rw [piled_length, HL.out]; omega)
      rw [piled_getD _ _ _ (by rw [HL.out]; omega), if_pos (Nat.le_refl k)] at c0
      have c1 := blk_at hB (i := k + 1) (by rw [piled_length, HL.out]; omega)
      have f1 := Blk.frozen hB (k + 1)
      have HS := Lib.hid (piled_set zs k (by rw [HL.out]; exact hlt))
      have HB := Lib.hid hB
      have HR := Lib.hid hR
      have HW := Lib.hid hW
      clear hB hR hW
      generalize zs.getD k 0 = x at hcell HT hx
      generalize tot (zs.take k) = t at HT b1 b2 c0
      generalize (piled zs k).getD (k + 1) 0 = y at c1
      obtain ⟨x1, x2⟩ := hx
      go_wp2
      go_roundw
      case rel =>
        refine ⟨k + 1, by omega, by go_num, ?_, Blk.far HR.out (by simp) _, HW.out.setCell (by simp) _⟩
        rw [← HS.out, HT.out]
        exact blk_put HB.out (k + 1) (t + x)
      case measure => simp [intOf]; omega
    · obtain rfl : k = n := by omega
      have c0 := hR.cell 0
      have f0 := hR.frozen 0
      have HB := Lib.hid hB
      have HR := Lib.hid hR
      have HW := Lib.hid hW
      clear hB hR hW b1 b2
      simp at c0
      have HP := Lib.hid (piled_all zs)
      go_wp2
      refine bodyPost_ret (v := freqV (w.heap.size + 1) (k + 1)) (by simp [results, Try.results29, go_sem, c0, freqV]) rfl ⟨w.heap.size + 1, by rw [acc_length, HL.out], by omega, ?_, HW.out.setCell (by simp) _⟩
      rw [← HP.out, HL.out]
      exact Blk.far HB.out (by simp) _
end Go.Proofs.Ytlmkcipcclomdaa.Fq
