/-
  What Of answers; a list of bytes' lists, read.
-/
import Derived.Test.YthaannpkgljngaaSplit
import Derived.Laws.CopyOwn
import Derived.Maps.AppendAt
import Derived.OneCell
namespace Go.Proofs.Ythaannpkgljngaa
open Go.RowKit

/-- whole bytes as bits of their own -/
def OfPost (w : World) (n : Nat) (bs : List Nat) (e : Ending) (w' : World) : Prop :=
  ∃ g, e = .returned (.agg #[.slice (some ⟨g, 0, none⟩) n n, .int .i64 (8 * (n : Int))]) ∧ w.heap.size ≤ g ∧ Blk w' g 5 (bcells bs) ∧ Below w.heap.size w w'
theorem splice_all (bs cur : List Nat) (h : cur.length = bs.length) : (bcells cur).toList.take 0 ++ (bs.map byteV ++ (bcells cur).toList.drop (0 + (bs.map byteV).length)) = bs.map byteV := by
  have : (bcells cur).toList.drop (0 + (bs.map byteV).length) = [] := List.drop_eq_nil_of_le (by simp [bcells, h])
  rw [this]
  simp
set_option maxHeartbeats 1000000 in
theorem of_core (ad : Addr) (n c : Nat) (bs : List Nat) (w : World) (hr : Hid (Rd w (some ad) n bs)) (hn0 : 0 < n) (hn : n ≤ 8192) :
    Calls Try.prog 27 #[.slice (some ad) n c] w (OfPost w n bs) := by
  have hmk := run_make_row' (P := Try.prog) 22 5 (.int .u8 0) 1 Try.underlying22 info_u8 rfl .i64 .i64 n (by omega) (by omega)
  have hrd := (hr.out.alloc (.cells #[.slice none 0 0, .int .i64 0] 24)).alloc (.cells (madeCells #[Value.int .u8 0] n) 5)
  have hblk : Blk ((w.alloc (.cells #[.slice none 0 0, .int .i64 0] 24)).alloc (.cells (madeCells #[Value.int .u8 0] n) 5)) (w.heap.size + 1) 5 (bcells (packF n (bitF []))) := by
    rw [← madeZero]
    exact Blk.newAt (by simp)
  have hbl := hr.out.1
  have hcp := run_copy_row (P := Try.prog) _ 22 22 3 5 (w.heap.size + 1) 0 n n ad n c (bcells (packF n (bitF []))) 5 (bs.map byteV) Try.underlying22 size_u8 hblk (by rw [List.length_map, hbl]; exact (Nat.min_self n).symm) (by
    intro j v hv
    rw [List.getElem?_map] at hv
    obtain ⟨x, hx, rfl⟩ := Option.map_eq_some_iff.1 hv
    obtain ⟨ad', e, hc⟩ := hrd.2.2 hn0
    injection e with e
    subst e
    exact hc j x hx) (by rw [List.length_map, bcells_size, packF_length]; omega) (by
    intro v hv
    obtain ⟨x, _, rfl⟩ := List.mem_map.1 hv
    rfl)
  have esp : (bcells (packF n (bitF []))).toList.take 0 ++ bs.map byteV ++ (bcells (packF n (bitF []))).toList.drop (0 + (bs.map byteV).length) = bs.map byteV := by
    rw [List.append_assoc]
    exact splice_all bs _ (by rw [packF_length, hbl])
  rw [esp] at hcp
  have B0 : Blk ((w.alloc (.cells #[.slice none 0 0, .int .i64 0] 24)).alloc (.cells (madeCells #[Value.int .u8 0] n) 5)) w.heap.size 24 #[.slice none 0 0, .int .i64 0] := (Blk.new _ _ _).alloc _
  obtain ⟨w2, hw2⟩ : ∃ w2, w2 = ((w.alloc (.cells #[.slice none 0 0, .int .i64 0] 24)).alloc (.cells (madeCells #[Value.int .u8 0] n) 5)).setRow (w.heap.size + 1) (bs.map byteV).toArray := ⟨_, rfl⟩
  have C0 : Blk w2 w.heap.size 24 #[.slice none 0 0, .int .i64 0] := by rw [hw2]; exact (setRow_other _ _ _ _ (by omega)).trans B0
  have C1 : Blk w2 (w.heap.size + 1) 5 (bcells bs) := by rw [hw2]; exact setRow_heap _ _ _ _ _ _ hblk
  have CB : Below w.heap.size w w2 := by rw [hw2]; exact below_setRow (((Below.refl _ _).alloc (Nat.le_refl _) _).alloc (by simp) _) (by omega) _
  rw [← hw2] at hcp
  have z0 : w2.cell? ⟨w.heap.size, 0, none⟩ = some (.slice none 0 0) := C0.cell 0
  have z1 : w2.cell? ⟨w.heap.size, 1, none⟩ = some (.int .i64 0) := C0.cell 1
  have f0 := C0.frozen 0
  have f1 := C0.frozen 1
  have HC1 := Lib.hid C1
  have HCB := Lib.hid CB
  clear hrd hblk hbl esp B0 hw2 C0 C1 CB
  go_enter Try.func27, Try.ntmps27
  go_wp2
  refine bodyPost_ret (v := .agg #[.slice (some ⟨w.heap.size + 1, 0, none⟩) n n, .int .i64 (8 * (n : Int))]) (by simp [results, Try.results27, go_sem, z0, z1]) rfl ⟨w.heap.size + 1, rfl, by omega, ?_, ?_⟩
  · exact (HC1.out.far (by simp) _).far (by simp) _
  · exact (HCB.out.setCell (by simp) _).setCell (by simp) _
set_option maxHeartbeats 1000000 in
theorem of_zero (A : Option Addr) (c : Nat) (w : World) :
    Calls Try.prog 27 #[.slice A 0 c] w (OfPost w 0 []) := by
  have hmk := run_make_row' (P := Try.prog) 22 5 (.int .u8 0) 1 Try.underlying22 info_u8 rfl .i64 .i64 0 (by omega) (by omega)
  have hmk2 : ∀ W : World, (Instr.makeSlice 22 (.int .i64 0) (.int .i64 0)).run Try.prog W = .ok (.slice (some ⟨W.heap.size, 0, none⟩) 0 0) (W.alloc (.cells (madeCells #[.int .u8 0] 0) 5)) := fun W => hmk W
  have hcp := fun W dp => run_copy_none (P := Try.prog) W 22 22 3 5 dp A 0 0 0 c Try.underlying22 size_u8 rfl
  have em : madeCells #[Value.int .u8 0] 0 = bcells [] := by rw [madeZero]; rfl
  have HEM := Lib.hid em
  clear em
  clear hmk
  go_enter Try.func27, Try.ntmps27
  go_wp2
  refine bodyPost_ret (v := .agg #[.slice (some ⟨w.heap.size + 1, 0, none⟩) 0 0, .int .i64 0]) (by simp [results, Try.results27, go_sem]) rfl ⟨w.heap.size + 1, rfl, by omega, ?_, ?_⟩
  · rw [HEM.out]
    exact Blk.newAt (by simp)
  · exact ((Below.refl _ _).alloc (Nat.le_refl _) _).alloc (by simp) _
theorem of_any (A : Option Addr) (n c : Nat) (bs : List Nat) (w : World) (hr : Rd w A n bs) (hn : n ≤ 8192) :
    Calls Try.prog 27 #[.slice A n c] w (OfPost w n bs) := by
  by_cases h0 : 0 < n
  · obtain ⟨ad, rfl, _⟩ := hr.2.2 h0
    exact of_core ad n c bs w (Lib.hid hr) h0 hn
  · obtain rfl : n = 0 := by omega
    obtain rfl : bs = [] := List.eq_nil_of_length_eq_zero hr.1
    exact of_zero A c w

end Go.Proofs.Ythaannpkgljngaa
