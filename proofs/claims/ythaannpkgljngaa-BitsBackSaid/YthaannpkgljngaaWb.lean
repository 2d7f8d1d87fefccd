/-
  What number lays into new memory, and how many bits a number has.
-/
import Derived.Test.YthaannpkgljngaaWa
import Derived.Test.YthaannpkgljngaaLen
import Derived.Deep.OwnRows
namespace Go.Proofs.Ythaannpkgljngaa
open Go.RowKit

theorem info_u8 : (Try.prog.info? 5).map (fun i => (i.zero, i.size, i.bytes)) = some (some (.int .u8 0), 1, 1) := by kernel_rfl

theorem bytesFor_nat (n m : Nat) (w : World) (h : m = (n + 7) / 8) (h1 : n ≤ 65536) :
    Calls Try.prog 33 #[.int .i64 (n : Int)] w fun e w' => e = .returned (.int .i64 (m : Int)) ∧ w = w' := by
  refine (bytesFor_any (n : Int) w (by omega) (by omega)).mono ?_
  rintro e w' ⟨rfl, rfl⟩
  exact ⟨by rw [h]; simp, rfl⟩
theorem madeZero (m : Nat) : madeCells #[Value.int .u8 0] m = bcells (packF m (bitF [])) := by rw [← bcells_zero]; rfl

theorem number_set (L : List Bool) (m k : Nat) : (packF m (bitF (L.take (8 * k)))).set k (byteF (bitF L) k) = packF m (bitF (L.take (8 * (k + 1)))) := by
  refine List.ext_getElem (by simp [packF_length]) fun j h1 h2 => ?_
  rw [List.getElem_set]
  split
  · rename_i e
    subst e
    simp only [packF, List.getElem_map, List.getElem_range]
    refine byteF_eq fun i hi1 hi2 => ?_
    rw [bitF_take, if_pos (by omega)]
  · rename_i e
    simp only [packF, List.getElem_map, List.getElem_range]
    refine byteF_eq fun i hi1 hi2 => ?_
    rw [bitF_take, bitF_take]
    by_cases h : i < 8 * k
    · rw [if_pos h, if_pos (by omega)]
    · rw [if_neg h, if_neg (by omega)]

set_option maxHeartbeats 400000 in
theorem number_core (v : Int) (H width m : Nat) (L : List Bool) (w : World) (hw : width ≤ 64) (_h0 : 0 ≤ v) (hm : Hid (m = (width + 7) / 8)) (hm8 : m ≤ 8)
    (hH : IntKind.u64.wrap (v * 2 ^ (64 - width)) = (H : Int)) (hL : Hid (∀ j, j < m → H / 2 ^ (56 - 8 * j) % 256 = byteF (bitF L) j)) :
    Calls Try.prog 30 #[.int .u64 v, .int .i64 (width : Int)] w fun e w' => ∃ g, e = .returned (.agg #[.slice (some ⟨g, 0, none⟩) m m, .int .i64 (width : Int)]) ∧ Blk w' g 5 (bcells (packF m (bitF (L.take (8 * m))))) ∧ Below w.heap.size w w' := by
  have hmk := run_make_row' (P := Try.prog) 22 5 (.int .u8 0) 1 Try.underlying22 info_u8 rfl .i64 .i64 m (by omega) (by omega)
  have hw' : (width : Int) ≤ 64 := by omega
  go_enter Try.func30, Try.ntmps30
  go_wp2_with (go_at_call 33; refine (bytesFor_nat _ m _ hm.out (by omega)).mono ?_; rintro e w' ⟨rfl, rfl⟩)
  have HH := Lib.hid hH
  clear hH hmk
  go_loopw [17] (fun i wr => ∃ k : Nat, k ≤ m ∧ i = .int .i64 k ∧ Blk wr (w.heap.size + 1) 5 (bcells (packF m (bitF (L.take (8 * k))))) ∧ Blk wr w.heap.size 24 #[.slice none 0 0, .int .i64 0] ∧ Below w.heap.size w wr)
    (fun i _ => m - (intOf i).toNat)
  case atStart =>
    refine ⟨0, Nat.zero_le _, rfl, ?_, ?_, ?_⟩
    · rw [madeZero, Nat.mul_zero, List.take_zero]
      exact Blk.newAt (by simp)
    · exact (Blk.new _ _ _).alloc _
    · exact ((Below.refl _ _).alloc (Nat.le_refl _) _).alloc (by simp) _
  case round =>
    obtain ⟨k, hk, rfl, hb, hr, hbl⟩ := hrel
    by_cases hlt : k < m
    · have hcell := (hb.cell k).trans (bcells_get (by rw [packF_length]; exact hlt))
      have hfr := hb.frozen k
      have HB := Lib.hid hb
      have HR := Lib.hid hr
      have HBL := Lib.hid hbl
      clear hb hr hbl
      go_wp2
      go_roundw
      case rel =>
        have hx : ((H : Int) / 2 ^ (56 - 8 * k) % 256) = ((byteF (bitF L) k : Nat) : Int) := by rw [← hL.out k hlt]; simp
        refine ⟨k + 1, by omega, by go_num, ?_, HR.out.far (by simp) _, HBL.out.setCell (by simp) _⟩
        have := HB.out.set_ k (.int .u8 ((H : Int) / 2 ^ (56 - 8 * k) % 256))
        rw [hx, bcells_set, number_set] at this
        rw [hx]
        exact this
      case measure => simp [intOf]; omega
    · obtain rfl : k = m := by omega
      have c0 : wr.cell? ⟨w.heap.size, 0, none⟩ = some (.slice none 0 0) := hr.cell 0
      have c1 : wr.cell? ⟨w.heap.size, 1, none⟩ = some (.int .i64 0) := hr.cell 1
      have f0 := hr.frozen 0
      have f1 := hr.frozen 1
      have HB := Lib.hid hb
      have HR := Lib.hid hr
      have HBL := Lib.hid hbl
      clear hb hr hbl
      go_wp2
      refine bodyPost_ret (v := .agg #[.slice (some ⟨w.heap.size + 1, 0, none⟩) k k, .int .i64 (width : Int)]) (by simp [results, Try.results30, go_sem, c0, c1]) rfl ⟨w.heap.size + 1, rfl, ?_, ?_⟩
      · exact (HB.out.far (by simp) _).far (by simp) _
      · exact (HBL.out.setCell (by simp) _).setCell (by simp) _
/-- number answers a number's bits alone -/
theorem number_any (v width : Nat) (w : World) (hw : width ≤ 64) (hv : v < 2 ^ width) :
    Calls Try.prog 30 #[.int .u64 (v : Int), .int .i64 (width : Int)] w fun e w' => ∃ x, e = .returned x ∧ IsB w' x (bitsOf width v) ∧ Below w.heap.size w w' := by
  have hlen := bitsOf_length width v
  have hlt : v * 2 ^ (64 - width) < 2 ^ 64 := by
    have h : v * 2 ^ (64 - width) < 2 ^ width * 2 ^ (64 - width) := Nat.mul_lt_mul_of_pos_right hv (Nat.pow_pos (by omega))
    rwa [← Nat.pow_add, show width + (64 - width) = 64 by omega] at h
  have hH : IntKind.u64.wrap ((v : Int) * 2 ^ (64 - width)) = ((v * 2 ^ (64 - width) : Nat) : Int) := by
    have e : (v : Int) * 2 ^ (64 - width) = ((v * 2 ^ (64 - width) : Nat) : Int) := by simp
    rw [e]
    generalize v * 2 ^ (64 - width) = x at hlt
    rw [IntKind.wrap_u64]
    omega
  refine (number_core v _ width ((width + 7) / 8) (bitsOf width v) w hw (by omega) (Lib.hid rfl) (by omega) hH (Lib.hid fun j hj => byte_of_number width v j hw (by omega))).mono ?_
  rintro e w' ⟨g, rfl, hb, hbl⟩
  have et : (bitsOf width v).take (8 * ((width + 7) / 8)) = bitsOf width v := List.take_of_length_le (by omega)
  have hp : packF ((width + 7) / 8) (bitF (bitsOf width v)) = pack (bitsOf width v) := by unfold pack; rw [hlen]
  rw [et, hp] at hb
  have hpl := pack_length (bitsOf width v)
  rw [hlen] at hpl
  refine ⟨_, rfl, ⟨some ⟨g, 0, none⟩, (width + 7) / 8, by rw [hpl, hlen], Rd.of_blk hb (pack_lt _), by omega⟩, hbl⟩

end Go.Proofs.Ythaannpkgljngaa
