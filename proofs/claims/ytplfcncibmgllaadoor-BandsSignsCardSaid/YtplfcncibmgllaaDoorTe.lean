/-
  Own texts, laid together: Te.
-/
import Derived.Test.YtplfcncibmgllaaDoorTd
import Derived.Deep.OwnRows
import Derived.Laws.CopyOwn
/- Te -/
namespace Go.Proofs.YtplfcncibmgllaaDoor.Tb
open Go.RowKit Go.Proofs.YtplfcncibmgllaaDoor.Fx Go.Proofs.YtplfcncibmgllaaDoor.Fq
/-- the kernel's place -/
def phI (n k : Int) : Int := (2 * n + 17) * (2 * k + 1)
theorem ph_in {n k : Int} (h1 : 0 ≤ n) (h2 : n ≤ 31) (h3 : 0 ≤ k) (h4 : k ≤ 15) : 0 ≤ phI n k ∧ phI n k ≤ 2449 := by
  unfold phI
  refine ⟨Int.mul_nonneg (by omega) (by omega), ?_⟩
  have := Int.mul_le_mul (show 2 * n + 17 ≤ 79 by omega) (show 2 * k + 1 ≤ 31 by omega) (by omega) (by omega)
  omega
def winT (n : Int) : Value := if 0 ≤ n ∧ n ≤ 31 then .tuple #[.int .i64 (sinP (pl (2 * n + 1))), .int .i64 0] else .tuple #[.int .i64 0, .int .i64 1]
def kerI (n k : Int) : Int := cosP (pl (phI n k))
def kerT (n k : Int) : Value := if 0 ≤ n ∧ n ≤ 31 ∧ 0 ≤ k ∧ k ≤ 15 then .tuple #[.int .i64 (kerI n k), .int .i64 0] else .tuple #[.int .i64 0, .int .i64 1]
/-- a row, as far as it is made -/
def rowK (k : Int) (j : Nat) : List Int := (List.range 32).map fun n => if n < j then kerI ((n : Nat) : Int) k else 0
def rowI (k : Int) : List Int := (List.range 32).map fun n => kerI ((n : Nat) : Int) k
theorem rowK_length (k : Int) (j : Nat) : (rowK k j).length = 32 := by simp [rowK]
theorem rowI_length (k : Int) : (rowI k).length = 32 := by simp [rowI]
theorem rowK_all (k : Int) : rowK k 32 = rowI k := by
  unfold rowK rowI
  refine List.map_congr_left fun n hn => ?_
  rw [if_pos (List.mem_range.1 hn)]
theorem rowK_none (k : Int) : rowK k 0 = List.replicate 32 0 := by unfold rowK; rfl
theorem rowK_set (k : Int) (j : Nat) (hj : j < 32) : (rowK k j).set j (kerI (j : Int) k) = rowK k (j + 1) := by
  refine List.ext_getElem? fun i => ?_
  rw [List.getElem?_set, rowK_length]
  by_cases hi : i < 32
  · simp only [rowK, List.getElem?_map, List.getElem?_range hi, Option.map_some]
    by_cases h : j = i
    · subst h
      rw [if_pos rfl, if_pos hj, if_pos (by omega)]
    · rw [if_neg h]
      by_cases h2 : i < j
      · rw [if_pos h2, if_pos (by omega)]
      · rw [if_neg h2, if_neg (by omega)]
  · rw [List.getElem?_eq_none (by rw [rowK_length]; omega), List.getElem?_eq_none (by rw [rowK_length]; omega), if_neg (by omega)]
theorem info_intT : (Tryd.prog.info? 3).map (fun i => (i.zero, i.size, i.bytes)) = some (some (.int .i64 0), 1, 8) := by kernel_rfl
def RowQ (w : World) (xs : List Int) (e : Ending) (w' : World) : Prop := ∃ r, e = .returned (.tuple #[.slice (some ⟨r, 0, none⟩) 32 32, .int .i64 0]) ∧ Blk w' r 3 (icells xs) ∧ Below w.heap.size w w'
end Go.Proofs.YtplfcncibmgllaaDoor.Tb
