/-
  Places in a row, swapped; what cmp.Compare and the comparison of greatestFirst answer.
-/
import Derived.Test.YtlmkcipcclomdaaFi
import Derived.BigRegion
namespace Go.Proofs.Ytlmkcipcclomdaa.Fq
open Go.RowKit

/-- places as a block's cells -/
def ncells (xs : List Nat) : Array Value := icells (xs.map fun x : Nat => (x : Int))
theorem ncells_at {w : World} {g : Nat} {t : TypeId} {xs : List Nat} (h : Blk w g t (ncells xs)) {i : Nat} (hi : i < xs.length) : w.cell? ⟨g, i, none⟩ = some (.int .i64 ((xs.getD i 0 : Nat) : Int)) := by
  have := blk_at h (i := i) (by simpa using hi)
  rw [this]
  simp [List.getD_eq_getElem?_getD, hi]
theorem ncells_put {w : World} {g : Nat} {t : TypeId} {xs : List Nat} (h : Blk w g t (ncells xs)) (i x : Nat) : Blk (w.setCell ⟨g, i, none⟩ (.int .i64 (x : Int))) g t (ncells (xs.set i x)) := by
  have := blk_put h i (x : Int)
  unfold ncells
  rwa [List.map_set]
/-- two places' numbers exchanged -/
def swapL (xs : List Nat) (i j : Nat) : List Nat := (xs.set i (xs.getD j 0)).set j (xs.getD i 0)
theorem swapL_length (xs : List Nat) (i j : Nat) : (swapL xs i j).length = xs.length := by simp [swapL]
theorem swapL_perm (xs : List Nat) (i j : Nat) (hi : i < xs.length) (hj : j < xs.length) : (swapL xs i j).Perm xs := by
  have e1 : xs.getD i 0 = xs[i] := by simp [List.getD_eq_getElem?_getD, hi]
  have e2 : xs.getD j 0 = xs[j] := by simp [List.getD_eq_getElem?_getD, hj]
  unfold swapL
  rw [e1, e2]
  exact List.set_set_perm hi hj
/-- as cmp.Compare answers -/
def cmpI (a b : Int) : Int := if a < b then -1 else if b < a then 1 else 0
set_option maxHeartbeats 1000000 in
theorem isNaN_any (a : Int) (w : World) : Calls Try.prog 42 #[.int .i64 a] w fun e w' => e = .returned (.bool false) ∧ w = w' := by
  have d : (a != a) = false := by simp
  go_enter Try.func42, Try.ntmps42
  go_wp2
  go_ret
  exact ⟨rfl, rfl⟩
set_option maxHeartbeats 1000000 in
theorem compare_any (a b : Int) (w : World) : Calls Try.prog 39 #[.int .i64 a, .int .i64 b] w fun e w' => e = .returned (.int .i64 (cmpI a b)) ∧ w = w' := by
  have key : ∀ v : Int, cmpI a b = v → (a < b → v = -1) → (¬ a < b → b < a → v = 1) → (¬ a < b → ¬ b < a → v = 0) → Calls Try.prog 39 #[.int .i64 a, .int .i64 b] w fun e w' => e = .returned (.int .i64 v) ∧ w = w' := by
    intro v _ h1 h2 h3
    by_cases c1 : a < b
    · obtain rfl := h1 c1
      clear h1 h2 h3
      go_enter Try.func39, Try.ntmps39
      go_wp2_with (go_at_call 42; refine (isNaN_any _ _).mono ?_; rintro e w' ⟨rfl, rfl⟩)
      go_ret
      exact ⟨rfl, rfl⟩
    · by_cases c2 : b < a
      · obtain rfl := h2 c1 c2
        clear h1 h2 h3
        go_enter Try.func39, Try.ntmps39
        go_wp2_with (go_at_call 42; refine (isNaN_any _ _).mono ?_; rintro e w' ⟨rfl, rfl⟩)
        go_ret
        exact ⟨rfl, rfl⟩
      · obtain rfl := h3 c1 c2
        clear h1 h2 h3
        go_enter Try.func39, Try.ntmps39
        go_wp2_with (go_at_call 42; refine (isNaN_any _ _).mono ?_; rintro e w' ⟨rfl, rfl⟩)
        go_ret
        exact ⟨rfl, rfl⟩
  refine key _ rfl (fun h => by simp [cmpI, h]) (fun h1 h2 => by simp [cmpI, h1, h2]) (fun h1 h2 => by simp [cmpI, h1, h2])
/-- what greatestFirst's comparison needs of memory; the row that is sorted is another block -/
def CmpOk (w : World) (B C : Nat) (ls : List Int) : Prop :=
  C ≠ B ∧ ∃ A m c, w.cell? ⟨C, 0, none⟩ = some (.slice A m c) ∧ RdI w A m ls ∧ ∀ ad, A = some ad → 0 < m → ad.block ≠ B
theorem CmpOk.only {w w' : World} {B C : Nat} {ls : List Int} (h : CmpOk w B C ls) (hg : w.grownBy w' (some B)) : CmpOk w' B C ls := by
  obtain ⟨h1, A, m, c, h2, h3, h4⟩ := h
  refine ⟨h1, A, m, c, ?_, h3.only hg h4, h4⟩
  exact (World.cell?_of_block (hg.block C (World.block_lt_of_cell? _ _ h2) (fun e => h1 (by injection e)))).trans h2
theorem CmpOk.drewN {w : World} {B C : Nat} {ls : List Int} (h : CmpOk w B C ls) (n : Nat) : CmpOk (w.drewN n) B C ls := h
set_option maxHeartbeats 1000000 in
theorem less_any (B C p q : Nat) (ls : List Int) (w : World) (h : CmpOk w B C ls) (hp : p < ls.length) (hq : q < ls.length) :
    Calls Try.prog 38 #[.int .i64 (p : Int), .int .i64 (q : Int), .pointer (some ⟨C, 0, none⟩)] w fun e w' => e = .returned (.int .i64 (cmpI (ls.getD q 0) (ls.getD p 0))) ∧ ∃ n, w' = w.drewN n := by
  obtain ⟨-, A, m, c, h2, h3, -⟩ := h
  have hl := h3.1
  rw [hl] at hp hq
  clear hl
  obtain ⟨ad, rfl, -, -⟩ := h3.at_ hp
  have x0 := h3.cell hp
  have x1 := h3.cell hq
  generalize ls.getD p 0 = a at x0
  generalize ls.getD q 0 = b at x1
  clear h3
  have i1 : (p : Int) < (m : Int) := by omega
  have i2 : (q : Int) < (m : Int) := by omega
  go_enter Try.func38, Try.ntmps38
  go_wp2_with fail
  go_quiet ((go_at_call 39; exact Calls.quiet_of_same ((compare_any _ _ _).mono fun _ _ ⟨h1, h2⟩ => ⟨h1, h2.symm⟩)))
  go_wp2
  go_ret
  exact ⟨rfl, nq, rfl⟩
end Go.Proofs.Ytlmkcipcclomdaa.Fq
