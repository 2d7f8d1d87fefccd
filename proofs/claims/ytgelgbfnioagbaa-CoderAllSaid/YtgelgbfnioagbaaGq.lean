/-
  Own texts, laid together: Gq.
-/
import Derived.Test.YtgelgbfnioagbaaGp
import Derived.Test.YtgelgbfnioagbaaFb
/- Gq -/
namespace Go.Proofs.Ytgelgbfnioagbaa.Cd
open Go.RowKit
/-- the reader behind some symbols -/
def stD (l : List Bool) (d : De) (fs : List (List Int)) : De := fs.foldl (nxE l) d
theorem stD_snoc (l : List Bool) (d : De) (fs : List (List Int)) (xs : List Int) : stD l d (fs ++ [xs]) = nxE l (stD l d fs) xs := by simp [stD]
/-- the first error -/
def backErr (l : List Bool) (d : De) : List (List Int) → Int
  | [] => 0
  | xs :: r => if Fq.okF xs = true then (if l.length + 32 < d.at_ then 20 else backErr l (nxE l d xs) r) else 1
theorem backErr_no {l : List Bool} {d : De} {xs : List Int} {r : List (List Int)} (h : Fq.okF xs = false) : backErr l d (xs :: r) = 1 := by unfold backErr; rw [h]; rfl
theorem backErr_short {l : List Bool} {d : De} {xs : List Int} {r : List (List Int)} (h : Fq.okF xs = true) (h2 : l.length + 32 < d.at_) : backErr l d (xs :: r) = 20 := by unfold backErr; rw [if_pos h, if_pos h2]
theorem backErr_ok {l : List Bool} {d : De} {xs : List Int} {r : List (List Int)} (h : Fq.okF xs = true) (h2 : d.at_ ≤ l.length + 32) : backErr l d (xs :: r) = backErr l (nxE l d xs) r := by rw [backErr, if_pos h, if_neg (by omega)]
/-- the symbols -/
def symL (l : List Bool) (d : De) (fs : List (List Int)) : List Int := (List.range fs.length).map fun k => (nxK (stD l d (fs.take k)) (fs.getD k []) : Int)
theorem symL_length (l : List Bool) (d : De) (fs : List (List Int)) : (symL l d fs).length = fs.length := by simp [symL]
theorem symL_take (l : List Bool) (d : De) (fs : List (List Int)) (k : Nat) (xs : List Int) (h : fs[k]? = some xs) : (symL l d fs).take (k + 1) = (symL l d fs).take k ++ [(nxK (stD l d (fs.take k)) xs : Int)] := by
  obtain ⟨hk, e⟩ := List.getElem?_eq_some_iff.1 h
  have hl : k < (symL l d fs).length := by rw [symL_length]; exact hk
  rw [List.take_succ_eq_append_getElem hl]
  congr 2
  simp [symL, List.getD_eq_getElem?_getD, hk, e]
/-- what Back answers -/
def BackOk (w : World) (n : Nat) (zs : List Int) (e : Ending) (w' : World) : Prop :=
  ∃ g, e = .returned (.tuple #[.slice (some ⟨g, 0, none⟩) n n, .int .i64 0]) ∧ w.heap.size ≤ g ∧ Blk w' g 3 (Fq.icells zs) ∧ Below w.heap.size w w'
def BackNo (w : World) (E : Int) (e : Ending) (w' : World) : Prop := e = .returned (.tuple #[.slice none 0 0, .int .i64 E]) ∧ Below w.heap.size w w'
def BackOut (w : World) (n : Nat) (l : List Bool) (fs : List (List Int)) (e : Ending) (w' : World) : Prop :=
  (backErr l (d0 l) fs = 0 ∧ BackOk w n (symL l (d0 l) fs) e w') ∨ (backErr l (d0 l) fs ≠ 0 ∧ BackNo w (backErr l (d0 l) fs) e w')
def tbs (ts : List Tb) : List (List Int) := ts.map (·.xs)
theorem back_no (A : Option Addr) (n c : Nat) (N : Int) (bs : List Nat) (L : Option Addr) (m d : Nat) (w : World) (hr : Hid (Rd w A n bs)) (hok : Hid (okB bs N = false)) :
    Calls Try.prog 28 #[.agg #[.slice A n c, .int .i64 N], .slice L m d] w (BackNo w 1) := by
  have HW := Lib.hid ((Below.refl w.heap.size w).alloc (Nat.le_refl _) (.cells #[.slice A n c, .int .i64 N] 25))
  go_enter Try.func28, Try.ntmps28
  go_wp2_with fail
  generalize w.alloc (.cells #[.slice A n c, .int .i64 N] 25) = w0 at HW ⊢
  refine (open_no A n c N bs w0 (Lib.hid (hr.out.below HW.out)) hok).mono ?_
  rintro e w1 ⟨rfl, hb1⟩
  have HW1 := Lib.hid (HW.out.trans (hb1.mono HW.out.size))
  clear hb1
  go_wp2
  go_ret2
  exact ⟨rfl, HW1.out⟩
/-- what the loop of Back knows -/
structure BkR (w : World) (l : List Bool) (p g n8 c N m k : Nat) (A : Option Addr) (fs : List (List Int)) (wr : World) : Prop where
  rd : RdS wr p (stD l (d0 l) (fs.take k)) A n8 c (N : Int)
  fine : FineD (stD l (d0 l) (fs.take k))
  far : (stD l (d0 l) (fs.take k)).at_ ≤ N + 72
  err : backErr l (d0 l) fs = backErr l (stD l (d0 l) (fs.take k)) (fs.drop k)
  zs : ∃ zs, zs.length = m ∧ zs.take k = (symL l (d0 l) fs).take k ∧ Blk wr g 3 (Fq.icells zs)
  hp : w.heap.size ≤ p
  hg : w.heap.size ≤ g
  ne : g ≠ p
  blw : Below w.heap.size w wr
end Go.Proofs.Ytgelgbfnioagbaa.Cd
