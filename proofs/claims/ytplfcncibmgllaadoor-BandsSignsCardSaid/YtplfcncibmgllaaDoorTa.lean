/-
  Own texts, laid together: Ta.
-/
import Derived.Test.YtplfcncibmgllaaDoorSb
import Derived.StillTailTactics
/- Ta -/
namespace Go.Proofs.YtplfcncibmgllaaDoor.Tb
open Go.RowKit Go.Proofs.YtplfcncibmgllaaDoor.Fx
/-- the i-th part's cosine and sine -/
def partP (i : Nat) : Int × Int :=
  if i = 1 then (-1073741824, 0) else if i = 2 then (0, 1073741824) else if i = 3 then (759250124, 759250124) else if i = 4 then (992008094, 410903207)
  else if i = 5 then (1053110175, 209476638) else if i = 6 then (1068571463, 105245105) else if i = 7 then (1072448454, 52686017) else (0, 0)
def rot (p q : Int × Int) : Int × Int := (roundI (p.1 * q.1 - p.2 * q.2) 30, roundI (p.1 * q.2 + p.2 * q.1) 30)
/-- the point behind j parts -/
def stP (m : Nat) : Nat → Int × Int
  | 0 => (1073741824, 0)
  | j + 1 => if m / 2 ^ (6 - j) % 2 = 1 then rot (stP m j) (partP (j + 1)) else stP m j
def ptP (m : Nat) : Int × Int := stP m 7
/-- no number of a point is great -/
def Low (p : Int × Int) : Prop := -1100000000 ≤ p.1 ∧ p.1 ≤ 1100000000 ∧ -1100000000 ≤ p.2 ∧ p.2 ≤ 1100000000
instance (p : Int × Int) : Decidable (Low p) := inferInstanceAs (Decidable (_ ∧ _))
theorem stP_low : ∀ m, m < 128 → ∀ j, j < 8 → Low (stP m j) := by decide +kernel
theorem partP_low : ∀ i, i < 8 → Low (partP i) := by decide +kernel
instance (n r : Nat) : Decidable (IsRt n r) := inferInstanceAs (Decidable (_ ∧ _))
theorem partP_root : ∀ i, i < 8 → 2 < i → IsRt ((1073741824 + (partP (i - 1)).1).toNat * 536870912) (partP i).1.toNat ∧ IsRt ((1073741824 - (partP (i - 1)).1).toNat * 536870912) (partP i).2.toNat
    ∧ 0 ≤ (partP i).1 ∧ 0 ≤ (partP i).2 ∧ 0 ≤ 1073741824 + (partP (i - 1)).1 ∧ 0 ≤ 1073741824 - (partP (i - 1)).1 ∧ (partP (i - 1)).1 ≤ 1073741824 := by decide +kernel
theorem low_mul {x y : Int} (h1 : -1100000000 ≤ x) (h2 : x ≤ 1100000000) (h3 : -1100000000 ≤ y) (h4 : y ≤ 1100000000) : -1210000000000000000 ≤ x * y ∧ x * y ≤ 1210000000000000000 := by
  have h : (x * y).natAbs ≤ 1100000000 * 1100000000 := by
    rw [Int.natAbs_mul]
    exact Nat.mul_le_mul (by omega) (by omega)
  omega
theorem blk2 {w : World} {g : Nat} {t : TypeId} {u v : Value} (h : Blk w g t #[u, v]) : w.cell? ⟨g, 0, none⟩ = some u ∧ w.cell? ⟨g, 1, none⟩ = some v ∧ w.frozen? ⟨g, 0, none⟩ = false ∧ w.frozen? ⟨g, 1, none⟩ = false := ⟨h.cell 0, h.cell 1, h.frozen 0, h.frozen 1⟩
theorem below_pt {B g : Nat} {w w4 : World} (h : Below B w w4) (hg : B ≤ g) (u v : Value) : Below B w ((w4.setCell ⟨g, 0, none⟩ u).setCell ⟨g, 1, none⟩ v) := (h.setCell (p := ⟨g, 0, none⟩) hg u).setCell (p := ⟨g, 1, none⟩) hg v
/-- a point as a value -/
def ptV (p : Int × Int) : Value := .agg #[.int .i64 p.1, .int .i64 p.2]
end Go.Proofs.YtplfcncibmgllaaDoor.Tb
