/-
  Own texts, laid together: Td.
-/
import Derived.Test.YtplfcncibmgllaaDoorTc
/- Td -/
namespace Go.Proofs.YtplfcncibmgllaaDoor.Tb
open Go.RowKit Go.Proofs.YtplfcncibmgllaaDoor.Fx
/-- cosines and sines in parts of 2^24 -/
def cosP (n : Nat) : Int := roundI (ptP n).1 6
def sinP (n : Nat) : Int := roundI (ptP n).2 6
theorem below_grown {B g : Nat} {w w1 w2 : World} (h : Below B w w1) (k : w1.grownBy w2 (some g)) (hg : B ≤ g) (hB : B ≤ w1.heap.size) : Below B w w2 :=
  ⟨k.os.trans h.os, k.tape.trans h.tape, k.output.trans h.output, Nat.le_trans h.size k.size, fun i hi => (k.block i (by omega) (fun e => by injection e; omega)).trans (h.block i hi)⟩
theorem ptP_low (n : Nat) (h : n < 128) : Low (ptP n) := stP_low n h 7 (by omega)
/-- the place on the circle -/
def pl (m : Int) : Nat := (m % 128).toNat
theorem pl_is (m : Int) : pl m < 128 ∧ m % 128 = (pl m : Int) := by unfold pl; omega
def halfT (i : Int) : Value := if 1 ≤ i ∧ i ≤ 7 then .tuple #[.int .i64 (partP i.toNat).1, .int .i64 (partP i.toNat).2, .int .i64 0] else .tuple #[.int .i64 0, .int .i64 0, .int .i64 1]
def turnT (n : Nat) : Value := .tuple #[.int .i64 (ptP n).1, .int .i64 (ptP n).2]
end Go.Proofs.YtplfcncibmgllaaDoor.Tb
