/-
  Own texts, laid together: Sa.
-/
import Derived.Test.YtplfcncibmgllaaDoorChecked
import Derived.Test.YtplfcncibmgllaaDoorBa
import Derived.WalkKit
import Derived.WalkSpells
import Derived.WalkLawsBesides
import Derived.Lib.Small
import Derived.Lib.Walk
import Derived.Lib.Hide
import Derived.Lib.BitFns
import Derived.Laws.ShiftsVar
import Derived.Deep.QuietTactic
import Derived.BigQuiet
/- Sa -/
namespace Go.Proofs.YtplfcncibmgllaaDoor.Fx
open Go.RowKit
/-- a number held between two -/
def holdI (v lo hi : Int) : Int := max lo (min v hi)
/-- how far bits go, less one -/
def bwN (b : Int) : Nat := (holdI b 1 62 - 1).toNat
theorem bwN_le (b : Int) : bwN b ≤ 61 := by unfold bwN holdI; omega
theorem bwN_is (b : Int) : holdI b 1 62 - 1 = (bwN b : Int) := by unfold bwN holdI; omega
def satI (v b : Int) : Int := holdI v (-((2 ^ bwN b : Nat) : Int)) (((2 ^ bwN b : Nat) : Int) - 1)
theorem p61 {s : Nat} (h : s ≤ 61) : 1 ≤ 2 ^ s ∧ 2 ^ s ≤ 2305843009213693952 :=
  ⟨Nat.pow_pos (by omega), Nat.pow_le_pow_right (n := 2) (i := s) (j := 61) (by omega) h⟩
theorem pow_cast (s : Nat) : (2 : Int) ^ s = ((2 ^ s : Nat) : Int) := by simp
/-- a number by 2^by, to the nearest, halves up -/
def roundI (v b : Int) : Int := if b < 1 then v else if 62 < b then 0 else v / ((2 ^ b.toNat : Nat) : Int) + v / ((2 ^ (b.toNat - 1) : Nat) : Int) % 2
theorem p62 {s : Nat} (h : s ≤ 62) : 1 ≤ 2 ^ s ∧ 2 ^ s ≤ 4611686018427387904 :=
  ⟨Nat.pow_pos (by omega), Nat.pow_le_pow_right (n := 2) (i := s) (j := 62) (by omega) h⟩
theorem i64_and1 (n : Int) : bits BinOp.and IntKind.i64 n 1 = n % 2 := by
  have h1 : (BitVec.ofInt 64 1).toNat = 2 ^ 1 - 1 := by decide
  have key : (BitVec.ofInt 64 n &&& BitVec.ofInt 64 1).toNat = (n % ((2 ^ 64 : Nat) : Int)).toNat % 2 ^ 1 := by
    rw [BitVec.toNat_and, BitVec.toNat_ofInt, h1, Nat.and_two_pow_sub_one_eq_mod]
  show IntKind.i64.wrap ((BitVec.ofInt 64 n &&& BitVec.ofInt 64 1).toNat : Nat) = n % 2
  rw [key, IntKind.wrap_i64]
  omega
/-- a product by 2^by -/
def hold31 (v : Int) : Int := holdI v (-2147483648) 2147483648
theorem hold31_in (v : Int) : -2147483648 ≤ hold31 v ∧ hold31 v ≤ 2147483648 := by unfold hold31 holdI; omega
def mulI (a b s : Int) : Int := roundI (hold31 a * hold31 b) s
theorem mul_in {x y : Int} (hx : -2147483648 ≤ x ∧ x ≤ 2147483648) (hy : -2147483648 ≤ y ∧ y ≤ 2147483648) : -4611686018427387904 ≤ x * y ∧ x * y ≤ 4611686018427387904 := by
  have h : (x * y).natAbs ≤ 2147483648 * 2147483648 := by
    rw [Int.natAbs_mul]
    exact Nat.mul_le_mul (by omega) (by omega)
  omega
end Go.Proofs.YtplfcncibmgllaaDoor.Fx
