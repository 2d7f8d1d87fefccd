/-
  Own texts, laid together: Sa.
-/
import Derived.Test.YtplfcncibmgllaaChecked
import Derived.Test.YtplfcncibmgllaaBa
import Derived.WalkKit
import Derived.WalkSpells
import Derived.WalkLawsBesides
import Derived.Lib.Small
import Derived.Lib.Walk
import Derived.Lib.Hide
import Derived.Lib.BitFns
import Derived.Laws.ShiftsVar
import Derived.Deep.QuietTactic
import Derived.BigQuiet
/- Sa -/
namespace Go.Proofs.Ytplfcncibmgllaa.Fx
open Go.RowKit
/-- a number held between two -/
def holdI (v lo hi : Int) : Int := max lo (min v hi)
theorem hold_any (v lo hi : Int) (w : World) :
    Calls Try.prog 25 #[.int .i64 v, .int .i64 lo, .int .i64 hi] w fun e w' => e = .returned (.int .i64 (holdI v lo hi)) ∧ w = w' := by
  go_enter Try.func25, Try.ntmps25
  go_wp2
  go_ret
  exact ⟨rfl, rfl⟩
/-- how far bits go, less one -/
def bwN (b : Int) : Nat := (holdI b 1 62 - 1).toNat
theorem bwN_le (b : Int) : bwN b ≤ 61 := by unfold bwN holdI; omega
theorem bwN_is (b : Int) : holdI b 1 62 - 1 = (bwN b : Int) := by unfold bwN holdI; omega
def satI (v b : Int) : Int := holdI v (-((2 ^ bwN b : Nat) : Int)) (((2 ^ bwN b : Nat) : Int) - 1)
theorem p61 {s : Nat} (h : s ≤ 61) : 1 ≤ 2 ^ s ∧ 2 ^ s ≤ 2305843009213693952 :=
  ⟨Nat.pow_pos (by omega), Nat.pow_le_pow_right (n := 2) (i := s) (j := 61) (by omega) h⟩
theorem pow_cast (s : Nat) : (2 : Int) ^ s = ((2 ^ s : Nat) : Int) := by simp
set_option maxHeartbeats 1000000 in
theorem sat_any (v b : Int) (w : World) :
    Calls Try.prog 13 #[.int .i64 v, .int .i64 b] w fun e w' => e = .returned (.int .i64 (satI v b)) ∧ w = w' := by
  obtain ⟨s, hs⟩ : ∃ s, s = bwN b := ⟨_, rfl⟩
  have h61 : s ≤ 61 := by rw [hs]; exact bwN_le b
  have hh := bwN_is b
  obtain ⟨P, hP⟩ : ∃ P, 2 ^ s = P := ⟨_, rfl⟩
  have HS := Lib.hid (show satI v b = holdI v (-(P : Int)) ((P : Int) - 1) by rw [← hP, hs]; rfl)
  rw [← hs] at hh
  have HH := Lib.hid (show holdI b 1 62 = (s : Int) + 1 by omega)
  obtain ⟨p1, p2⟩ := p61 h61
  have hp := pow_cast s
  rw [hP] at p1 p2 hp
  clear hh hs hP
  go_enter Try.func13, Try.ntmps13
  go_wp2_with fail
  refine (hold_any b 1 62 _).mono ?_
  rintro e w' ⟨rfl, rfl⟩
  rw [HH.out]
  go_wp2_with fail
  refine (hold_any v (-(P : Int)) ((P : Int) - 1) _).mono ?_
  rintro e w' ⟨rfl, rfl⟩
  rw [← HS.out]
  go_wp2
  go_ret
  exact ⟨rfl, rfl⟩
/-- a number by 2^by, to the nearest, halves up -/
def roundI (v b : Int) : Int := if b < 1 then v else if 62 < b then 0 else v / ((2 ^ b.toNat : Nat) : Int) + v / ((2 ^ (b.toNat - 1) : Nat) : Int) % 2
theorem p62 {s : Nat} (h : s ≤ 62) : 1 ≤ 2 ^ s ∧ 2 ^ s ≤ 4611686018427387904 :=
  ⟨Nat.pow_pos (by omega), Nat.pow_le_pow_right (n := 2) (i := s) (j := 62) (by omega) h⟩
theorem i64_and1 (n : Int) : bits BinOp.and IntKind.i64 n 1 = n % 2 := by
  have h1 : (BitVec.ofInt 64 1).toNat = 2 ^ 1 - 1 := by decide
  have key : (BitVec.ofInt 64 n &&& BitVec.ofInt 64 1).toNat = (n % ((2 ^ 64 : Nat) : Int)).toNat % 2 ^ 1 := by
    rw [BitVec.toNat_and, BitVec.toNat_ofInt, h1, Nat.and_two_pow_sub_one_eq_mod]
  show IntKind.i64.wrap ((BitVec.ofInt 64 n &&& BitVec.ofInt 64 1).toNat : Nat) = n % 2
  rw [key, IntKind.wrap_i64]
  omega
set_option maxHeartbeats 1000000 in
theorem round_any (v b : Int) (w : World) (hv : -9223372036854775808 ≤ v ∧ v ≤ 9223372036854775807) :
    Calls Try.prog 14 #[.int .i64 v, .int .i64 b] w fun e w' => e = .returned (.int .i64 (roundI v b)) ∧ w = w' := by
  by_cases h1 : b < 1
  · have HR := Lib.hid (show roundI v b = v by unfold roundI; rw [if_pos h1])
    go_enter Try.func14, Try.ntmps14
    go_wp2
    go_ret
    exact ⟨by rw [HR.out]; rfl, rfl⟩
  · by_cases h2 : 62 < b
    · have HR := Lib.hid (show roundI v b = 0 by unfold roundI; rw [if_neg h1, if_pos h2])
      go_enter Try.func14, Try.ntmps14
      go_wp2
      go_ret
      exact ⟨by rw [HR.out]; rfl, rfl⟩
    · obtain ⟨k, hk⟩ : ∃ k : Nat, (k : Int) + 1 = b := ⟨(b - 1).toNat, by omega⟩
      obtain ⟨h1', h2'⟩ := hv
      subst hk
      have k61 : k ≤ 61 := by omega
      obtain ⟨P, hP⟩ : ∃ P, 2 ^ k = P := ⟨_, rfl⟩
      obtain ⟨Q, hQ⟩ : ∃ Q, 2 ^ (k + 1) = Q := ⟨_, rfl⟩
      have HR := Lib.hid (show roundI v ((k : Int) + 1) = v / (Q : Int) + v / (P : Int) % 2 by
        unfold roundI; rw [if_neg h1, if_neg h2, ← hP, ← hQ, show (((k : Int) + 1).toNat) = k + 1 by omega, show k + 1 - 1 = k by omega])
      clear h1 h2
      have hp := pow_cast k
      have hq := pow_cast (k + 1)
      rw [hP] at hp
      rw [hQ] at hq
      have q2 : 2 ≤ Q := by rw [← hQ, Nat.pow_succ]; have : 1 ≤ 2 ^ k := Nat.pow_pos (by omega); omega
      obtain ⟨x, hx⟩ : ∃ x, v / (Q : Int) = x := ⟨_, rfl⟩
      have x1 : -4611686018427387904 ≤ x := by rw [← hx]; exact Int.le_ediv_of_mul_le (by omega) (by omega)
      have x2 : x < 4611686018427387904 := by rw [← hx]; exact Int.ediv_lt_of_lt_mul (by omega) (by omega)
      obtain ⟨y, hy⟩ : ∃ y, bits BinOp.and IntKind.i64 (v / (P : Int)) 1 = y := ⟨_, rfl⟩
      have hy2 : y = v / (P : Int) % 2 := by rw [← hy, i64_and1]
      have y1 : 0 ≤ y := by omega
      have y2 : y ≤ 1 := by omega
      have HY := Lib.hid hy2
      have HX := Lib.hid hx
      clear hy2 hP hQ q2
      go_enter Try.func14, Try.ntmps14
      go_wp2
      go_ret
      exact ⟨by rw [HR.out, HX.out, ← HY.out]; rfl, rfl⟩
/-- a product by 2^by -/
def hold31 (v : Int) : Int := holdI v (-2147483648) 2147483648
theorem hold31_in (v : Int) : -2147483648 ≤ hold31 v ∧ hold31 v ≤ 2147483648 := by unfold hold31 holdI; omega
def mulI (a b s : Int) : Int := roundI (hold31 a * hold31 b) s
theorem mul_in {x y : Int} (hx : -2147483648 ≤ x ∧ x ≤ 2147483648) (hy : -2147483648 ≤ y ∧ y ≤ 2147483648) : -4611686018427387904 ≤ x * y ∧ x * y ≤ 4611686018427387904 := by
  have h : (x * y).natAbs ≤ 2147483648 * 2147483648 := by
    rw [Int.natAbs_mul]
    exact Nat.mul_le_mul (by omega) (by omega)
  omega
set_option maxHeartbeats 1000000 in
theorem mul_any (a b s : Int) (w : World) :
    Calls Try.prog 33 #[.int .i64 a, .int .i64 b, .int .i64 s] w fun e w' => e = .returned (.int .i64 (mulI a b s)) ∧ w = w' := by
  have HM := Lib.hid (show mulI a b s = roundI (hold31 a * hold31 b) s from rfl)
  obtain ⟨x, hx⟩ : ∃ x, hold31 a = x := ⟨_, rfl⟩
  obtain ⟨y, hy⟩ : ∃ y, hold31 b = y := ⟨_, rfl⟩
  obtain ⟨m1, m2⟩ := mul_in (hold31_in a) (hold31_in b)
  rw [hx, hy] at HM m1 m2
  obtain ⟨z, hz⟩ : ∃ z, x * y = z := ⟨_, rfl⟩
  rw [hz] at HM m1 m2
  have HX := Lib.hid (show holdI a (-2147483648) 2147483648 = x from hx)
  have HY := Lib.hid (show holdI b (-2147483648) 2147483648 = y from hy)
  clear hx hy
  go_enter Try.func33, Try.ntmps33
  go_wp2_with fail
  refine (hold_any a _ _ _).mono ?_
  rintro e w' ⟨rfl, rfl⟩
  rw [HX.out]
  go_wp2_with fail
  refine (hold_any b _ _ _).mono ?_
  rintro e w' ⟨rfl, rfl⟩
  rw [HY.out]
  go_wp2_with fail
  refine (round_any z s _ ⟨by omega, by omega⟩).mono ?_
  rintro e w' ⟨rfl, rfl⟩
  rw [← HM.out]
  go_wp2
  go_ret
  exact ⟨rfl, rfl⟩
end Go.Proofs.Ytplfcncibmgllaa.Fx
