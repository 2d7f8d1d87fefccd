/-
  Own texts, laid together: Sa, Sb, Sc, Sd, Se, Sf, Sg, Si, Sk, Sl, Sm.
-/
import Derived.Test.YtcnckamocbaceaaDoorChecked
import Derived.Test.YtcnckamocbaceaaDoorBa
import Derived.WalkKit
import Derived.WalkSpells
import Derived.WalkLawsBesides
import Derived.Lib.Small
import Derived.Lib.Walk
import Derived.Lib.Hide
import Derived.Lib.BitFns
import Derived.Laws.ShiftsVar
import Derived.Deep.QuietTactic
import Derived.BigQuiet
import Derived.Test.YtcnckamocbaceaaDoorLen
import Derived.Lib.Mul64
import Derived.Laws.Externs
import Derived.Laws.Bits64b
import Derived.Deep.WholeRow
import Derived.Lib.ItoaNum
import Derived.Deep.OwnRows
/- Sa -/
namespace Go.Proofs.YtcnckamocbaceaaDoor.Fx
open Go.RowKit
/-- a number held between two -/
def holdI (v lo hi : Int) : Int := max lo (min v hi)
/-- how far bits go, less one -/
def bwN (b : Int) : Nat := (holdI b 1 62 - 1).toNat
theorem bwN_le (b : Int) : bwN b ≤ 61 := by unfold bwN holdI; omega
theorem bwN_is (b : Int) : holdI b 1 62 - 1 = (bwN b : Int) := by unfold bwN holdI; omega
def satI (v b : Int) : Int := holdI v (-((2 ^ bwN b : Nat) : Int)) (((2 ^ bwN b : Nat) : Int) - 1)
theorem p61 {s : Nat} (h : s ≤ 61) : 1 ≤ 2 ^ s ∧ 2 ^ s ≤ 2305843009213693952 :=
  ⟨Nat.pow_pos (by omega), Nat.pow_le_pow_right (n := 2) (i := s) (j := 61) (by omega) h⟩
theorem pow_cast (s : Nat) : (2 : Int) ^ s = ((2 ^ s : Nat) : Int) := by simp
/-- a number by 2^by, to the nearest, halves up -/
def roundI (v b : Int) : Int := if b < 1 then v else if 62 < b then 0 else v / ((2 ^ b.toNat : Nat) : Int) + v / ((2 ^ (b.toNat - 1) : Nat) : Int) % 2
theorem p62 {s : Nat} (h : s ≤ 62) : 1 ≤ 2 ^ s ∧ 2 ^ s ≤ 4611686018427387904 :=
  ⟨Nat.pow_pos (by omega), Nat.pow_le_pow_right (n := 2) (i := s) (j := 62) (by omega) h⟩
theorem i64_and1 (n : Int) : bits BinOp.and IntKind.i64 n 1 = n % 2 := by
  have h1 : (BitVec.ofInt 64 1).toNat = 2 ^ 1 - 1 := by decide
  have key : (BitVec.ofInt 64 n &&& BitVec.ofInt 64 1).toNat = (n % ((2 ^ 64 : Nat) : Int)).toNat % 2 ^ 1 := by
    rw [BitVec.toNat_and, BitVec.toNat_ofInt, h1, Nat.and_two_pow_sub_one_eq_mod]
  show IntKind.i64.wrap ((BitVec.ofInt 64 n &&& BitVec.ofInt 64 1).toNat : Nat) = n % 2
  rw [key, IntKind.wrap_i64]
  omega
set_option maxHeartbeats 1000000 in
theorem round_any (v b : Int) (w : World) (hv : -9223372036854775808 ≤ v ∧ v ≤ 9223372036854775807) :
    Calls Tryd.prog 42 #[.int .i64 v, .int .i64 b] w fun e w' => e = .returned (.int .i64 (roundI v b)) ∧ w = w' := by
  by_cases h1 : b < 1
  · have HR := Lib.hid (show roundI v b = v by unfold roundI; rw [if_pos h1])
    go_enter Tryd.func42, Tryd.ntmps42
    go_wp2
    go_ret
    exact ⟨by rw [HR.out]; rfl, rfl⟩
  · by_cases h2 : 62 < b
    · have HR := Lib.hid (show roundI v b = 0 by unfold roundI; rw [if_neg h1, if_pos h2])
      go_enter Tryd.func42, Tryd.ntmps42
      go_wp2
      go_ret
      exact ⟨by rw [HR.out]; rfl, rfl⟩
    · obtain ⟨k, hk⟩ : ∃ k : Nat, (k : Int) + 1 = b := ⟨(b - 1).toNat, by omega⟩
      obtain ⟨h1', h2'⟩ := hv
      subst hk
      have k61 : k ≤ 61 := by omega
      obtain ⟨P, hP⟩ : ∃ P, 2 ^ k = P := ⟨_, rfl⟩
      obtain ⟨Q, hQ⟩ : ∃ Q, 2 ^ (k + 1) = Q := ⟨_, rfl⟩
      have HR := Lib.hid (show roundI v ((k : Int) + 1) = v / (Q : Int) + v / (P : Int) % 2 by
        unfold roundI; rw [if_neg h1, if_neg h2, ← hP, ← hQ, show (((k : Int) + 1).toNat) = k + 1 by omega, show k + 1 - 1 = k by omega])
      clear h1 h2
      have hp := pow_cast k
      have hq := pow_cast (k + 1)
      rw [hP] at hp
      rw [hQ] at hq
      have q2 : 2 ≤ Q := by rw [← hQ, Nat.pow_succ]; have : 1 ≤ 2 ^ k := Nat.pow_pos (by omega); omega
      obtain ⟨x, hx⟩ : ∃ x, v / (Q : Int) = x := ⟨_, rfl⟩
      have x1 : -4611686018427387904 ≤ x := by rw [← hx]; exact Int.le_ediv_of_mul_le (by omega) (by omega)
      have x2 : x < 4611686018427387904 := by rw [← hx]; exact Int.ediv_lt_of_lt_mul (by omega) (by omega)
      obtain ⟨y, hy⟩ : ∃ y, bits BinOp.and IntKind.i64 (v / (P : Int)) 1 = y := ⟨_, rfl⟩
      have hy2 : y = v / (P : Int) % 2 := by rw [← hy, i64_and1]
      have y1 : 0 ≤ y := by omega
      have y2 : y ≤ 1 := by omega
      have HY := Lib.hid hy2
      have HX := Lib.hid hx
      clear hy2 hP hQ q2
      go_enter Tryd.func42, Tryd.ntmps42
      go_wp2
      go_ret
      exact ⟨by rw [HR.out, HX.out, ← HY.out]; rfl, rfl⟩
/-- a product by 2^by -/
def hold31 (v : Int) : Int := holdI v (-2147483648) 2147483648
theorem hold31_in (v : Int) : -2147483648 ≤ hold31 v ∧ hold31 v ≤ 2147483648 := by unfold hold31 holdI; omega
def mulI (a b s : Int) : Int := roundI (hold31 a * hold31 b) s
theorem mul_in {x y : Int} (hx : -2147483648 ≤ x ∧ x ≤ 2147483648) (hy : -2147483648 ≤ y ∧ y ≤ 2147483648) : -4611686018427387904 ≤ x * y ∧ x * y ≤ 4611686018427387904 := by
  have h : (x * y).natAbs ≤ 2147483648 * 2147483648 := by
    rw [Int.natAbs_mul]
    exact Nat.mul_le_mul (by omega) (by omega)
  omega
end Go.Proofs.YtcnckamocbaceaaDoor.Fx
/- Sb -/
namespace Go.Proofs.YtcnckamocbaceaaDoor.Fx
open Go.RowKit
/-- a by b, to the nearest, halves away from 0 -/
def divI (a b : Int) : Int :=
  if 0 < a.tmod b ∧ b - a.tmod b ≤ a.tmod b then a.tdiv b + 1 else if a.tmod b < 0 ∧ b + a.tmod b ≤ -(a.tmod b) then a.tdiv b - 1 else a.tdiv b
def divV (a b : Int) : Value := if b < 1 then .tuple #[.int .i64 0, .int .i64 1] else .tuple #[.int .i64 (divI a b), .int .i64 0]
theorem tdm_nn (a b : Int) (ha : 0 ≤ a) (hb : 1 ≤ b) : b * a.tdiv b + a.tmod b = a ∧ a.tmod b < b ∧ 0 ≤ a.tmod b ∧ 0 ≤ a.tdiv b ∧ a.tdiv b ≤ a :=
  ⟨Int.mul_tdiv_add_tmod a b, Int.tmod_lt_of_pos a (by omega), Int.tmod_nonneg b ha, by rw [Int.tdiv_eq_ediv_of_nonneg ha]; exact Int.ediv_nonneg ha (by omega), by
    rw [Int.tdiv_eq_ediv_of_nonneg ha]; exact Int.ediv_le_self b ha⟩
/-- the quotient and what is left: both have the number's sign -/
def TD (a b q r : Int) : Prop := b * q + r = a ∧ ((0 ≤ a ∧ 0 ≤ r ∧ r < b ∧ 0 ≤ q ∧ q ≤ a) ∨ (a ≤ 0 ∧ r ≤ 0 ∧ -b < r ∧ q ≤ 0 ∧ a ≤ q))
theorem tdm (a b : Int) (hb : 1 ≤ b) : TD a b (a.tdiv b) (a.tmod b) := by
  rcases Int.le_total 0 a with h | h
  · obtain ⟨h1, h2, h3, h4, h5⟩ := tdm_nn a b h hb
    exact ⟨h1, Or.inl ⟨h, h3, h2, h4, h5⟩⟩
  · obtain ⟨h1, h2, h3, h4, h5⟩ := tdm_nn (-a) b (by omega) hb
    rw [Int.neg_tmod] at h2 h3
    rw [Int.neg_tdiv] at h4 h5
    exact ⟨Int.mul_tdiv_add_tmod a b, Or.inr ⟨h, by omega, by omega, by omega, by omega⟩⟩
def divQ (b q r : Int) : Int := if 0 < r ∧ b - r ≤ r then q + 1 else if r < 0 ∧ b + r ≤ -r then q - 1 else q
set_option maxHeartbeats 1000000 in
theorem div_any (a b : Int) (w : World) (ha : -9223372036854775808 ≤ a ∧ a ≤ 9223372036854775807) (hb : b ≤ 9223372036854775807) :
    Calls Tryd.prog 33 #[.int .i64 a, .int .i64 b] w fun e w' => e = .returned (divV a b) ∧ ∃ q, w' = w.drewN q := by
  by_cases h1 : b < 1
  · have HR := Lib.hid (show divV a b = .tuple #[.int .i64 0, .int .i64 1] by unfold divV; rw [if_pos h1])
    go_enter Tryd.func33, Tryd.ntmps33
    go_wp2
    go_ret2
    exact ⟨by rw [HR.out]; rfl, 0, rfl⟩
  · have HR := Lib.hid (show divV a b = .tuple #[.int .i64 (divI a b), .int .i64 0] by unfold divV; rw [if_neg h1])
    have b0 : ¬ b = 0 := by omega
    have b0' : (b == 0) = false := by simp; omega
    go_enter Tryd.func33, Tryd.ntmps33
    go_wp2_with fail
    go_quiet (fail)
    have ht := tdm a b h1
    have HD := Lib.hid (show divI a b = divQ b (a.tdiv b) (a.tmod b) from rfl)
    generalize a.tdiv b = q at ht HD ⊢
    generalize a.tmod b = r at ht HD ⊢
    obtain ⟨ht1, ht2⟩ := ht
    have HT := Lib.hid ht1
    clear ht1
    have r1 : -b < r := by omega
    have r2 : r < b := by omega
    have q1 : -9223372036854775808 ≤ q := by omega
    have q2 : q ≤ 9223372036854775807 := by omega
    -- a great number's half is not rounded
    have q3 : 0 < r → b - r ≤ r → q < 9223372036854775807 := by
      intro g1 g2
      have hb2 : 2 ≤ b := by omega
      have : 2 * q ≤ b * q := Int.mul_le_mul_of_nonneg_right hb2 (by omega)
      have := HT.out
      omega
    have q4 : r < 0 → b + r ≤ -r → -9223372036854775808 < q := by
      intro g1 g2
      have hb2 : 2 ≤ b := by omega
      have g3 : 2 * (-q) ≤ b * (-q) := Int.mul_le_mul_of_nonneg_right hb2 (by omega)
      have g4 : b * (-q) = -(b * q) := Int.mul_neg b q
      have := HT.out
      omega
    have HQ3 := Lib.hid q3
    have HQ4 := Lib.hid q4
    clear ht2 q3 q4
    by_cases c1 : 0 < r
    · by_cases c2 : b - r ≤ r
      · have q5 := HQ3.out c1 c2
        have HE := Lib.hid (show divQ b q r = q + 1 by unfold divQ; rw [if_pos ⟨c1, c2⟩])
        go_wp2
        go_ret2
        exact ⟨by rw [HR.out, HD.out, HE.out]; rfl, nq, rfl⟩
      · have HE := Lib.hid (show divQ b q r = q by unfold divQ; rw [if_neg (fun h => c2 h.2), if_neg (fun h => by omega)])
        go_wp2
        go_ret2
        exact ⟨by rw [HR.out, HD.out, HE.out]; rfl, nq, rfl⟩
    · by_cases c3 : r < 0
      · by_cases c2 : b + r ≤ -r
        · have q5 := HQ4.out c3 c2
          have HE := Lib.hid (show divQ b q r = q - 1 by unfold divQ; rw [if_neg (fun h => c1 h.1), if_pos ⟨c3, c2⟩])
          go_wp2
          go_ret2
          exact ⟨by rw [HR.out, HD.out, HE.out]; rfl, nq, rfl⟩
        · have HE := Lib.hid (show divQ b q r = q by unfold divQ; rw [if_neg (fun h => c1 h.1), if_neg (fun h => c2 h.2)])
          go_wp2
          go_ret2
          exact ⟨by rw [HR.out, HD.out, HE.out]; rfl, nq, rfl⟩
      · have HE := Lib.hid (show divQ b q r = q by unfold divQ; rw [if_neg (fun h => c1 h.1), if_neg (fun h => c3 h.1)])
        go_wp2
        go_ret2
        exact ⟨by rw [HR.out, HD.out, HE.out]; rfl, nq, rfl⟩
/-- a number's root, rounded down -/
def IsRt (n r : Nat) : Prop := r * r ≤ n ∧ n < (r + 1) * (r + 1)
theorem IsRt.uniq {n r s : Nat} (h1 : IsRt n r) (h2 : IsRt n s) : r = s := by
  rcases Nat.lt_trichotomy r s with h | h | h
  · have := Nat.mul_le_mul (show r + 1 ≤ s from h) (show r + 1 ≤ s from h)
    have := h1.2; have := h2.1; omega
  · exact h
  · have := Nat.mul_le_mul (show s + 1 ≤ r from h) (show s + 1 ≤ r from h)
    have := h2.2; have := h1.1; omega
theorem IsRt.mono {n m r s : Nat} (h1 : IsRt n r) (h2 : IsRt m s) (h : n ≤ m) : r ≤ s := by
  rcases Nat.lt_or_ge s r with g | g
  · have := Nat.mul_le_mul (show s + 1 ≤ r from g) (show s + 1 ≤ r from g)
    have := h2.2; have := h1.1; omega
  · exact g
theorem IsRt.lt {n r : Nat} (h1 : IsRt n r) (h : n < 18446744073709551616) : r < 4294967296 := by
  rcases Nat.lt_or_ge r 4294967296 with g | g
  · exact g
  · have := Nat.mul_le_mul g g
    have := h1.1; omega
/-- on the way: k bits are still to come -/
def RtS (n k r : Nat) : Prop := r * r ≤ n ∧ n < (r + 2 ^ k) * (r + 2 ^ k) ∧ r + 2 ^ k ≤ 4294967296
theorem RtS.take {n k r : Nat} (h : RtS n (k + 1) r) (h2 : (r + 2 ^ k) * (r + 2 ^ k) ≤ n) : RtS n k (r + 2 ^ k) := by
  have e : r + 2 ^ k + 2 ^ k = r + 2 ^ (k + 1) := by rw [Nat.pow_succ]; omega
  exact ⟨h2, by rw [e]; exact h.2.1, by rw [e]; exact h.2.2⟩
theorem RtS.leave {n k r : Nat} (h : RtS n (k + 1) r) (h2 : ¬ (r + 2 ^ k) * (r + 2 ^ k) ≤ n) : RtS n k r := by
  have e : 2 ^ (k + 1) = 2 ^ k + 2 ^ k := by rw [Nat.pow_succ]; omega
  exact ⟨h.1, by omega, by have := h.2.2; have : 1 ≤ 2 ^ k := Nat.pow_pos (by omega); omega⟩
theorem half_pow (k : Nat) : 2 ^ (k + 1) / 2 = 2 ^ k := by rw [Nat.pow_succ]; omega
def RtP (n : Nat) (w : World) (e : Ending) (w' : World) : Prop := ∃ r : Nat, e = .returned (.int .u64 (r : Int)) ∧ IsRt n r ∧ w = w'
end Go.Proofs.YtcnckamocbaceaaDoor.Fx
/- Sc -/
namespace Go.Proofs.YtcnckamocbaceaaDoor.Fx
open Go.RowKit
theorem low32 (a : Nat) (ha : a < 18446744073709551616) : bits BinOp.and IntKind.u64 (a : Int) 4294967295 = ((a % 4294967296 : Nat) : Int) := by
  have h := u64_and_nat a 4294967295 ha (by omega)
  rw [show a &&& 4294967295 = a % 4294967296 from Nat.and_two_pow_sub_one_eq_mod a 32] at h
  exact h
set_option maxHeartbeats 1000000 in
theorem mul64_any (x y h l : Nat) (w : World) (hx : x < 18446744073709551616) (hy : y < 18446744073709551616) (hh : Hid (x * y / 18446744073709551616 = h)) (hl : Hid (x * y % 18446744073709551616 = l)) :
    Calls Tryd.prog 68 #[.int .u64 (x : Int), .int .u64 (y : Int)] w fun e w' => e = .returned (.tuple #[.int .u64 (h : Int), .int .u64 (l : Int)]) ∧ w = w' := by
  obtain ⟨bd, bt, bw, hhi⟩ := Lib.mul64_hi x y hx hy
  have b1 := Lib.half_mul_le (a := x / 4294967296) (b := y / 4294967296) (by omega) (by omega)
  have b2 := Lib.half_mul_le (a := x / 4294967296) (b := y % 4294967296) (by omega) (by omega)
  have b3 := Lib.half_mul_le (a := x % 4294967296) (b := y / 4294967296) (by omega) (by omega)
  have b4 := Lib.half_mul_le (a := x % 4294967296) (b := y % 4294967296) (by omega) (by omega)
  rw [hh.out] at hhi
  have m1 := low32 x hx
  have m2 := low32 y hy
  have d1 : (x : Int) / 4294967296 = ((x / 4294967296 : Nat) : Int) := by omega
  have d2 : (y : Int) / 4294967296 = ((y / 4294967296 : Nat) : Int) := by omega
  generalize x % 4294967296 = x0 at *
  generalize x / 4294967296 = x1 at *
  generalize y % 4294967296 = y0 at *
  generalize y / 4294967296 = y1 at *
  have p1 : (x1 : Int) * (y1 : Int) = ((x1 * y1 : Nat) : Int) := by simp
  have p2 : (x1 : Int) * (y0 : Int) = ((x1 * y0 : Nat) : Int) := by simp
  have p3 : (x0 : Int) * (y1 : Int) = ((x0 * y1 : Nat) : Int) := by simp
  have p4 : (x0 : Int) * (y0 : Int) = ((x0 * y0 : Nat) : Int) := by simp
  generalize x1 * y1 = A at *
  generalize x1 * y0 = B at *
  generalize x0 * y1 = C at *
  generalize x0 * y0 = D at *
  obtain ⟨T, hT⟩ : ∃ T, B + D / 4294967296 = T := ⟨_, rfl⟩
  rw [hT] at hhi bt bw
  have e1 : (B : Int) + (D : Int) / 4294967296 = (T : Int) := by omega
  have m3 := low32 T bt
  obtain ⟨U, hU⟩ : ∃ U, T % 4294967296 + C = U := ⟨_, rfl⟩
  rw [hU] at hhi bw
  have e2 : ((T % 4294967296 : Nat) : Int) + (C : Int) = (U : Int) := by omega
  have e3 : (A : Int) + (T : Int) / 4294967296 + (U : Int) / 4294967296 = (h : Int) := by omega
  have hp : (x : Int) * (y : Int) % 18446744073709551616 = (l : Int) := by rw [← hl.out]; simp
  have b5 : A + T / 4294967296 + U / 4294967296 < 18446744073709551616 := by omega
  have HHI := Lib.hid hhi
  have E3 := Lib.hid e3
  clear hhi hT hU e3
  generalize T % 4294967296 = T0 at *
  have HP := Lib.hid hp
  clear hp
  go_enter Tryd.func68, Tryd.ntmps68
  go_wp2
  rw [E3.out, show IntKind.u64.wrap ((x : Int) * (y : Int)) = (l : Int) by rw [IntKind.wrap_u64]; exact HP.out]
  go_ret2
  exact ⟨rfl, rfl⟩
/-- the law of a call of Add64 -/
theorem add64_is (x y : Nat) (w : World) :
    (callFunc 69 #[.int .u64 (x : Int), .int .u64 (y : Int), .int .u64 0]).run Tryd.prog w =
      .ok (.value (.tuple #[.int .u64 (((x + y) % 18446744073709551616 : Nat) : Int), .int .u64 (((x + y) / 18446744073709551616 : Nat) : Int)])) w := by
  rw [run_callFunc_extern Tryd.func69 (by kernel_rfl) (by kernel_rfl) (by kernel_rfl) (e := add64Entry) (by kernel_rfl), run_add64 x y 0 (by omega) (by omega) (by omega) (by omega)]
  simp only [Result.andThen]
  congr 5 <;> omega
/-- words as cells -/
def uV (n : Nat) : Value := .int .u64 (n : Int)
def ucells (l : List Nat) : Array Value := (l.map uV).toArray
theorem ucells_get {l : List Nat} {i x : Nat} (h : l[i]? = some x) : (ucells l)[i]? = some (.int .u64 (x : Int)) := by simp [ucells, h, uV]
theorem ucells_set (l : List Nat) (i x : Nat) : (ucells l).setIfInBounds i (.int .u64 (x : Int)) = ucells (l.set i x) := by
  simp [ucells, List.map_set, uV]
/-- the number that words are, the lowest first -/
def valW : List Nat → Nat
  | [] => 0
  | x :: l => x + 18446744073709551616 * valW l
theorem valW_snoc (l : List Nat) (x : Nat) : valW (l ++ [x]) = valW l + 18446744073709551616 ^ l.length * x := by
  induction l with
  | nil => simp [valW]
  | cons y l ih =>
    simp only [List.cons_append, valW, ih, List.length_cons, Nat.pow_succ]
    rw [Nat.mul_add, Nat.mul_comm (18446744073709551616 ^ l.length) 18446744073709551616, ← Nat.mul_assoc]
    omega
theorem valW_lt (l : List Nat) (h : ∀ x ∈ l, x < 18446744073709551616) : valW l < 18446744073709551616 ^ l.length := by
  induction l with
  | nil => simp [valW]
  | cons y l ih =>
    have h1 := ih (fun x hx => h x (by simp [hx]))
    have h2 := h y (by simp)
    simp only [valW, List.length_cons, Nat.pow_succ]
    omega
theorem list8 {l : List Nat} (h : l.length = 8) : ∃ a0 a1 a2 a3 a4 a5 a6 a7, l = [a0, a1, a2, a3, a4, a5, a6, a7] := by
  match l, h with
  | [a0, a1, a2, a3, a4, a5, a6, a7], _ => exact ⟨a0, a1, a2, a3, a4, a5, a6, a7, rfl⟩
theorem index8 (a0 a1 a2 a3 a4 a5 a6 a7 k x : Nat) (h : [a0, a1, a2, a3, a4, a5, a6, a7][k]? = some x) (w : World) :
    (Instr.index 79 (.agg #[uV a0, uV a1, uV a2, uV a3, uV a4, uV a5, uV a6, uV a7]) (.int .i64 (k : Int))).run Tryd.prog w = .ok (.int .u64 (x : Int)) w := by
  match k, h with
  | 0, h => cases h; rfl
  | 1, h => cases h; rfl
  | 2, h => cases h; rfl
  | 3, h => cases h; rfl
  | 4, h => cases h; rfl
  | 5, h => cases h; rfl
  | 6, h => cases h; rfl
  | 7, h => cases h; rfl
/-- one word more -/
theorem times_step (n v k x y c h l s o : Nat) (hx : x < 18446744073709551616) (hn : n < 18446744073709551616) (hc : c < 18446744073709551616)
    (hi : v + 18446744073709551616 ^ k * c = n * y) (hh : x * n / 18446744073709551616 = h) (hl : x * n % 18446744073709551616 = l) (hs : (l + c) % 18446744073709551616 = s) (ho : (l + c) / 18446744073709551616 = o) :
    h + o < 18446744073709551616 ∧ v + 18446744073709551616 ^ k * s + 18446744073709551616 ^ (k + 1) * (h + o) = n * (y + 18446744073709551616 ^ k * x) := by
  have e1 : 18446744073709551616 * h + l = x * n := by omega
  have e2 : 18446744073709551616 * (h + o) + s = x * n + c := by omega
  constructor
  · have := Nat.mul_le_mul (show x ≤ 18446744073709551615 by omega) (show n ≤ 18446744073709551615 by omega)
    omega
  · rw [Nat.pow_succ]
    generalize 18446744073709551616 ^ k = P at *
    have e3 : P * s + P * 18446744073709551616 * (h + o) = P * (x * n) + P * c := by rw [← Nat.mul_add, ← e2, Nat.mul_assoc, ← Nat.mul_add]; congr 1; omega
    have e4 : n * (y + P * x) = n * y + P * (x * n) := by rw [Nat.mul_add]; congr 1; rw [← Nat.mul_assoc, Nat.mul_comm n P, Nat.mul_assoc, Nat.mul_comm n x]
    generalize P * 18446744073709551616 * (h + o) = Q at *
    omega
theorem take_snocW (l : List Nat) (k x : Nat) (h : l[k]? = some x) : l.take (k + 1) = l.take k ++ [x] := by
  rw [List.take_add_one, h]; rfl
def TmS (w : World) (g : Nat) (us ns : List Nat) (wr : World) : Prop :=
  Blk wr g 79 (ucells (ns ++ us.drop ns.length)) ∧ (∃ Z, Blk wr (g + 1) 79 (ucells Z) ∧ Z.length = 8) ∧ Below g w wr
theorem set_mid (us ns : List Nat) (x : Nat) (h : ns.length < us.length) : (ns ++ us.drop ns.length).set ns.length x = (ns ++ [x]) ++ us.drop (ns ++ [x]).length := by
  rw [List.set_append_right _ _ (by omega), Nat.sub_self]
  have e : us.drop ns.length = us[ns.length] :: us.drop (ns.length + 1) := List.drop_eq_getElem_cons h
  rw [e]
  simp only [List.set_cons_zero, List.append_assoc, List.cons_append, List.nil_append, List.length_append, List.length_cons, List.length_nil, Nat.zero_add]
theorem TmS.put {w : World} {g : Nat} {us ns : List Nat} {wr : World} (h : TmS w g us ns wr) (hl : ns.length < us.length) (x : Nat) : TmS w g us (ns ++ [x]) (wr.setCell ⟨g, ns.length, none⟩ (.int .u64 (x : Int))) := by
  obtain ⟨h1, ⟨Z, h2, h3⟩, h4⟩ := h
  refine ⟨?_, ⟨Z, h2.far (by simp) _, h3⟩, h4.setCell (Nat.le_refl _) _⟩
  have := h1.set_ ns.length (.int .u64 (x : Int))
  rw [ucells_set, set_mid us ns x hl] at this
  exact this
theorem tms_start (w : World) (us : List Nat) (c : Array Value) (hc : c = ucells us) : TmS w w.heap.size us [] ((w.alloc (.cells c 79)).alloc (.cells (ucells [0, 0, 0, 0, 0, 0, 0, 0]) 79)) := by
  subst hc
  refine ⟨?_, ⟨[0, 0, 0, 0, 0, 0, 0, 0], ?_, rfl⟩, ((Below.refl _ _).alloc (Nat.le_refl _) _).alloc (by simp) _⟩
  · simpa using (Blk.new w 79 (ucells us)).alloc _
  · exact Blk.newAt (by simp)
/-- eight cells, one by one -/
theorem blk8 {w : World} {g : Nat} {t : TypeId} {b0 b1 b2 b3 b4 b5 b6 b7 : Nat} (h : Blk w g t (ucells [b0, b1, b2, b3, b4, b5, b6, b7])) :
    w.cell? ⟨g, 0, none⟩ = some (.int .u64 (b0 : Int)) ∧ w.cell? ⟨g, 1, none⟩ = some (.int .u64 (b1 : Int)) ∧ w.cell? ⟨g, 2, none⟩ = some (.int .u64 (b2 : Int)) ∧ w.cell? ⟨g, 3, none⟩ = some (.int .u64 (b3 : Int)) ∧ w.cell? ⟨g, 4, none⟩ = some (.int .u64 (b4 : Int)) ∧ w.cell? ⟨g, 5, none⟩ = some (.int .u64 (b5 : Int)) ∧ w.cell? ⟨g, 6, none⟩ = some (.int .u64 (b6 : Int)) ∧ w.cell? ⟨g, 7, none⟩ = some (.int .u64 (b7 : Int)) :=
  ⟨h.cell 0, h.cell 1, h.cell 2, h.cell 3, h.cell 4, h.cell 5, h.cell 6, h.cell 7⟩
theorem fz8 {w : World} {g : Nat} {t : TypeId} {c : Array Value} (h : Blk w g t c) :
    w.frozen? ⟨g, 0, none⟩ = false ∧ w.frozen? ⟨g, 1, none⟩ = false ∧ w.frozen? ⟨g, 2, none⟩ = false ∧ w.frozen? ⟨g, 3, none⟩ = false ∧ w.frozen? ⟨g, 4, none⟩ = false ∧ w.frozen? ⟨g, 5, none⟩ = false ∧ w.frozen? ⟨g, 6, none⟩ = false ∧ w.frozen? ⟨g, 7, none⟩ = false :=
  ⟨h.frozen 0, h.frozen 1, h.frozen 2, h.frozen 3, h.frozen 4, h.frozen 5, h.frozen 6, h.frozen 7⟩
theorem _root_.Go.Proofs.YtcnckamocbaceaaDoor.Blk.putU {w : World} {g : Nat} {t : TypeId} {l : List Nat} (h : Blk w g t (ucells l)) (i x : Nat) : Blk (w.setCell ⟨g, i, none⟩ (.int .u64 (x : Int))) g t (ucells (l.set i x)) := by
  have := h.set_ i (.int .u64 (x : Int))
  rwa [ucells_set] at this
/-- eight cells written, one by one -/
theorem put8 {w0 w : World} {B g : Nat} {t : TypeId} {z0 z1 z2 z3 z4 z5 z6 z7 : Nat} (b0 b1 b2 b3 b4 b5 b6 b7 : Nat) (h : Blk w g t (ucells [z0, z1, z2, z3, z4, z5, z6, z7])) (hb : Below B w0 w) (hg : B ≤ g) :
    Blk ((((((((w.setCell ⟨g, 0, none⟩ (.int .u64 (b0 : Int))).setCell ⟨g, 1, none⟩ (.int .u64 (b1 : Int))).setCell ⟨g, 2, none⟩ (.int .u64 (b2 : Int))).setCell ⟨g, 3, none⟩ (.int .u64 (b3 : Int))).setCell ⟨g, 4, none⟩ (.int .u64 (b4 : Int))).setCell ⟨g, 5, none⟩ (.int .u64 (b5 : Int))).setCell ⟨g, 6, none⟩ (.int .u64 (b6 : Int))).setCell ⟨g, 7, none⟩ (.int .u64 (b7 : Int))) g t (ucells [b0, b1, b2, b3, b4, b5, b6, b7]) ∧
    Below B w0 ((((((((w.setCell ⟨g, 0, none⟩ (.int .u64 (b0 : Int))).setCell ⟨g, 1, none⟩ (.int .u64 (b1 : Int))).setCell ⟨g, 2, none⟩ (.int .u64 (b2 : Int))).setCell ⟨g, 3, none⟩ (.int .u64 (b3 : Int))).setCell ⟨g, 4, none⟩ (.int .u64 (b4 : Int))).setCell ⟨g, 5, none⟩ (.int .u64 (b5 : Int))).setCell ⟨g, 6, none⟩ (.int .u64 (b6 : Int))).setCell ⟨g, 7, none⟩ (.int .u64 (b7 : Int))) :=
  ⟨(((((((h.putU 0 b0).putU 1 b1).putU 2 b2).putU 3 b3).putU 4 b4).putU 5 b5).putU 6 b6).putU 7 b7,
    (((((((hb.setCell hg _).setCell hg _).setCell hg _).setCell hg _).setCell hg _).setCell hg _).setCell hg _).setCell hg _⟩
def TmP (w : World) (n : Nat) (us : List Nat) (e : Ending) (w' : World) : Prop :=
  ∃ ns, e = .returned (.agg (ucells ns)) ∧ ns.length = 8 ∧ (∀ x ∈ ns, x < 18446744073709551616) ∧ valW ns = n * valW us ∧ Below w.heap.size w w'
set_option maxRecDepth 100000 in
set_option maxHeartbeats 1000000 in
theorem times_any (us : List Nat) (n : Nat) (w : World) (hn : n < 18446744073709551616) (hl : us.length = 8) (ha : Hid (∀ x ∈ us, x < 18446744073709551616)) (hv : Hid (n * valW us < 18446744073709551616 ^ 8)) :
    Calls Tryd.prog 66 #[.agg (ucells us), .int .u64 (n : Int)] w (TmP w n us) := by
  obtain ⟨a0, a1, a2, a3, a4, a5, a6, a7, has⟩ := list8 hl
  have HC := Lib.hid (show #[uV a0, uV a1, uV a2, uV a3, uV a4, uV a5, uV a6, uV a7] = ucells us by rw [has]; rfl)
  rw [show ucells us = #[uV a0, uV a1, uV a2, uV a3, uV a4, uV a5, uV a6, uV a7] from HC.out.symm]
  have H0 := Lib.hid (tms_start w us _ HC.out)
  have HIX := Lib.hid (show ∀ k x : Nat, us[k]? = some x → ∀ w, (Instr.index 79 (.agg #[uV a0, uV a1, uV a2, uV a3, uV a4, uV a5, uV a6, uV a7]) (.int .i64 (k : Int))).run Tryd.prog w = .ok (.int .u64 (x : Int)) w from by
    subst has; exact fun k x h w => index8 a0 a1 a2 a3 a4 a5 a6 a7 k x h w)
  have HL := Lib.hid hl
  clear has hl
  go_enter Tryd.func66, Tryd.ntmps66
  go_wp2_with fail
  rw [show ucells [0, 0, 0, 0, 0, 0, 0, 0] = #[Value.int IntKind.u64 0, Value.int IntKind.u64 0, Value.int IntKind.u64 0, Value.int IntKind.u64 0, Value.int IntKind.u64 0, Value.int IntKind.u64 0, Value.int IntKind.u64 0, Value.int IntKind.u64 0] from rfl] at H0
  generalize (w.alloc _).alloc _ = w0 at H0 ⊢
  obtain ⟨g, hg⟩ : ∃ g, g = w.heap.size := ⟨_, rfl⟩
  rw [← hg] at H0 ⊢
  have HG := Lib.hid hg
  clear hg HC
  go_loopw [5, 13] (fun vc vi wr => ∃ (c : Nat) (ns : List Nat), vc = .int .u64 (c : Int) ∧ vi = .int .i64 (ns.length : Int) ∧ ns.length ≤ 8 ∧ c < 18446744073709551616 ∧ Hid (TmS w g us ns wr) ∧ Hid ((∀ x ∈ ns, x < 18446744073709551616) ∧ valW ns + 18446744073709551616 ^ ns.length * c = n * valW (us.take ns.length))) (fun _ vi _ => 8 - (intOf vi).toNat)
  case atStart => exact ⟨0, [], rfl, rfl, by simp, by omega, H0, Lib.hid ⟨by simp, by simp [valW]⟩⟩
  case round =>
    obtain ⟨c, ns, rfl, rfl, hk, hc, HS, HV⟩ := hrel
    obtain ⟨k, hkk⟩ : ∃ k, ns.length = k := ⟨_, rfl⟩
    rw [hkk] at hk ⊢
    have HK := Lib.hid hkk
    clear hkk
    by_cases hlt : k < 8
    · obtain ⟨x, hx⟩ : ∃ x, us[k]? = some x := ⟨_, List.getElem?_eq_getElem (by rw [HL.out]; exact hlt)⟩
      have hix := HIX.out k x hx
      have HX := Lib.hid hx
      have x64 : x < 18446744073709551616 := ha.out x (List.mem_of_getElem? hx)
      clear hx
      obtain ⟨h, hh⟩ : ∃ h, x * n / 18446744073709551616 = h := ⟨_, rfl⟩
      obtain ⟨l, hl⟩ : ∃ l, x * n % 18446744073709551616 = l := ⟨_, rfl⟩
      obtain ⟨s, hs⟩ : ∃ s, (l + c) % 18446744073709551616 = s := ⟨_, rfl⟩
      obtain ⟨o, ho⟩ : ∃ o, (l + c) / 18446744073709551616 = o := ⟨_, rfl⟩
      have hst := times_step n (valW ns) k x (valW (us.take k)) c h l s o x64 hn hc (by have := HV.out.2; rw [HK.out] at this; exact this) hh hl hs ho
      have HH := Lib.hid hh
      have HLL := Lib.hid hl
      have hadd := fun w => add64_is l c w
      rw [hs, ho] at hadd
      have s64 : s < 18446744073709551616 := by omega
      have ho64 := hst.1
      have HST := Lib.hid hst.2
      clear hh hl hs ho hst
      obtain ⟨old, hold⟩ : ∃ old, wr.cell? ⟨g, k, none⟩ = some old := by
        have e := HS.out.1.cell k
        have hlen : (ns ++ us.drop ns.length).length = 8 := by have := HL.out; have := HK.out; simp; omega
        obtain ⟨y, hy⟩ : ∃ y, (ns ++ us.drop ns.length)[k]? = some y := ⟨_, List.getElem?_eq_getElem (by omega)⟩
        exact ⟨_, e.trans (ucells_get hy)⟩
      have hfz := HS.out.1.frozen k
      go_wp2_with fail
      refine (mul64_any x n h l _ x64 hn HH HLL).mono ?_
      rintro e w' ⟨rfl, rfl⟩
      go_wp2
      clear hadd hix hfz hold
      go_roundw
      case rel =>
        refine ⟨h + o, ns ++ [s], by go_num, by rw [List.length_append, HK.out]; go_num, by rw [List.length_append, HK.out]; simp; omega, ho64, ?_, ?_⟩
        · have := HS.out.put (by have := HL.out; have := HK.out; omega) s
          rw [HK.out] at this
          exact Lib.hid this
        · refine Lib.hid ⟨?_, ?_⟩
          · intro x hx
            rcases List.mem_append.1 hx with hx | hx
            · exact HV.out.1 x hx
            · rw [List.mem_singleton.1 hx]; exact s64
          · rw [valW_snoc, List.length_append, HK.out, show k + [s].length = k + 1 from rfl, take_snocW us k x HX.out, valW_snoc, List.length_take, show min k us.length = k by have := HL.out; omega]
            exact HST.out
      case measure => simp [intOf]; omega
    · obtain rfl : k = 8 := by omega
      obtain ⟨b0, b1, b2, b3, b4, b5, b6, b7, hns⟩ := list8 HK.out
      have HB : Hid (Blk wr g 79 (ucells [b0, b1, b2, b3, b4, b5, b6, b7])) := by
        have := HS.out.1
        rw [HK.out, List.drop_eq_nil_of_le (by rw [HL.out]; omega), List.append_nil, hns] at this
        exact Lib.hid this
      obtain ⟨Z, hZ, hZ8⟩ := HS.out.2.1
      obtain ⟨z0, z1, z2, z3, z4, z5, z6, z7, hz⟩ := list8 hZ8
      rw [hz] at hZ
      have HZ := Lib.hid hZ
      obtain ⟨x0, x1, x2, x3, x4, x5, x6, x7⟩ := blk8 HB.out
      obtain ⟨y0, y1, y2, y3, y4, y5, y6, y7⟩ := blk8 hZ
      obtain ⟨f0, f1, f2, f3, f4, f5, f6, f7⟩ := fz8 hZ
      have HNS := Lib.hid hns
      clear hZ hZ8 hz hns
      go_wp2_with fail
      have HW := Lib.hid (put8 b0 b1 b2 b3 b4 b5 b6 b7 HZ.out HS.out.2.2 (show g ≤ g + 1 by omega))
      generalize World.setCell _ _ _ = w9 at HW ⊢
      clear x0 x1 x2 x3 x4 x5 x6 x7 y0 y1 y2 y3 y4 y5 y6 y7 f0 f1 f2 f3 f4 f5 f6 f7
      obtain ⟨x0, x1, x2, x3, x4, x5, x6, x7⟩ := blk8 HW.out.1
      refine bodyPost_ret (v := .agg (ucells [b0, b1, b2, b3, b4, b5, b6, b7])) (by simp [results, Tryd.results66, go_sem, x0, x1, x2, x3, x4, x5, x6, x7, ucells, uV]) rfl ?_
      refine ⟨_, rfl, rfl, by rw [← HNS.out]; exact HV.out.1, ?_, by rw [← HG.out]; exact HW.out.2⟩
      have hvv := HV.out.2
      rw [HK.out, List.take_of_length_le (by rw [HL.out]; omega)] at hvv
      rw [← HNS.out]
      have h8 := hv.out
      have hc0 : c = 0 := by
        rcases Nat.eq_zero_or_pos c with h | h
        · exact h
        · have := Nat.mul_le_mul_left (18446744073709551616 ^ 8) h
          omega
      rw [hc0] at hvv
      omega
end Go.Proofs.YtcnckamocbaceaaDoor.Fx
/- Sd -/
namespace Go.Proofs.YtcnckamocbaceaaDoor.Fx
open Go.RowKit
theorem log2_is {n k : Nat} (h1 : 2 ^ k ≤ n) (h2 : n < 2 ^ (k + 1)) : n.log2 = k :=
  (Nat.log2_eq_iff (by have : 0 < 2 ^ k := Nat.pow_pos (by omega); omega)).2 ⟨h1, h2⟩
theorem log2_in {n : Nat} (h : 0 < n) : 2 ^ n.log2 ≤ n ∧ n < 2 ^ (n.log2 + 1) := (Nat.log2_eq_iff (by omega)).1 rfl
theorem bitLen_log {x : Nat} (h : 0 < x) (hx : x < 18446744073709551616) : Lib.bitLen x = x.log2 + 1 := by
  obtain ⟨h1, h2, h3⟩ := Lib.bitLenAux_bounds 64 x hx (by omega)
  have e := log2_is (n := x) (k := Lib.bitLenAux 64 x - 1) h2 (by rw [show Lib.bitLenAux 64 x - 1 + 1 = Lib.bitLenAux 64 x by omega]; exact h3)
  show Lib.bitLenAux 64 x = _
  omega
/-- a number's logarithm, shifted, with something behind -/
theorem log2_shift {x s r : Nat} (h : 0 < x) (hr : r < 2 ^ s) : (r + 2 ^ s * x).log2 = s + x.log2 := by
  obtain ⟨h1, h2⟩ := log2_in h
  refine log2_is ?_ ?_
  · rw [Nat.pow_add]
    exact Nat.le_trans (Nat.mul_le_mul_left _ h1) (by omega)
  · have h3 : 2 ^ s * (x + 1) ≤ 2 ^ s * 2 ^ (x.log2 + 1) := Nat.mul_le_mul_left _ h2
    rw [Nat.add_assoc, Nat.pow_add]
    rw [Nat.mul_add] at h3
    omega
theorem pow64 (k : Nat) : 18446744073709551616 ^ k = 2 ^ (64 * k) := by rw [Nat.pow_mul]
theorem valW_append (l m : List Nat) : valW (l ++ m) = valW l + 18446744073709551616 ^ l.length * valW m := by
  induction l with
  | nil => simp [valW]
  | cons y l ih =>
    simp only [List.cons_append, valW, ih, List.length_cons, Nat.pow_succ]
    rw [Nat.mul_add, Nat.mul_comm (18446744073709551616 ^ l.length) 18446744073709551616, ← Nat.mul_assoc]
    omega
theorem valW_zero (l : List Nat) (h : ∀ x ∈ l, x = 0) : valW l = 0 := by
  induction l with
  | nil => rfl
  | cons y l ih => simp only [valW]; rw [h y (by simp), ih (fun x hx => h x (by simp [hx]))]
/-- the highest word that is not 0 -/
theorem log2_words {us : List Nat} {j x : Nat} (hx : us[j]? = some x) (h0 : 0 < x) (hb : ∀ y ∈ us, y < 18446744073709551616) (hz : ∀ y ∈ us.drop (j + 1), y = 0) : (valW us).log2 = 64 * j + x.log2 := by
  have hj : j < us.length := by
    rcases Nat.lt_or_ge j us.length with h | h
    · exact h
    · rw [List.getElem?_eq_none h] at hx; cases hx
  have e : us = us.take j ++ ([x] ++ us.drop (j + 1)) := by
    rw [← List.append_assoc, ← take_snocW us j x hx, List.take_append_drop]
  have hl : (us.take j).length = j := by rw [List.length_take]; omega
  have hv : valW us = valW (us.take j) + 2 ^ (64 * j) * x := by
    conv => lhs; rw [e]
    rw [valW_append, valW_append, valW_zero _ hz, hl, pow64]
    simp [valW]
  have hlt := valW_lt (us.take j) (fun y hy => hb y (List.mem_of_mem_take hy))
  rw [hl, pow64] at hlt
  rw [hv, log2_shift h0 hlt]
theorem words_drop {us : List Nat} {j x : Nat} (hx : us[j]? = some x) (h0 : x = 0) (hz : ∀ y ∈ us.drop (j + 1), y = 0) : ∀ y ∈ us.drop j, y = 0 := by
  intro y hy
  have hj : j < us.length := by
    rcases Nat.lt_or_ge j us.length with h | h
    · exact h
    · rw [List.getElem?_eq_none h] at hx; cases hx
  have e : us.drop j = us[j] :: us.drop (j + 1) := List.drop_eq_getElem_cons hj
  rw [e] at hy
  rcases List.mem_cons.1 hy with h | h
  · rw [h]; rw [List.getElem?_eq_getElem hj] at hx; injection hx with hx; rw [hx, h0]
  · exact hz y h
set_option maxRecDepth 100000 in
set_option maxHeartbeats 1000000 in
theorem length_any (us : List Nat) (w : World) (hl : us.length = 8) (ha : Hid (∀ x ∈ us, x < 18446744073709551616)) (hv : Hid (0 < valW us)) :
    Calls Tryd.prog 65 #[.agg (ucells us)] w fun e w' => e = .returned (.int .i64 (((valW us).log2 + 1 : Nat) : Int)) ∧ Below w.heap.size w w' := by
  obtain ⟨a0, a1, a2, a3, a4, a5, a6, a7, has⟩ := list8 hl
  have HC := Lib.hid (show #[uV a0, uV a1, uV a2, uV a3, uV a4, uV a5, uV a6, uV a7] = ucells us by rw [has]; rfl)
  rw [show ucells us = #[uV a0, uV a1, uV a2, uV a3, uV a4, uV a5, uV a6, uV a7] from HC.out.symm]
  have H0 := Lib.hid (show Blk (w.alloc (.cells #[uV a0, uV a1, uV a2, uV a3, uV a4, uV a5, uV a6, uV a7] 79)) w.heap.size 79 (ucells us) from by rw [← HC.out]; exact Blk.new w _ _)
  have HB := Lib.hid (show Below w.heap.size w (w.alloc (.cells #[uV a0, uV a1, uV a2, uV a3, uV a4, uV a5, uV a6, uV a7] 79)) from (Below.refl _ _).alloc (Nat.le_refl _) _)
  have HL := Lib.hid hl
  obtain ⟨V, hV⟩ : ∃ V, (valW us).log2 = V := ⟨_, rfl⟩
  rw [hV]
  have HVV := Lib.hid hV
  clear has hl hV HC
  go_enter Tryd.func65, Tryd.ntmps65
  go_wp2_with fail
  generalize w.alloc _ = w0 at H0 HB ⊢
  obtain ⟨g, hg⟩ : ∃ g, g = w.heap.size := ⟨_, rfl⟩
  rw [← hg] at H0 ⊢
  have HG := Lib.hid hg
  clear hg
  go_loopw [3] (fun vi wr => ∃ k : Nat, vi = .int .i64 ((k : Int) - 1) ∧ k ≤ 8 ∧ Hid (∀ y ∈ us.drop k, y = 0) ∧ wr = w0) (fun vi _ => ((intOf vi) + 1).toNat)
  case atStart => exact ⟨8, rfl, by omega, Lib.hid (by rw [List.drop_eq_nil_of_le (by rw [HL.out]; omega)]; simp), rfl⟩
  case round =>
    obtain ⟨k, rfl, hk, HZ, rfl⟩ := hrel
    cases k with
    | zero =>
      exact absurd (valW_zero us HZ.out) (by have := hv.out; omega)
    | succ k =>
      rw [show (((k + 1 : Nat) : Int) - 1) = (k : Int) by omega]
      obtain ⟨x, hx⟩ : ∃ x, us[k]? = some x := ⟨_, List.getElem?_eq_getElem (by rw [HL.out]; omega)⟩
      have hcell := (H0.out.cell k).trans (ucells_get hx)
      have x64 : x < 18446744073709551616 := ha.out x (List.mem_of_getElem? hx)
      have HX := Lib.hid hx
      clear hx
      by_cases h0 : x = 0
      · subst h0
        go_wp2
        go_roundw
        case rel => exact ⟨k, by go_num, by omega, Lib.hid (words_drop HX.out rfl HZ.out), trivial⟩
        case measure => simp [intOf]
      · have hb := bitLen_log (by omega) x64
        have hlog := log2_words HX.out (by omega) ha.out HZ.out
        rw [HVV.out] at hlog
        have hx64 : x.log2 < 64 := (Nat.log2_lt (by omega)).2 x64
        generalize x.log2 = L at hb hlog hx64
        have HBL := Lib.hid hb
        have HLG := Lib.hid hlog
        have h0' : ((x : Int) != 0) = true := by simp; omega
        clear hb hlog
        go_wp2_with fail
        refine (len64_any (x : Int) _ (by omega) (by omega)).mono ?_
        rintro e w' ⟨rfl, rfl⟩
        rw [show ((x : Int).toNat) = x from rfl, HBL.out]
        go_wp2
        go_ret
        exact ⟨by rw [HLG.out]; exact congrArg Ending.returned (congrArg (Value.int IntKind.i64) (by omega)), HB.out⟩
/-- what eighthPower keeps -/
def EpS (w : World) (g : Nat) (us : List Nat) (wr : World) : Prop :=
  Blk wr (g + 1) 79 (ucells us) ∧ (∃ Z, Blk wr g 79 (ucells Z) ∧ Z.length = 8) ∧ Below g w wr ∧ us.length = 8 ∧ ∀ x ∈ us, x < 18446744073709551616
theorem EpS.next {w : World} {g : Nat} {us : List Nat} {u u' : World} (h : EpS w g us u) (hb : Below u.heap.size u u') (hg : g ≤ u.heap.size) : EpS w g us u' := by
  obtain ⟨h1, ⟨Z, h2, h3⟩, h4, h5⟩ := h
  exact ⟨h1.below hb h1.lt, ⟨Z, h2.below hb h2.lt, h3⟩, h4.trans (hb.mono hg), h5⟩
def EpP (w : World) (V : Nat) (e : Ending) (w' : World) : Prop :=
  ∃ us, e = .returned (.agg (ucells us)) ∧ us.length = 8 ∧ (∀ x ∈ us, x < 18446744073709551616) ∧ valW us = V ∧ Below w.heap.size w w'
theorem eps_start (w : World) : EpS w w.heap.size [1, 0, 0, 0, 0, 0, 0, 0] ((w.alloc (.cells (ucells [0, 0, 0, 0, 0, 0, 0, 0]) 79)).alloc (.cells (ucells [1, 0, 0, 0, 0, 0, 0, 0]) 79)) := by
  refine ⟨Blk.newAt (by simp), ⟨[0, 0, 0, 0, 0, 0, 0, 0], ?_, rfl⟩, ((Below.refl _ _).alloc (Nat.le_refl _) _).alloc (by simp) _, rfl, by simp⟩
  exact (Blk.new w _ _).alloc _
theorem pow_up (n k : Nat) (hn : n < 18446744073709551616) (hk : k < 8) : n * n ^ k < 18446744073709551616 ^ 8 := by
  rw [Nat.mul_comm, ← Nat.pow_succ]
  have h1 : n ^ (k + 1) < 18446744073709551616 ^ (k + 1) := Nat.pow_lt_pow_left hn (by omega)
  have h2 : 18446744073709551616 ^ (k + 1) ≤ 18446744073709551616 ^ 8 := Nat.pow_le_pow_right (by omega) (by omega)
  exact Nat.lt_of_lt_of_le h1 h2
set_option maxRecDepth 100000 in
set_option maxHeartbeats 1000000 in
theorem eighth_any (n : Nat) (w : World) (hn : n < 18446744073709551616) :
    Calls Tryd.prog 64 #[.int .u64 (n : Int)] w (EpP w (n ^ 8)) := by
  have H0 := Lib.hid (eps_start w)
  go_enter Tryd.func64, Tryd.ntmps64
  go_wp2_with fail
  rw [show ucells [0, 0, 0, 0, 0, 0, 0, 0] = #[Value.int IntKind.u64 0, Value.int IntKind.u64 0, Value.int IntKind.u64 0, Value.int IntKind.u64 0, Value.int IntKind.u64 0, Value.int IntKind.u64 0, Value.int IntKind.u64 0, Value.int IntKind.u64 0] from rfl,
    show ucells [1, 0, 0, 0, 0, 0, 0, 0] = #[Value.int IntKind.u64 1, Value.int IntKind.u64 0, Value.int IntKind.u64 0, Value.int IntKind.u64 0, Value.int IntKind.u64 0, Value.int IntKind.u64 0, Value.int IntKind.u64 0, Value.int IntKind.u64 0] from rfl] at H0
  generalize (w.alloc _).alloc _ = w0 at H0 ⊢
  obtain ⟨g, hg⟩ : ∃ g, g = w.heap.size := ⟨_, rfl⟩
  rw [← hg] at H0 ⊢
  have HG := Lib.hid hg
  clear hg
  go_loopw [5] (fun vi wr => ∃ (k : Nat) (us : List Nat), vi = .int .i64 (k : Int) ∧ k ≤ 8 ∧ Hid (EpS w g us wr ∧ valW us = n ^ k)) (fun vi _ => 8 - (intOf vi).toNat)
  case atStart => exact ⟨0, [1, 0, 0, 0, 0, 0, 0, 0], rfl, by omega, Lib.hid ⟨H0.out, by simp [valW]⟩⟩
  case round =>
    obtain ⟨k, us, rfl, hk, HS⟩ := hrel
    clear H0
    obtain ⟨b0, b1, b2, b3, b4, b5, b6, b7, hus⟩ := list8 HS.out.1.2.2.2.1
    rw [hus] at HS
    clear hus
    obtain ⟨x0, x1, x2, x3, x4, x5, x6, x7⟩ := blk8 HS.out.1.1
    by_cases hlt : k < 8
    · go_wp2_with fail
      refine (times_any [b0, b1, b2, b3, b4, b5, b6, b7] n _ hn rfl (Lib.hid HS.out.1.2.2.2.2) (Lib.hid (by rw [HS.out.2]; exact pow_up n k hn hlt))).mono ?_
      rintro e w1 ⟨ns, rfl, hl, hb, hv, hbel⟩
      clear x0 x1 x2 x3 x4 x5 x6 x7
      obtain ⟨c0, c1, c2, c3, c4, c5, c6, c7, hns⟩ := list8 hl
      subst hns
      have H1 := Lib.hid (HS.out.1.next hbel (by have := HS.out.1.2.1.choose_spec.1.lt; omega))
      have HV := Lib.hid (show valW [c0, c1, c2, c3, c4, c5, c6, c7] = n ^ (k + 1) by rw [hv, HS.out.2, Nat.pow_succ, Nat.mul_comm])
      have HB := Lib.hid hb
      clear hl hb hv hbel HS
      obtain ⟨x0, x1, x2, x3, x4, x5, x6, x7⟩ := blk8 H1.out.1
      obtain ⟨f0, f1, f2, f3, f4, f5, f6, f7⟩ := fz8 H1.out.1
      rw [show ucells [c0, c1, c2, c3, c4, c5, c6, c7] = #[Value.int IntKind.u64 c0, Value.int IntKind.u64 c1, Value.int IntKind.u64 c2, Value.int IntKind.u64 c3, Value.int IntKind.u64 c4, Value.int IntKind.u64 c5, Value.int IntKind.u64 c6, Value.int IntKind.u64 c7] from rfl]
      go_wp2
      clear x0 x1 x2 x3 x4 x5 x6 x7 f0 f1 f2 f3 f4 f5 f6 f7
      go_roundw
      case rel =>
        have hp := put8 c0 c1 c2 c3 c4 c5 c6 c7 H1.out.1 H1.out.2.2.1 (show g ≤ g + 1 by omega)
        obtain ⟨Z, hz, hz8⟩ := H1.out.2.1
        have hz' := (((((((hz.far (p := ⟨g + 1, 0, none⟩) (by simp) (.int .u64 (c0 : Int))).far (p := ⟨g + 1, 1, none⟩) (by simp) (.int .u64 (c1 : Int))).far (p := ⟨g + 1, 2, none⟩) (by simp) (.int .u64 (c2 : Int))).far (p := ⟨g + 1, 3, none⟩) (by simp) (.int .u64 (c3 : Int))).far (p := ⟨g + 1, 4, none⟩) (by simp) (.int .u64 (c4 : Int))).far (p := ⟨g + 1, 5, none⟩) (by simp) (.int .u64 (c5 : Int))).far (p := ⟨g + 1, 6, none⟩) (by simp) (.int .u64 (c6 : Int))).far (p := ⟨g + 1, 7, none⟩) (by simp) (.int .u64 (c7 : Int))
        exact ⟨k + 1, [c0, c1, c2, c3, c4, c5, c6, c7], by go_num, by omega, Lib.hid ⟨⟨hp.1, ⟨Z, hz', hz8⟩, hp.2, rfl, HB.out⟩, HV.out⟩⟩
      case measure => simp [intOf]; omega
    · obtain rfl : k = 8 := by omega
      obtain ⟨Z, hZ, hZ8⟩ := HS.out.1.2.1
      obtain ⟨z0, z1, z2, z3, z4, z5, z6, z7, hz⟩ := list8 hZ8
      rw [hz] at hZ
      have HZ := Lib.hid hZ
      obtain ⟨y0, y1, y2, y3, y4, y5, y6, y7⟩ := blk8 hZ
      obtain ⟨f0, f1, f2, f3, f4, f5, f6, f7⟩ := fz8 hZ
      clear hZ hZ8 hz
      go_wp2_with fail
      have HW := Lib.hid (put8 b0 b1 b2 b3 b4 b5 b6 b7 HZ.out HS.out.1.2.2.1 (Nat.le_refl g))
      generalize World.setCell _ _ _ = w9 at HW ⊢
      clear x0 x1 x2 x3 x4 x5 x6 x7 y0 y1 y2 y3 y4 y5 y6 y7 f0 f1 f2 f3 f4 f5 f6 f7
      obtain ⟨x0, x1, x2, x3, x4, x5, x6, x7⟩ := blk8 HW.out.1
      refine bodyPost_ret (v := .agg (ucells [b0, b1, b2, b3, b4, b5, b6, b7])) (by simp [results, Tryd.results64, go_sem, x0, x1, x2, x3, x4, x5, x6, x7, ucells, uV]) rfl ?_
      exact ⟨_, rfl, rfl, HS.out.1.2.2.2.2, HS.out.2, by rw [← HG.out]; exact HW.out.2⟩
/-- eight times a number's logarithm, rounded down -/
def logN (n : Nat) : Nat := (n ^ 8).log2
theorem log2_words_lt {x j : Nat} (h0 : x ≠ 0) (h : x < 18446744073709551616 ^ j) : x.log2 < 64 * j := (Nat.log2_lt h0).2 (by rw [← pow64]; exact h)
theorem logN_lt (n : Nat) (hn : n < 18446744073709551616) : logN n < 512 := by
  rcases Nat.eq_zero_or_pos n with h | h
  · subst h; decide
  · have hp : n ^ 8 ≠ 0 := by have := Nat.pow_pos (n := 8) h; omega
    exact log2_words_lt (j := 8) hp (Nat.pow_lt_pow_left hn (by omega))
set_option maxHeartbeats 1000000 in
theorem log_any (n : Nat) (w : World) (hn : n < 18446744073709551616) :
    Calls Tryd.prog 58 #[.int .u64 (n : Int)] w fun e w' => e = .returned (.int .i64 (logN n : Int)) ∧ Below w.heap.size w w' := by
  by_cases h0 : n = 0
  · subst h0
    rw [show logN 0 = 0 by decide]
    go_enter Tryd.func58, Tryd.ntmps58
    go_wp2
    go_ret
    exact ⟨rfl, Below.refl _ _⟩
  · have h0' : ((n : Int) == 0) = false := by simp; omega
    have hlt := logN_lt n hn
    obtain ⟨L, hL⟩ : ∃ L, logN n = L := ⟨_, rfl⟩
    rw [hL] at hlt ⊢
    have HL := Lib.hid hL
    clear hL
    go_enter Tryd.func58, Tryd.ntmps58
    go_wp2_with fail
    refine (eighth_any n _ hn).mono ?_
    rintro e w1 ⟨us, rfl, hl, hb, hv, hbel⟩
    go_wp2_with fail
    refine (length_any us _ hl (Lib.hid hb) (Lib.hid (by rw [hv]; exact Nat.pow_pos (by omega)))).mono ?_
    rintro e w2 ⟨rfl, hbel2⟩
    rw [show (valW us).log2 + 1 = L + 1 by rw [hv, ← HL.out]; rfl]
    have HB := Lib.hid (hbel.trans (hbel2.mono hbel.size))
    clear hv hb hbel hbel2
    go_wp2
    go_ret
    exact ⟨rfl, HB.out⟩
end Go.Proofs.YtcnckamocbaceaaDoor.Fx
/- Se -/
namespace Go.Proofs.YtcnckamocbaceaaDoor.Fx
open Go.RowKit
theorem below_of_drewN (w : World) (q : Nat) : Below w.heap.size w (w.drewN q) := below_drewN (Below.refl _ _) q
end Go.Proofs.YtcnckamocbaceaaDoor.Fx
/- Sf -/
namespace Go.Proofs.YtcnckamocbaceaaDoor.Fx
open Go.RowKit
/-- a remainder that is brought up -/
theorem rem_up (x : Int) (M : Nat) (hM : 1 ≤ M) : ∃ (t : Int) (s : Nat), x.tmod (M : Int) = t ∧ -(M : Int) < t ∧ t < (M : Int) ∧ (t + (M : Int)).tmod (M : Int) = (s : Int) ∧ s < M := by
  have h := (tdm x (M : Int) (by omega)).2
  generalize x.tmod (M : Int) = t at h
  refine ⟨t, (t + (M : Int)).toNat % M, rfl, by omega, by omega, ?_, Nat.mod_lt _ hM⟩
  rw [Int.tmod_eq_emod_of_nonneg (by omega)]
  have : t + (M : Int) = ((t + (M : Int)).toNat : Int) := by omega
  rw [this]
  simp
theorem bwN_up (s : Nat) (h : s < 62) : bwN ((s : Int) + 1) = s := by unfold bwN holdI; omega
theorem satI_up (v : Int) (s P : Nat) (h : s < 62) (hP : 2 ^ s = P) : satI v ((s : Int) + 1) = holdI v (-(P : Int)) ((P : Int) - 1) := by
  unfold satI; rw [bwN_up s h, hP]
theorem satI_up' (v : Int) (s P : Nat) (h : s < 62) (hP : 2 ^ s = P) : satI v (1 + (s : Int)) = holdI v (-(P : Int)) ((P : Int) - 1) := by
  rw [Int.add_comm]; exact satI_up v s P h hP
theorem logN_mono {n m : Nat} (h : n ≤ m) : logN n ≤ logN m := by
  unfold logN
  rcases Nat.eq_zero_or_pos n with h0 | h0
  · subst h0; simp
  · have h1 := (log2_in (Nat.pow_pos (n := 8) h0)).1
    exact (Nat.le_log2 (by have : 0 < m ^ 8 := Nat.pow_pos (by omega); omega)).2 (Nat.le_trans h1 (Nat.pow_le_pow_left h 8))
theorem wrap64_in {x : Int} (h1 : -9223372036854775808 ≤ x) (h2 : x ≤ 9223372036854775807) : wrap64 x = x := by unfold wrap64; omega
theorem min_cast (n m : Nat) : min (n : Int) (m : Int) = ((min n m : Nat) : Int) := by omega
theorem max_cast (n m : Nat) : max (n : Int) (m : Int) = ((max n m : Nat) : Int) := by omega
theorem holdI_in (v a b : Int) (h : a ≤ b) : a ≤ holdI v a b ∧ holdI v a b ≤ b := by unfold holdI; omega
theorem holdI_again (v a b : Int) (h1 : a ≤ v) (h2 : v ≤ b) : holdI v a b = v := by unfold holdI; omega
theorem holdI_mono {v u : Int} (a b : Int) (h : v ≤ u) : holdI v a b ≤ holdI u a b := by unfold holdI; omega
theorem holdI_cases (v a b : Int) (h : a ≤ b) : (v ≤ b ∧ a ≤ v ∧ holdI v a b = v) ∨ (b < v ∧ holdI v a b = b) ∨ (v < a ∧ holdI v a b = a) := by unfold holdI; omega
end Go.Proofs.YtcnckamocbaceaaDoor.Fx
/- Sg -/
namespace Go.Proofs.YtcnckamocbaceaaDoor.Fx
open Go.RowKit
theorem logN_twice (n : Nat) (h : 0 < n) : logN (2 * n) = logN n + 8 := by
  unfold logN
  have h8 : 0 < n ^ 8 := Nat.pow_pos h
  have := log2_shift (x := n ^ 8) (s := 8) (r := 0) h8 (by omega)
  rw [Nat.zero_add] at this
  rw [Nat.mul_pow, this]
  omega
theorem logN_square (n : Nat) (h : 0 < n) : logN (n * n) = 2 * logN n ∨ logN (n * n) = 2 * logN n + 1 := by
  unfold logN
  have h8 : 0 < n ^ 8 := Nat.pow_pos h
  rw [Nat.mul_pow]
  obtain ⟨h1, h2⟩ := log2_in h8
  generalize n ^ 8 = x at h8 h1 h2
  have h3 := Nat.mul_le_mul h1 h1
  have h4 : x * x < 2 ^ (x.log2 + 1) * 2 ^ (x.log2 + 1) := Nat.mul_lt_mul'' h2 h2
  rw [← Nat.pow_add] at h3 h4
  have hp : 0 < x * x := Nat.mul_pos h8 h8
  have h5 : 2 * x.log2 ≤ (x * x).log2 := (Nat.le_log2 (by omega)).2 (by rw [Nat.two_mul]; exact h3)
  have h6 : (x * x).log2 < 2 * x.log2 + 2 := (Nat.log2_lt (by omega)).2 (by rw [show 2 * x.log2 + 2 = x.log2 + 1 + (x.log2 + 1) by omega]; exact h4)
  omega
theorem log_anyI (z : Int) (n : Nat) (hz : z = (n : Int)) (w : World) (hn : n < 18446744073709551616) : Calls Tryd.prog 58 #[.int .u64 z] w fun e w' => e = .returned (.int .i64 (logN n : Int)) ∧ Below w.heap.size w w' := by
  subst hz; exact log_any n w hn
/-- what a root is, in whole numbers -/
theorem root_int {n r : Nat} (h : IsRt n r) (hn : n < 18446744073709551616) : ∃ x y q z : Int, (r : Int) = x ∧ 0 ≤ x ∧ x ≤ 4294967295 ∧ x * x = y ∧ 0 ≤ y ∧ y ≤ (n : Int) ∧ x + 1 = q ∧ q * q = z ∧ (n : Int) < z ∧ (x < 4294967295 → z < 18446744073709551616) := by
  have r2 := h.lt hn
  refine ⟨_, ((r * r : Nat) : Int), ((r + 1 : Nat) : Int), (((r + 1) * (r + 1) : Nat) : Int), rfl, by omega, by omega, by simp, by omega, ?_, by simp, by simp, ?_, ?_⟩
  · exact Int.ofNat_le.2 h.1
  · exact Int.ofNat_lt.2 h.2
  · intro hx
    have := Nat.mul_le_mul (show r + 1 ≤ 4294967295 by omega) (show r + 1 ≤ 4294967295 by omega)
    omega
end Go.Proofs.YtcnckamocbaceaaDoor.Fx
/- Si -/
namespace Go.Proofs.YtcnckamocbaceaaDoor.Fx
open Go.RowKit
theorem hold_flip (v a b : Int) (h : a ≤ b) : min (max v a) b = holdI v a b := by unfold holdI; omega
theorem hold_bits (b : Int) : min (max b 1) 62 = (bwN b : Int) + 1 := by
  have h1 := bwN_is b
  have h2 := hold_flip b 1 62 (by omega)
  omega
/-- the bit that falls off first -/
theorem half_bit (v : Int) (P : Nat) (p1 : 1 ≤ P) : v / (P : Int) % 2 = if (P : Int) ≤ v - v / (2 * (P : Int)) * (2 * (P : Int)) then 1 else 0 := by
  have e2 : v / (2 * (P : Int)) = v / (P : Int) / 2 := by rw [Int.mul_comm, Int.ediv_ediv_of_nonneg (by omega)]
  rw [e2]
  have e3 := Int.mul_ediv_add_emod v (P : Int)
  have e4 := Int.emod_nonneg v (show (P : Int) ≠ 0 by omega)
  have e5 := Int.emod_lt_of_pos v (show 0 < (P : Int) by omega)
  generalize v / (P : Int) = d at *
  generalize v % (P : Int) = ρ at *
  obtain ⟨f, hf⟩ : ∃ f, d / 2 = f := ⟨_, rfl⟩
  rw [hf]
  have e6 : f * (2 * (P : Int)) = (P : Int) * (2 * f) := by rw [Int.mul_comm f, Int.mul_assoc, Int.mul_left_comm]
  rw [e6]
  rcases (show d % 2 = 0 ∨ d % 2 = 1 by omega) with g | g
  · have hd : 2 * f = d := by omega
    rw [g, hd, if_neg (by omega)]
  · have hd : d = 2 * f + 1 := by omega
    rw [hd, Int.mul_add, Int.mul_one] at e3
    rw [g, if_pos (by omega)]
theorem floor_in (v : Int) (k Q : Nat) (hk : k ≤ 62) (hQ : 2 ^ k = Q) (hv : -9223372036854775808 ≤ v ∧ v ≤ 9223372036854775807) : ∃ x y : Int, v / (Q : Int) = x ∧ x * (Q : Int) = y ∧ -9223372036854775808 ≤ y ∧ y ≤ v ∧ v - y < (Q : Int) := by
  have q1 : 1 ≤ Q := by rw [← hQ]; exact Nat.pow_pos (by omega)
  have e3 := Int.mul_ediv_add_emod v (Q : Int)
  have e4 := Int.emod_nonneg v (show (Q : Int) ≠ 0 by omega)
  have e5 := Int.emod_lt_of_pos v (show 0 < (Q : Int) by omega)
  have e6 : v / (Q : Int) * (Q : Int) = (Q : Int) * (v / (Q : Int)) := Int.mul_comm _ _
  refine ⟨_, _, rfl, rfl, ?_, by omega, by omega⟩
  have hd : (2 ^ (63 - k) : Nat) * Q = 9223372036854775808 := by rw [← hQ, ← Nat.pow_add, show 63 - k + k = 63 by omega]
  have hd' : ((2 ^ (63 - k) : Nat) : Int) * (Q : Int) = 9223372036854775808 := by rw [← Int.natCast_mul, hd]; rfl
  have h1 : -((2 ^ (63 - k) : Nat) : Int) ≤ v / (Q : Int) := Int.le_ediv_of_mul_le (by omega) (by rw [Int.neg_mul, hd']; exact hv.1)
  have h2 := Int.mul_le_mul_of_nonneg_right h1 (show 0 ≤ (Q : Int) by omega)
  rw [Int.neg_mul, hd'] at h2
  exact h2
set_option maxHeartbeats 2000000 in
theorem rround_any (v b : Int) (w : World) (hv : -9223372036854775808 ≤ v ∧ v ≤ 9223372036854775807) :
    Calls Tryd.prog 45 #[.int .i64 v, .int .i64 b] w fun e w' => e = .returned (.int .i64 (roundI v b)) ∧ w = w' := by
  by_cases h1 : b < 1
  · have HR := Lib.hid (show roundI v b = v by unfold roundI; rw [if_pos h1])
    go_enter Tryd.func45, Tryd.ntmps45
    go_wp2
    go_ret
    exact ⟨by rw [HR.out]; rfl, rfl⟩
  · by_cases h2 : 62 < b
    · have HR := Lib.hid (show roundI v b = 0 by unfold roundI; rw [if_neg h1, if_pos h2])
      go_enter Tryd.func45, Tryd.ntmps45
      go_wp2
      go_ret
      exact ⟨by rw [HR.out]; rfl, rfl⟩
    · obtain ⟨k, hk⟩ : ∃ k : Nat, (k : Int) + 1 = b := ⟨(b - 1).toNat, by omega⟩
      subst hk
      have k61 : k ≤ 61 := by omega
      obtain ⟨P, hP⟩ : ∃ P, 2 ^ k = P := ⟨_, rfl⟩
      obtain ⟨Q, hQ⟩ : ∃ Q, 2 ^ (k + 1) = Q := ⟨_, rfl⟩
      obtain ⟨p1, p2⟩ := p61 k61
      rw [hP] at p1 p2
      have hPQ : (Q : Int) = 2 * (P : Int) := by rw [← hQ, Nat.pow_succ, hP]; omega
      obtain ⟨x, y, hx, hy, y1, y2, y3⟩ := floor_in v (k + 1) Q (by omega) hQ hv
      have HR := Lib.hid (show roundI v ((k : Int) + 1) = x + if (P : Int) ≤ v - y then 1 else 0 by
        have hh := half_bit v P p1
        rw [← hPQ, hx, hy] at hh
        unfold roundI
        rw [if_neg h1, if_neg h2, show (((k : Int) + 1).toNat) = k + 1 by omega, show k + 1 - 1 = k by omega, hP, hQ, hx, hh])
      obtain ⟨h1', h2'⟩ := hv
      have x1 : -4611686018427387904 ≤ x := by rw [← hx]; exact Int.le_ediv_of_mul_le (by omega) (by omega)
      have x2 : x < 4611686018427387904 := by rw [← hx]; exact Int.ediv_lt_of_lt_mul (by omega) (by omega)
      obtain ⟨o, ho⟩ : ∃ o, v - y = o := ⟨_, rfl⟩
      rw [ho] at HR y3
      have o1 : 0 ≤ o := by omega
      have o2 : o < 4611686018427387904 := by omega
      have hp := pow_cast k
      have hq := pow_cast (k + 1)
      rw [hP] at hp
      rw [hQ] at hq
      have e1 : (k : Int) + 1 - 1 = (k : Int) := by omega
      clear h1 h2 hP hQ hPQ y3
      by_cases hc : (P : Int) ≤ o
      · rw [if_pos hc] at HR
        go_enter Tryd.func45, Tryd.ntmps45
        go_wp2
        go_ret
        exact ⟨by rw [HR.out]; rfl, rfl⟩
      · rw [if_neg hc, Int.add_zero] at HR
        go_enter Tryd.func45, Tryd.ntmps45
        go_wp2
        go_ret
        exact ⟨by rw [HR.out]; rfl, rfl⟩
set_option maxHeartbeats 1000000 in
theorem rdiv_any (a b : Int) (w : World) (ha : -9223372036854775808 ≤ a ∧ a ≤ 9223372036854775807) (hb : b ≤ 9223372036854775807) :
    Calls Tryd.prog 37 #[.int .i64 a, .int .i64 b] w fun e w' => e = .returned (divV a b) ∧ w = w' := by
  by_cases h1 : b < 1
  · have HR := Lib.hid (show divV a b = .tuple #[.int .i64 0, .int .i64 1] by unfold divV; rw [if_pos h1])
    go_enter Tryd.func37, Tryd.ntmps37
    go_wp2
    go_ret2
    exact ⟨by rw [HR.out]; rfl, rfl⟩
  · have HR := Lib.hid (show divV a b = .tuple #[.int .i64 (divI a b), .int .i64 0] by unfold divV; rw [if_neg h1])
    have b0 : ¬ b = 0 := by omega
    have b0' : (b == 0) = false := by simp; omega
    have h1' : 1 ≤ b := by omega
    obtain ⟨q, hq⟩ : ∃ q, a.tdiv b = q := ⟨_, rfl⟩
    obtain ⟨r, hr⟩ : ∃ r, a.tmod b = r := ⟨_, rfl⟩
    have ht := tdm a b h1'
    have HD := Lib.hid (show divI a b = divQ b q r by rw [← hq, ← hr]; rfl)
    rw [hq, hr] at ht
    obtain ⟨ht1, ht2⟩ := ht
    have HT := Lib.hid ht1
    clear ht1
    have r1 : -b < r := by omega
    have r2 : r < b := by omega
    have q1 : -9223372036854775808 ≤ q := by omega
    have q2 : q ≤ 9223372036854775807 := by omega
    have q3 : 0 < r → b - r ≤ r → q < 9223372036854775807 := by
      intro g1 g2
      have hb2 : 2 ≤ b := by omega
      have : 2 * q ≤ b * q := Int.mul_le_mul_of_nonneg_right hb2 (by omega)
      have := HT.out
      omega
    have q4 : r < 0 → b + r ≤ -r → -9223372036854775808 < q := by
      intro g1 g2
      have hb2 : 2 ≤ b := by omega
      have g3 : 2 * (-q) ≤ b * (-q) := Int.mul_le_mul_of_nonneg_right hb2 (by omega)
      have g4 : b * (-q) = -(b * q) := Int.mul_neg b q
      have := HT.out
      omega
    have HQ3 := Lib.hid q3
    have HQ4 := Lib.hid q4
    have HA := Lib.hid ht2
    clear ht2 q3 q4
    by_cases c3 : r < 0
    · have a3 : a < 0 := by
        rcases Int.lt_or_le a 0 with h | h
        · exact h
        · have h1 := HA.out
          have h2 := HT.out
          have hq0 : q = 0 := by omega
          rw [hq0, Int.mul_zero] at h2
          omega
      by_cases c2 : b + r ≤ -r
      · have q5 := HQ4.out c3 c2
        have c4 : b - -r ≤ -r := by omega
        have HE := Lib.hid (show divQ b q r = q - 1 by unfold divQ; rw [if_neg (fun h => by have := h.1; omega), if_pos ⟨c3, c2⟩])
        go_enter Tryd.func37, Tryd.ntmps37
        go_wp2
        go_ret2
        exact ⟨by rw [HR.out, HD.out, HE.out]; rfl, rfl⟩
      · have c4 : ¬ b - -r ≤ -r := by omega
        have HE := Lib.hid (show divQ b q r = q by unfold divQ; rw [if_neg (fun h => by have := h.1; omega), if_neg (fun h => c2 h.2)])
        go_enter Tryd.func37, Tryd.ntmps37
        go_wp2
        go_ret2
        exact ⟨by rw [HR.out, HD.out, HE.out]; rfl, rfl⟩
    · by_cases c2 : b - r ≤ r
      · have c1 : 0 < r := by omega
        have q5 := HQ3.out c1 c2
        have a3 : ¬ a < 0 := by have := HA.out; omega
        have HE := Lib.hid (show divQ b q r = q + 1 by unfold divQ; rw [if_pos ⟨c1, c2⟩])
        go_enter Tryd.func37, Tryd.ntmps37
        go_wp2
        go_ret2
        exact ⟨by rw [HR.out, HD.out, HE.out]; rfl, rfl⟩
      · have HE := Lib.hid (show divQ b q r = q by unfold divQ; rw [if_neg (fun h => c2 h.2), if_neg (fun h => c3 h.1)])
        go_enter Tryd.func37, Tryd.ntmps37
        go_wp2
        go_ret2
        exact ⟨by rw [HR.out, HD.out, HE.out]; rfl, rfl⟩
end Go.Proofs.YtcnckamocbaceaaDoor.Fx
/- Sk -/
namespace Go.Proofs.YtcnckamocbaceaaDoor.Fx
open Go.RowKit
theorem or_pow (q i : Nat) : (2 ^ (i + 1) * q) ||| 2 ^ i = 2 ^ (i + 1) * q + 2 ^ i :=
  (Nat.two_pow_add_eq_or_of_lt (b := 2 ^ i) (i := i + 1) (Nat.pow_lt_pow_right (by omega) (by omega)) q).symm
/-- the number that digits of 32 bits are, the lowest first -/
def valD : List Nat → Nat
  | [] => 0
  | x :: l => x + 4294967296 * valD l
theorem valD_append (l m : List Nat) : valD (l ++ m) = valD l + 4294967296 ^ l.length * valD m := by
  induction l with
  | nil => simp [valD]
  | cons y l ih =>
    simp only [List.cons_append, valD, ih, List.length_cons, Nat.pow_succ]
    rw [Nat.mul_add, Nat.mul_comm (4294967296 ^ l.length) 4294967296, ← Nat.mul_assoc]
    omega
theorem valD_lt (l : List Nat) (h : ∀ x ∈ l, x < 4294967296) : valD l < 4294967296 ^ l.length := by
  induction l with
  | nil => simp [valD]
  | cons y l ih =>
    have h1 := ih (fun x hx => h x (by simp [hx]))
    have h2 := h y (by simp)
    simp only [valD, List.length_cons, Nat.pow_succ]
    omega
theorem valD_zero (l : List Nat) (h : ∀ x ∈ l, x = 0) : valD l = 0 := by
  induction l with
  | nil => rfl
  | cons y l ih => simp only [valD]; rw [h y (by simp), ih (fun x hx => h x (by simp [hx]))]
/-- one digit another -/
theorem valD_set (l : List Nat) (p y x : Nat) (h : l[p]? = some y) : valD (l.set p x) + 4294967296 ^ p * y = valD l + 4294967296 ^ p * x := by
  induction l generalizing p with
  | nil => simp at h
  | cons z l ih =>
    cases p with
    | zero =>
      simp only [List.getElem?_cons_zero, Option.some.injEq] at h
      subst h
      simp only [List.set_cons_zero, valD]
      omega
    | succ p =>
      simp only [List.getElem?_cons_succ] at h
      have := ih p h
      simp only [List.set_cons_succ, valD, Nat.pow_succ]
      rw [Nat.mul_comm (4294967296 ^ p) 4294967296, Nat.mul_assoc, Nat.mul_assoc]
      omega
theorem pow32 (k : Nat) : 4294967296 ^ k = 2 ^ (32 * k) := by rw [Nat.pow_mul]
theorem log2_digits {us : List Nat} {j x : Nat} (hx : us[j]? = some x) (h0 : 0 < x) (hb : ∀ y ∈ us, y < 4294967296) (hz : ∀ y ∈ us.drop (j + 1), y = 0) : (valD us).log2 = 32 * j + x.log2 := by
  have hj : j < us.length := by
    rcases Nat.lt_or_ge j us.length with h | h
    · exact h
    · rw [List.getElem?_eq_none h] at hx; cases hx
  have e : us = us.take j ++ ([x] ++ us.drop (j + 1)) := by
    rw [← List.append_assoc, ← take_snocW us j x hx, List.take_append_drop]
  have hl : (us.take j).length = j := by rw [List.length_take]; omega
  have hv : valD us = valD (us.take j) + 2 ^ (32 * j) * x := by
    conv => lhs; rw [e]
    rw [valD_append, valD_append, valD_zero _ hz, hl, pow32]
    simp [valD]
  have hlt := valD_lt (us.take j) (fun y hy => hb y (List.mem_of_mem_take hy))
  rw [hl, pow32] at hlt
  rw [hv, log2_shift h0 hlt]
/-- the slice value '.slice A n c' reads as the words us -/
def RdU (w : World) (A : Option Addr) (us : List Nat) : Prop := ∃ ad, A = some ad ∧ ∀ (j x : Nat), us[j]? = some x → w.cell? (ad.add j) = some (.int .u64 (x : Int))
theorem RdU.keep {w w' : World} {A : Option Addr} {us : List Nat} (h : RdU w A us) (hk : ∀ p : Addr, p.block < w.heap.size → w'.cell? p = w.cell? p) : RdU w' A us := by
  obtain ⟨ad, e, hc⟩ := h
  exact ⟨ad, e, fun j x hx => (hk _ (World.block_lt_of_cell? _ _ (hc j x hx))).trans (hc j x hx)⟩
theorem RdU.below {w w' : World} {A : Option Addr} {us : List Nat} (h : RdU w A us) (hb : Below w.heap.size w w') : RdU w' A us := h.keep fun _ hp => hb.cell hp
theorem RdU.of_blk {w : World} {g : Nat} {t : TypeId} {us : List Nat} (h : Blk w g t (ucells us)) : RdU w (some ⟨g, 0, none⟩) us :=
  ⟨_, rfl, fun j x hx => by rw [add_own, h.cell]; exact ucells_get hx⟩
end Go.Proofs.YtcnckamocbaceaaDoor.Fx
/- Sl -/
namespace Go.Proofs.YtcnckamocbaceaaDoor.Fx
open Go.RowKit
theorem info_u64 : (Tryd.prog.info? 64).map (fun i => (i.zero, i.size, i.bytes)) = some (some (.int .u64 0), 1, 8) := by kernel_rfl
theorem ucells_zero (m : Nat) : madeCells #[Value.int .u64 0] m = ucells (List.replicate m 0) := by
  refine Array.ext (by simp [madeCells, ucells]) fun i h1 h2 => ?_
  simp [madeCells, ucells, uV, Nat.mod_one]
/-- the digits so far: those from place z on are 0 -/
def SqB (w : World) (g M z : Nat) (os : List Nat) (wr : World) : Prop :=
  Blk wr g 64 (ucells os) ∧ os.length = M ∧ (∀ x ∈ os, x < 4294967296) ∧ (∀ y ∈ os.drop z, y = 0) ∧ Below w.heap.size w wr
theorem mem_set_lt {l : List Nat} {p x B : Nat} (h : ∀ y ∈ l, y < B) (hx : x < B) : ∀ y ∈ l.set p x, y < B := by
  intro y hy
  rcases List.mem_or_eq_of_mem_set hy with h1 | h1
  · exact h y h1
  · rw [h1]; exact hx
theorem SqB.put {w : World} {g M z : Nat} {os : List Nat} {wr : World} (h : SqB w g M z os wr) (hg : w.heap.size ≤ g) {p x : Nat} (hp : p < z) (hx : x < 4294967296) : SqB w g M z (os.set p x) (wr.setCell ⟨g, p, none⟩ (.int .u64 (x : Int))) := by
  obtain ⟨h1, h2, h3, h4, h5⟩ := h
  exact ⟨h1.putU p x, by rw [List.length_set]; exact h2, mem_set_lt h3 hx, by rw [List.drop_set_of_lt hp]; exact h4, h5.setCell hg _⟩
theorem SqB.last {w : World} {g M z : Nat} {os : List Nat} {wr : World} (h : SqB w g M z os wr) (hg : w.heap.size ≤ g) {x : Nat} (hx : x < 4294967296) : SqB w g M (z + 1) (os.set z x) (wr.setCell ⟨g, z, none⟩ (.int .u64 (x : Int))) := by
  obtain ⟨h1, h2, h3, h4, h5⟩ := h
  refine ⟨h1.putU z x, by rw [List.length_set]; exact h2, mem_set_lt h3 hx, ?_, h5.setCell hg _⟩
  rw [List.drop_set_of_lt (by omega)]
  intro y hy
  refine h4 y ?_
  rw [show os.drop (z + 1) = (os.drop z).drop 1 by rw [List.drop_drop]] at hy
  exact List.mem_of_mem_drop hy
theorem SqB.at_ {w : World} {g M z : Nat} {os : List Nat} {wr : World} (h : SqB w g M z os wr) {p : Nat} (hp : p < M) : ∃ y, os[p]? = some y ∧ y < 4294967296 ∧ wr.cell? ⟨g, p, none⟩ = some (.int .u64 (y : Int)) ∧ wr.frozen? ⟨g, p, none⟩ = false := by
  have hl : p < os.length := by rw [h.2.1]; exact hp
  exact ⟨os[p], List.getElem?_eq_getElem hl, h.2.2.1 _ (List.getElem_mem hl), (h.1.cell p).trans (ucells_get (List.getElem?_eq_getElem hl)), h.1.frozen p⟩
theorem SqB.zero {w : World} {g M z : Nat} {os : List Nat} {wr : World} (h : SqB w g M z os wr) {y : Nat} (hy : os[z]? = some y) : y = 0 := by
  refine h.2.2.2.1 y ?_
  have : (os.drop z)[0]? = some y := by rw [List.getElem?_drop]; exact hy
  exact List.mem_of_getElem? this
theorem sqb_start (w : World) (M z : Nat) : SqB w w.heap.size M z (List.replicate M 0) (w.alloc (.cells (madeCells #[Value.int .u64 0] M) 64)) := by
  rw [ucells_zero]
  refine ⟨Blk.new w _ _, by simp, ?_, ?_, (Below.refl _ _).alloc (Nat.le_refl _) _⟩
  · intro x hx; rw [List.eq_of_mem_replicate hx]; omega
  · intro x hx; exact List.eq_of_mem_replicate (List.mem_of_mem_drop hx)
def SqP (w : World) (ds : List Nat) (e : Ending) (w' : World) : Prop :=
  ∃ g us, e = .returned (.slice (some ⟨g, 0, none⟩) us.length us.length) ∧ us.length = 2 * ds.length ∧ (∀ x ∈ us, x < 4294967296) ∧ valD us = valD ds * valD ds ∧ Blk w' g 64 (ucells us) ∧ Below w.heap.size w w'
/-- one digit more of a row -/
theorem sq_step (V0 V1 V2 P a b y c X h l S : Nat) (hX : a * b + y + c = X) (hl : X % 4294967296 = l) (hh : X / 4294967296 = h) (hset : V2 + P * y = V1 + P * l) (hi : V1 + P * c = V0 + S) :
    V2 + P * 4294967296 * h = V0 + (S + P * (a * b)) := by
  have e1 : 4294967296 * h + l = a * b + y + c := by omega
  have e2 : P * 4294967296 * h + P * l = P * (a * b) + P * y + P * c := by
    rw [Nat.mul_assoc, ← Nat.mul_add, e1, Nat.mul_add, Nat.mul_add]
  omega
end Go.Proofs.YtcnckamocbaceaaDoor.Fx
/- Sm -/
namespace Go.Proofs.YtcnckamocbaceaaDoor.Fx
open Go.RowKit
/-- how many bits a number has -/
def blen (x : Nat) : Nat := if x = 0 then 0 else x.log2 + 1
theorem blen_half {x : Nat} (h : 0 < x) : blen (x / 2) + 1 = blen x := by
  unfold blen
  rw [if_neg (show ¬ x = 0 by omega), Nat.log2_def x]
  by_cases h2 : 2 ≤ x
  · rw [if_neg (by omega), if_pos h2]
  · rw [if_pos (by omega), if_neg h2]
theorem words_dropD {us : List Nat} {j x : Nat} (hx : us[j]? = some x) (h0 : x = 0) (hz : ∀ y ∈ us.drop (j + 1), y = 0) : ∀ y ∈ us.drop j, y = 0 := words_drop hx h0 hz
end Go.Proofs.YtcnckamocbaceaaDoor.Fx
