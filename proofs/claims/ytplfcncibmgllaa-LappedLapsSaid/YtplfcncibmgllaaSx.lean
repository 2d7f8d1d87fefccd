/-
  Own texts, laid together: Si, Sk.
-/
import Derived.Test.YtplfcncibmgllaaSb
/- Si -/
namespace Go.Proofs.Ytplfcncibmgllaa.Fx
open Go.RowKit
theorem hold_flip (v a b : Int) (h : a ≤ b) : min (max v a) b = holdI v a b := by unfold holdI; omega
theorem hold_bits (b : Int) : min (max b 1) 62 = (bwN b : Int) + 1 := by
  have h1 := bwN_is b
  have h2 := hold_flip b 1 62 (by omega)
  omega
set_option maxRecDepth 100000 in
set_option maxHeartbeats 1000000 in
theorem rsat_any (v b : Int) (w : World) :
    Calls Try.prog 17 #[.int .i64 v, .int .i64 b] w fun e w' => e = .returned (.int .i64 (satI v b)) ∧ w = w' := by
  obtain ⟨s, hs⟩ : ∃ s, s = bwN b := ⟨_, rfl⟩
  have h61 : s ≤ 61 := by rw [hs]; exact bwN_le b
  have hb : min (max b 1) 62 = (s : Int) + 1 := by rw [hs]; exact hold_bits b
  have HS := Lib.hid (show satI v b = holdI v (-((2 ^ s : Nat) : Int)) (((2 ^ s : Nat) : Int) - 1) by rw [hs]; rfl)
  clear hs
  go_enter Try.func17, Try.ntmps17
  go_wp2_with fail
  go_loopw [5, 11] (fun vl vi wr => ∃ k : Nat, vl = .int .i64 (-((2 ^ k : Nat) : Int)) ∧ vi = .int .i64 (k : Int) ∧ k ≤ s ∧ wr = w) (fun _ vi _ => s - (intOf vi).toNat)
  case atStart => exact ⟨0, rfl, rfl, by omega, rfl⟩
  case round =>
    obtain ⟨k, rfl, rfl, hk, rfl⟩ := hrel
    obtain ⟨p1, p2⟩ := p61 (show k ≤ 61 by omega)
    obtain ⟨P, hP⟩ : ∃ P, 2 ^ k = P := ⟨_, rfl⟩
    rw [hP] at p1 p2 ⊢
    by_cases hlt : k < s
    · have HN := Lib.hid (show ((2 ^ (k + 1) : Nat) : Int) = 2 * (P : Int) by rw [Nat.pow_succ, hP]; omega)
      clear hP
      have p3 : 2 ^ (k + 1) ≤ 2305843009213693952 := (p61 (show k + 1 ≤ 61 by omega)).2
      have p4 : 2 * P ≤ 2305843009213693952 := by have := HN.out; omega
      clear p3
      obtain ⟨x, hx⟩ : ∃ x, -(P : Int) * 2 = x := ⟨_, rfl⟩
      have x1 : -2305843009213693952 ≤ x := by omega
      have x2 : x ≤ 0 := by omega
      have HX := Lib.hid (show x = -((2 ^ (k + 1) : Nat) : Int) by rw [HN.out]; omega)
      go_wp2
      clear hx
      go_roundw
      case rel => exact ⟨k + 1, by rw [HX.out], by go_num, by omega, trivial⟩
      case measure => simp [intOf]; omega
    · obtain rfl : k = s := by omega
      rw [hP] at HS
      clear hP
      have HF := Lib.hid (hold_flip v (-(P : Int)) ((P : Int) - 1) (by omega))
      have en : -(-(P : Int)) = (P : Int) := by omega
      go_wp2
      go_ret
      exact ⟨by rw [HS.out, ← HF.out]; first | rfl | (simp only [Int.neg_neg]; rfl), rfl⟩
/-- the bit that falls off first -/
theorem half_bit (v : Int) (P : Nat) (p1 : 1 ≤ P) : v / (P : Int) % 2 = if (P : Int) ≤ v - v / (2 * (P : Int)) * (2 * (P : Int)) then 1 else 0 := by
  have e2 : v / (2 * (P : Int)) = v / (P : Int) / 2 := by rw [Int.mul_comm, Int.ediv_ediv_of_nonneg (by omega)]
  rw [e2]
  have e3 := Int.mul_ediv_add_emod v (P : Int)
  have e4 := Int.emod_nonneg v (show (P : Int) ≠ 0 by omega)
  have e5 := Int.emod_lt_of_pos v (show 0 < (P : Int) by omega)
  generalize v / (P : Int) = d at *
  generalize v % (P : Int) = ρ at *
  obtain ⟨f, hf⟩ : ∃ f, d / 2 = f := ⟨_, rfl⟩
  rw [hf]
  have e6 : f * (2 * (P : Int)) = (P : Int) * (2 * f) := by rw [Int.mul_comm f, Int.mul_assoc, Int.mul_left_comm]
  rw [e6]
  rcases (show d % 2 = 0 ∨ d % 2 = 1 by omega) with g | g
  · have hd : 2 * f = d := by omega
    rw [g, hd, if_neg (by omega)]
  · have hd : d = 2 * f + 1 := by omega
    rw [hd, Int.mul_add, Int.mul_one] at e3
    rw [g, if_pos (by omega)]
theorem floor_in (v : Int) (k Q : Nat) (hk : k ≤ 62) (hQ : 2 ^ k = Q) (hv : -9223372036854775808 ≤ v ∧ v ≤ 9223372036854775807) : ∃ x y : Int, v / (Q : Int) = x ∧ x * (Q : Int) = y ∧ -9223372036854775808 ≤ y ∧ y ≤ v ∧ v - y < (Q : Int) := by
  have q1 : 1 ≤ Q := by rw [← hQ]; exact Nat.pow_pos (by omega)
  have e3 := Int.mul_ediv_add_emod v (Q : Int)
  have e4 := Int.emod_nonneg v (show (Q : Int) ≠ 0 by omega)
  have e5 := Int.emod_lt_of_pos v (show 0 < (Q : Int) by omega)
  have e6 : v / (Q : Int) * (Q : Int) = (Q : Int) * (v / (Q : Int)) := Int.mul_comm _ _
  refine ⟨_, _, rfl, rfl, ?_, by omega, by omega⟩
  have hd : (2 ^ (63 - k) : Nat) * Q = 9223372036854775808 := by rw [← hQ, ← Nat.pow_add, show 63 - k + k = 63 by omega]
  have hd' : ((2 ^ (63 - k) : Nat) : Int) * (Q : Int) = 9223372036854775808 := by rw [← Int.natCast_mul, hd]; rfl
  have h1 : -((2 ^ (63 - k) : Nat) : Int) ≤ v / (Q : Int) := Int.le_ediv_of_mul_le (by omega) (by rw [Int.neg_mul, hd']; exact hv.1)
  have h2 := Int.mul_le_mul_of_nonneg_right h1 (show 0 ≤ (Q : Int) by omega)
  rw [Int.neg_mul, hd'] at h2
  exact h2
set_option maxHeartbeats 2000000 in
theorem rround_any (v b : Int) (w : World) (hv : -9223372036854775808 ≤ v ∧ v ≤ 9223372036854775807) :
    Calls Try.prog 18 #[.int .i64 v, .int .i64 b] w fun e w' => e = .returned (.int .i64 (roundI v b)) ∧ w = w' := by
  by_cases h1 : b < 1
  · have HR := Lib.hid (show roundI v b = v by unfold roundI; rw [if_pos h1])
    go_enter Try.func18, Try.ntmps18
    go_wp2
    go_ret
    exact ⟨by rw [HR.out]; rfl, rfl⟩
  · by_cases h2 : 62 < b
    · have HR := Lib.hid (show roundI v b = 0 by unfold roundI; rw [if_neg h1, if_pos h2])
      go_enter Try.func18, Try.ntmps18
      go_wp2
      go_ret
      exact ⟨by rw [HR.out]; rfl, rfl⟩
    · obtain ⟨k, hk⟩ : ∃ k : Nat, (k : Int) + 1 = b := ⟨(b - 1).toNat, by omega⟩
      subst hk
      have k61 : k ≤ 61 := by omega
      obtain ⟨P, hP⟩ : ∃ P, 2 ^ k = P := ⟨_, rfl⟩
      obtain ⟨Q, hQ⟩ : ∃ Q, 2 ^ (k + 1) = Q := ⟨_, rfl⟩
      obtain ⟨p1, p2⟩ := p61 k61
      rw [hP] at p1 p2
      have hPQ : (Q : Int) = 2 * (P : Int) := by rw [← hQ, Nat.pow_succ, hP]; omega
      obtain ⟨x, y, hx, hy, y1, y2, y3⟩ := floor_in v (k + 1) Q (by omega) hQ hv
      have HR := Lib.hid (show roundI v ((k : Int) + 1) = x + if (P : Int) ≤ v - y then 1 else 0 by
        have hh := half_bit v P p1
        rw [← hPQ, hx, hy] at hh
        unfold roundI
        rw [if_neg h1, if_neg h2, show (((k : Int) + 1).toNat) = k + 1 by omega, show k + 1 - 1 = k by omega, hP, hQ, hx, hh])
      obtain ⟨h1', h2'⟩ := hv
      have x1 : -4611686018427387904 ≤ x := by rw [← hx]; exact Int.le_ediv_of_mul_le (by omega) (by omega)
      have x2 : x < 4611686018427387904 := by rw [← hx]; exact Int.ediv_lt_of_lt_mul (by omega) (by omega)
      obtain ⟨o, ho⟩ : ∃ o, v - y = o := ⟨_, rfl⟩
      rw [ho] at HR y3
      have o1 : 0 ≤ o := by omega
      have o2 : o < 4611686018427387904 := by omega
      have hp := pow_cast k
      have hq := pow_cast (k + 1)
      rw [hP] at hp
      rw [hQ] at hq
      have e1 : (k : Int) + 1 - 1 = (k : Int) := by omega
      clear h1 h2 hP hQ hPQ y3
      by_cases hc : (P : Int) ≤ o
      · rw [if_pos hc] at HR
        go_enter Try.func18, Try.ntmps18
        go_wp2
        go_ret
        exact ⟨by rw [HR.out]; rfl, rfl⟩
      · rw [if_neg hc, Int.add_zero] at HR
        go_enter Try.func18, Try.ntmps18
        go_wp2
        go_ret
        exact ⟨by rw [HR.out]; rfl, rfl⟩
end Go.Proofs.Ytplfcncibmgllaa.Fx
/- Sk -/
namespace Go.Proofs.Ytplfcncibmgllaa.Fx
open Go.RowKit
theorem or_pow (q i : Nat) : (2 ^ (i + 1) * q) ||| 2 ^ i = 2 ^ (i + 1) * q + 2 ^ i :=
  (Nat.two_pow_add_eq_or_of_lt (b := 2 ^ i) (i := i + 1) (Nat.pow_lt_pow_right (by omega) (by omega)) q).symm
set_option maxRecDepth 100000 in
set_option maxHeartbeats 1000000 in
theorem rsqrt_any (n : Nat) (w : World) (hn : n < 18446744073709551616) :
    Calls Try.prog 49 #[.int .u64 (n : Int)] w (RtP n w) := by
  have HN := Lib.hid hn
  go_enter Try.func49, Try.ntmps49
  go_wp2
  go_loopw [3, 4] (fun vr vi wr => ∃ r k : Nat, vr = .int .u64 (r : Int) ∧ vi = .int .i64 ((k : Int) - 1) ∧ k ≤ 32 ∧ Hid (RtS n k r ∧ ∃ q, r = 2 ^ k * q) ∧ wr = w) (fun _ vi _ => (intOf vi + 1).toNat)
  case atStart => exact ⟨0, 32, rfl, rfl, by omega, Lib.hid ⟨⟨by omega, by have := HN.out; omega, by omega⟩, 0, by simp⟩, rfl⟩
  case round =>
    obtain ⟨r, k, rfl, rfl, hk, HS, rfl⟩ := hrel
    cases k with
    | zero =>
      rw [show (((0 : Nat) : Int) - 1) = -1 from rfl]
      go_wp2
      go_ret
      exact ⟨r, rfl, by have := HS.out.1; exact ⟨this.1, this.2.1⟩, rfl⟩
    | succ k =>
      rw [show (((k + 1 : Nat) : Int) - 1) = (k : Int) by omega]
      obtain ⟨q, hq⟩ := HS.out.2
      obtain ⟨B, hB⟩ : ∃ B, 2 ^ k = B := ⟨_, rfl⟩
      have b1 : 1 ≤ B := by rw [← hB]; exact Nat.pow_pos (by omega)
      have b2 : r + B < 4294967296 := by have := HS.out.1.2.2; rw [Nat.pow_succ] at this; omega
      obtain ⟨X, hX⟩ : ∃ X, X = r + B := ⟨_, rfl⟩
      have hor : bits BinOp.or IntKind.u64 (r : Int) (B : Int) = (X : Int) := by
        rw [u64_or_nat r B (by omega) (by omega), hX, hq, ← hB, or_pow]
      have x2 : X < 4294967296 := by omega
      obtain ⟨Y, hY⟩ : ∃ Y, X * X = Y := ⟨_, rfl⟩
      have y2 : Y < 18446744073709551616 := by
        have := Nat.mul_le_mul (show X ≤ 4294967295 by omega) (show X ≤ 4294967295 by omega)
        omega
      have hy : (X : Int) * (X : Int) = (Y : Int) := by rw [← hY]; simp
      have hp := pow_cast k
      rw [hB] at hp
      have HX := Lib.hid (show X = r + 2 ^ k by rw [hX, hB])
      have HY := Lib.hid (show Y = (r + 2 ^ k) * (r + 2 ^ k) by rw [← hY, hX, hB])
      have HQ := Lib.hid hq
      have b3 : B ≤ 2147483648 := by rw [← hB]; exact Nat.pow_le_pow_right (n := 2) (i := k) (j := 31) (by omega) (by omega)
      clear hX hY hB hq
      by_cases hle : Y ≤ n
      · go_wp2
        go_roundw
        case rel => exact ⟨X, k, rfl, by go_num, by omega, Lib.hid ⟨by rw [HX.out]; exact HS.out.1.take (by rw [← HY.out]; exact hle), 2 * q + 1, by rw [HX.out, HQ.out, Nat.pow_succ, Nat.mul_add, Nat.mul_one, Nat.mul_assoc]⟩, trivial⟩
        case measure => simp [intOf]
      · go_wp2
        go_roundw
        case rel => exact ⟨r, k, rfl, by go_num, by omega, Lib.hid ⟨HS.out.1.leave (by rw [← HY.out]; exact hle), 2 * q, by rw [HQ.out, Nat.pow_succ, Nat.mul_assoc]⟩, trivial⟩
        case measure => simp [intOf]
/-- the number that digits of 32 bits are, the lowest first -/
def valD : List Nat → Nat
  | [] => 0
  | x :: l => x + 4294967296 * valD l
theorem valD_append (l m : List Nat) : valD (l ++ m) = valD l + 4294967296 ^ l.length * valD m := by
  induction l with
  | nil => simp [valD]
  | cons y l ih =>
    simp only [List.cons_append, valD, ih, List.length_cons, Nat.pow_succ]
    rw [Nat.mul_add, Nat.mul_comm (4294967296 ^ l.length) 4294967296, ← Nat.mul_assoc]
    omega
theorem valD_lt (l : List Nat) (h : ∀ x ∈ l, x < 4294967296) : valD l < 4294967296 ^ l.length := by
  induction l with
  | nil => simp [valD]
  | cons y l ih =>
    have h1 := ih (fun x hx => h x (by simp [hx]))
    have h2 := h y (by simp)
    simp only [valD, List.length_cons, Nat.pow_succ]
    omega
theorem valD_zero (l : List Nat) (h : ∀ x ∈ l, x = 0) : valD l = 0 := by
  induction l with
  | nil => rfl
  | cons y l ih => simp only [valD]; rw [h y (by simp), ih (fun x hx => h x (by simp [hx]))]
/-- one digit another -/
theorem valD_set (l : List Nat) (p y x : Nat) (h : l[p]? = some y) : valD (l.set p x) + 4294967296 ^ p * y = valD l + 4294967296 ^ p * x := by
  induction l generalizing p with
  | nil => simp at h
  | cons z l ih =>
    cases p with
    | zero =>
      simp only [List.getElem?_cons_zero, Option.some.injEq] at h
      subst h
      simp only [List.set_cons_zero, valD]
      omega
    | succ p =>
      simp only [List.getElem?_cons_succ] at h
      have := ih p h
      simp only [List.set_cons_succ, valD, Nat.pow_succ]
      rw [Nat.mul_comm (4294967296 ^ p) 4294967296, Nat.mul_assoc, Nat.mul_assoc]
      omega
theorem pow32 (k : Nat) : 4294967296 ^ k = 2 ^ (32 * k) := by rw [Nat.pow_mul]
/-- the slice value '.slice A n c' reads as the words us -/
def RdU (w : World) (A : Option Addr) (us : List Nat) : Prop := ∃ ad, A = some ad ∧ ∀ (j x : Nat), us[j]? = some x → w.cell? (ad.add j) = some (.int .u64 (x : Int))
theorem RdU.keep {w w' : World} {A : Option Addr} {us : List Nat} (h : RdU w A us) (hk : ∀ p : Addr, p.block < w.heap.size → w'.cell? p = w.cell? p) : RdU w' A us := by
  obtain ⟨ad, e, hc⟩ := h
  exact ⟨ad, e, fun j x hx => (hk _ (World.block_lt_of_cell? _ _ (hc j x hx))).trans (hc j x hx)⟩
theorem RdU.below {w w' : World} {A : Option Addr} {us : List Nat} (h : RdU w A us) (hb : Below w.heap.size w w') : RdU w' A us := h.keep fun _ hp => hb.cell hp
end Go.Proofs.Ytplfcncibmgllaa.Fx
