/-
  Own texts, laid together: Sk.
-/
import Derived.Test.YtcddfmeehehjgaaSg
/- Sk -/
namespace Go.Proofs.Ytcddfmeehehjgaa.Fx
open Go.RowKit
theorem or_pow (q i : Nat) : (2 ^ (i + 1) * q) ||| 2 ^ i = 2 ^ (i + 1) * q + 2 ^ i :=
  (Nat.two_pow_add_eq_or_of_lt (b := 2 ^ i) (i := i + 1) (Nat.pow_lt_pow_right (by omega) (by omega)) q).symm
set_option maxRecDepth 100000 in
set_option maxHeartbeats 1000000 in
theorem rsqrt_any (n : Nat) (w : World) (hn : n < 18446744073709551616) :
    Calls Try.prog 24 #[.int .u64 (n : Int)] w (RtP n w) := by
  have HN := Lib.hid hn
  go_enter Try.func24, Try.ntmps24
  go_wp2
  go_loopw [3, 4] (fun vr vi wr => ∃ r k : Nat, vr = .int .u64 (r : Int) ∧ vi = .int .i64 ((k : Int) - 1) ∧ k ≤ 32 ∧ Hid (RtS n k r ∧ ∃ q, r = 2 ^ k * q) ∧ wr = w) (fun _ vi _ => (intOf vi + 1).toNat)
  case atStart => exact ⟨0, 32, rfl, rfl, by omega, Lib.hid ⟨⟨by omega, by have := HN.out; omega, by omega⟩, 0, by simp⟩, rfl⟩
  case round =>
    obtain ⟨r, k, rfl, rfl, hk, HS, rfl⟩ := hrel
    cases k with
    | zero =>
      rw [show (((0 : Nat) : Int) - 1) = -1 from rfl]
      go_wp2
      go_ret
      exact ⟨r, rfl, by have := HS.out.1; exact ⟨this.1, this.2.1⟩, rfl⟩
    | succ k =>
      rw [show (((k + 1 : Nat) : Int) - 1) = (k : Int) by omega]
      obtain ⟨q, hq⟩ := HS.out.2
      obtain ⟨B, hB⟩ : ∃ B, 2 ^ k = B := ⟨_, rfl⟩
      have b1 : 1 ≤ B := by rw [← hB]; exact Nat.pow_pos (by omega)
      have b2 : r + B < 4294967296 := by have := HS.out.1.2.2; rw [Nat.pow_succ] at this; omega
      obtain ⟨X, hX⟩ : ∃ X, X = r + B := ⟨_, rfl⟩
      have hor : bits BinOp.or IntKind.u64 (r : Int) (B : Int) = (X : Int) := by
        rw [u64_or_nat r B (by omega) (by omega), hX, hq, ← hB, or_pow]
      have x2 : X < 4294967296 := by omega
      obtain ⟨Y, hY⟩ : ∃ Y, X * X = Y := ⟨_, rfl⟩
      have y2 : Y < 18446744073709551616 := by
        have := Nat.mul_le_mul (show X ≤ 4294967295 by omega) (show X ≤ 4294967295 by omega)
        omega
      have hy : (X : Int) * (X : Int) = (Y : Int) := by rw [← hY]; simp
      have hp := pow_cast k
      rw [hB] at hp
      have HX := Lib.hid (show X = r + 2 ^ k by rw [hX, hB])
      have HY := Lib.hid (show Y = (r + 2 ^ k) * (r + 2 ^ k) by rw [← hY, hX, hB])
      have HQ := Lib.hid hq
      have b3 : B ≤ 2147483648 := by rw [← hB]; exact Nat.pow_le_pow_right (n := 2) (i := k) (j := 31) (by omega) (by omega)
      clear hX hY hB hq
      by_cases hle : Y ≤ n
      · go_wp2
        go_roundw
        case rel => exact ⟨X, k, rfl, by go_num, by omega, Lib.hid ⟨by rw [HX.out]; exact HS.out.1.take (by rw [← HY.out]; exact hle), 2 * q + 1, by rw [HX.out, HQ.out, Nat.pow_succ, Nat.mul_add, Nat.mul_one, Nat.mul_assoc]⟩, trivial⟩
        case measure => simp [intOf]
      · go_wp2
        go_roundw
        case rel => exact ⟨r, k, rfl, by go_num, by omega, Lib.hid ⟨HS.out.1.leave (by rw [← HY.out]; exact hle), 2 * q, by rw [HQ.out, Nat.pow_succ, Nat.mul_assoc]⟩, trivial⟩
        case measure => simp [intOf]
/-- the number that digits of 32 bits are, the lowest first -/
def valD : List Nat → Nat
  | [] => 0
  | x :: l => x + 4294967296 * valD l
theorem valD_append (l m : List Nat) : valD (l ++ m) = valD l + 4294967296 ^ l.length * valD m := by
  induction l with
  | nil => simp [valD]
  | cons y l ih =>
    simp only [List.cons_append, valD, ih, List.length_cons, Nat.pow_succ]
    rw [Nat.mul_add, Nat.mul_comm (4294967296 ^ l.length) 4294967296, ← Nat.mul_assoc]
    omega
theorem valD_lt (l : List Nat) (h : ∀ x ∈ l, x < 4294967296) : valD l < 4294967296 ^ l.length := by
  induction l with
  | nil => simp [valD]
  | cons y l ih =>
    have h1 := ih (fun x hx => h x (by simp [hx]))
    have h2 := h y (by simp)
    simp only [valD, List.length_cons, Nat.pow_succ]
    omega
theorem valD_zero (l : List Nat) (h : ∀ x ∈ l, x = 0) : valD l = 0 := by
  induction l with
  | nil => rfl
  | cons y l ih => simp only [valD]; rw [h y (by simp), ih (fun x hx => h x (by simp [hx]))]
/-- one digit another -/
theorem valD_set (l : List Nat) (p y x : Nat) (h : l[p]? = some y) : valD (l.set p x) + 4294967296 ^ p * y = valD l + 4294967296 ^ p * x := by
  induction l generalizing p with
  | nil => simp at h
  | cons z l ih =>
    cases p with
    | zero =>
      simp only [List.getElem?_cons_zero, Option.some.injEq] at h
      subst h
      simp only [List.set_cons_zero, valD]
      omega
    | succ p =>
      simp only [List.getElem?_cons_succ] at h
      have := ih p h
      simp only [List.set_cons_succ, valD, Nat.pow_succ]
      rw [Nat.mul_comm (4294967296 ^ p) 4294967296, Nat.mul_assoc, Nat.mul_assoc]
      omega
theorem pow32 (k : Nat) : 4294967296 ^ k = 2 ^ (32 * k) := by rw [Nat.pow_mul]
theorem log2_digits {us : List Nat} {j x : Nat} (hx : us[j]? = some x) (h0 : 0 < x) (hb : ∀ y ∈ us, y < 4294967296) (hz : ∀ y ∈ us.drop (j + 1), y = 0) : (valD us).log2 = 32 * j + x.log2 := by
  have hj : j < us.length := by
    rcases Nat.lt_or_ge j us.length with h | h
    · exact h
    · rw [List.getElem?_eq_none h] at hx; cases hx
  have e : us = us.take j ++ ([x] ++ us.drop (j + 1)) := by
    rw [← List.append_assoc, ← take_snocW us j x hx, List.take_append_drop]
  have hl : (us.take j).length = j := by rw [List.length_take]; omega
  have hv : valD us = valD (us.take j) + 2 ^ (32 * j) * x := by
    conv => lhs; rw [e]
    rw [valD_append, valD_append, valD_zero _ hz, hl, pow32]
    simp [valD]
  have hlt := valD_lt (us.take j) (fun y hy => hb y (List.mem_of_mem_take hy))
  rw [hl, pow32] at hlt
  rw [hv, log2_shift h0 hlt]
/-- the slice value '.slice A n c' reads as the words us -/
def RdU (w : World) (A : Option Addr) (us : List Nat) : Prop := ∃ ad, A = some ad ∧ ∀ (j x : Nat), us[j]? = some x → w.cell? (ad.add j) = some (.int .u64 (x : Int))
theorem RdU.keep {w w' : World} {A : Option Addr} {us : List Nat} (h : RdU w A us) (hk : ∀ p : Addr, p.block < w.heap.size → w'.cell? p = w.cell? p) : RdU w' A us := by
  obtain ⟨ad, e, hc⟩ := h
  exact ⟨ad, e, fun j x hx => (hk _ (World.block_lt_of_cell? _ _ (hc j x hx))).trans (hc j x hx)⟩
theorem RdU.below {w w' : World} {A : Option Addr} {us : List Nat} (h : RdU w A us) (hb : Below w.heap.size w w') : RdU w' A us := h.keep fun _ hp => hb.cell hp
theorem RdU.of_blk {w : World} {g : Nat} {t : TypeId} {us : List Nat} (h : Blk w g t (ucells us)) : RdU w (some ⟨g, 0, none⟩) us :=
  ⟨_, rfl, fun j x hx => by rw [add_own, h.cell]; exact ucells_get hx⟩
end Go.Proofs.Ytcddfmeehehjgaa.Fx
