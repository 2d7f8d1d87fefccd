/-
  Own texts, laid together: Sk.
-/
import Derived.Test.YtplfcncibmgllaaDoorSg
/- Sk -/
namespace Go.Proofs.YtplfcncibmgllaaDoor.Fx
open Go.RowKit
theorem or_pow (q i : Nat) : (2 ^ (i + 1) * q) ||| 2 ^ i = 2 ^ (i + 1) * q + 2 ^ i :=
  (Nat.two_pow_add_eq_or_of_lt (b := 2 ^ i) (i := i + 1) (Nat.pow_lt_pow_right (by omega) (by omega)) q).symm
/-- the number that digits of 32 bits are, the lowest first -/
def valD : List Nat → Nat
  | [] => 0
  | x :: l => x + 4294967296 * valD l
theorem valD_append (l m : List Nat) : valD (l ++ m) = valD l + 4294967296 ^ l.length * valD m := by
  induction l with
  | nil => simp [valD]
  | cons y l ih =>
    simp only [List.cons_append, valD, ih, List.length_cons, Nat.pow_succ]
    rw [Nat.mul_add, Nat.mul_comm (4294967296 ^ l.length) 4294967296, ← Nat.mul_assoc]
    omega
theorem valD_lt (l : List Nat) (h : ∀ x ∈ l, x < 4294967296) : valD l < 4294967296 ^ l.length := by
  induction l with
  | nil => simp [valD]
  | cons y l ih =>
    have h1 := ih (fun x hx => h x (by simp [hx]))
    have h2 := h y (by simp)
    simp only [valD, List.length_cons, Nat.pow_succ]
    omega
theorem valD_zero (l : List Nat) (h : ∀ x ∈ l, x = 0) : valD l = 0 := by
  induction l with
  | nil => rfl
  | cons y l ih => simp only [valD]; rw [h y (by simp), ih (fun x hx => h x (by simp [hx]))]
/-- one digit another -/
theorem valD_set (l : List Nat) (p y x : Nat) (h : l[p]? = some y) : valD (l.set p x) + 4294967296 ^ p * y = valD l + 4294967296 ^ p * x := by
  induction l generalizing p with
  | nil => simp at h
  | cons z l ih =>
    cases p with
    | zero =>
      simp only [List.getElem?_cons_zero, Option.some.injEq] at h
      subst h
      simp only [List.set_cons_zero, valD]
      omega
    | succ p =>
      simp only [List.getElem?_cons_succ] at h
      have := ih p h
      simp only [List.set_cons_succ, valD, Nat.pow_succ]
      rw [Nat.mul_comm (4294967296 ^ p) 4294967296, Nat.mul_assoc, Nat.mul_assoc]
      omega
theorem pow32 (k : Nat) : 4294967296 ^ k = 2 ^ (32 * k) := by rw [Nat.pow_mul]
theorem log2_digits {us : List Nat} {j x : Nat} (hx : us[j]? = some x) (h0 : 0 < x) (hb : ∀ y ∈ us, y < 4294967296) (hz : ∀ y ∈ us.drop (j + 1), y = 0) : (valD us).log2 = 32 * j + x.log2 := by
  have hj : j < us.length := by
    rcases Nat.lt_or_ge j us.length with h | h
    · exact h
    · rw [List.getElem?_eq_none h] at hx; cases hx
  have e : us = us.take j ++ ([x] ++ us.drop (j + 1)) := by
    rw [← List.append_assoc, ← take_snocW us j x hx, List.take_append_drop]
  have hl : (us.take j).length = j := by rw [List.length_take]; omega
  have hv : valD us = valD (us.take j) + 2 ^ (32 * j) * x := by
    conv => lhs; rw [e]
    rw [valD_append, valD_append, valD_zero _ hz, hl, pow32]
    simp [valD]
  have hlt := valD_lt (us.take j) (fun y hy => hb y (List.mem_of_mem_take hy))
  rw [hl, pow32] at hlt
  rw [hv, log2_shift h0 hlt]
/-- the slice value '.slice A n c' reads as the words us -/
def RdU (w : World) (A : Option Addr) (us : List Nat) : Prop := ∃ ad, A = some ad ∧ ∀ (j x : Nat), us[j]? = some x → w.cell? (ad.add j) = some (.int .u64 (x : Int))
theorem RdU.keep {w w' : World} {A : Option Addr} {us : List Nat} (h : RdU w A us) (hk : ∀ p : Addr, p.block < w.heap.size → w'.cell? p = w.cell? p) : RdU w' A us := by
  obtain ⟨ad, e, hc⟩ := h
  exact ⟨ad, e, fun j x hx => (hk _ (World.block_lt_of_cell? _ _ (hc j x hx))).trans (hc j x hx)⟩
theorem RdU.below {w w' : World} {A : Option Addr} {us : List Nat} (h : RdU w A us) (hb : Below w.heap.size w w') : RdU w' A us := h.keep fun _ hp => hb.cell hp
theorem RdU.of_blk {w : World} {g : Nat} {t : TypeId} {us : List Nat} (h : Blk w g t (ucells us)) : RdU w (some ⟨g, 0, none⟩) us :=
  ⟨_, rfl, fun j x hx => by rw [add_own, h.cell]; exact ucells_get hx⟩
end Go.Proofs.YtplfcncibmgllaaDoor.Fx
