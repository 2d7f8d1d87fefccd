/-
  Own texts, laid together: Cm, Bb, Ca, Cb, Cd, Ce, CG, Gj, Fb.
-/
import Derived.Test.YtgpdgegelipboaaGreatDoorP1
set_option linter.unusedSimpArgs false
set_option linter.unusedVariables false
set_option maxRecDepth 100000
namespace Go.Proofs.YtgpdgegelipboaaGreatDoor.Cd
def kind (low high : Nat) : Nat := if high < 2147483648 then 0 else if 2147483648 ≤ low then 1 else if 1073741824 ≤ low ∧ high < 3221225472 then 2 else 3
def takeK (k : Nat) : Nat := if k = 1 then 2147483648 else if k = 2 then 1073741824 else 0
theorem takeK_0 : takeK 0 = 0 := by decide
theorem takeK_1 : takeK 1 = 2147483648 := by decide
theorem takeK_2 : takeK 2 = 1073741824 := by decide
theorem pow32 : (2 : Nat) ^ 32 = 4294967296 := by decide
structure En where
  low : Nat
  high : Nat
  wait : Nat
  out : List Bool
def emit (out : List Bool) (x : Bool) (wait : Nat) : List Bool := out ++ (x :: List.replicate wait (!x))
def stepE (e : En) : En :=
  if kind e.low e.high = 0 then ⟨2 * e.low, 2 * e.high + 1, 0, emit e.out false e.wait⟩
  else if kind e.low e.high = 1 then ⟨2 * (e.low - 2147483648), 2 * (e.high - 2147483648) + 1, 0, emit e.out true e.wait⟩
  else if kind e.low e.high = 2 then ⟨2 * (e.low - 1073741824), 2 * (e.high - 1073741824) + 1, e.wait + 1, e.out⟩
  else e
def widE : Nat → En → En
  | 0, e => e
  | n + 1, e => if kind e.low e.high = 3 then e else widE n (stepE e)
def Ok (low high : Nat) : Prop := low ≤ high ∧ high < 4294967296
theorem kind_cases (low high : Nat) : (kind low high = 0 ∧ high < 2147483648) ∨ (kind low high = 1 ∧ 2147483648 ≤ high ∧ 2147483648 ≤ low) ∨ (kind low high = 2 ∧ 2147483648 ≤ high ∧ low < 2147483648 ∧ 1073741824 ≤ low ∧ high < 3221225472) ∨ (kind low high = 3 ∧ 2147483648 ≤ high ∧ low < 2147483648 ∧ (low < 1073741824 ∨ 3221225472 ≤ high)) := by
  unfold kind
  split
  · exact .inl ⟨rfl, by assumption⟩
  · split
    · exact .inr (.inl ⟨rfl, by omega, by assumption⟩)
    · split
      · exact .inr (.inr (.inl ⟨rfl, by omega, by omega, by omega, by omega⟩))
      · exact .inr (.inr (.inr ⟨rfl, by omega, by omega, by omega⟩))
def off (e : En) : Nat := num e.out * 2 ^ (e.wait + 32) + (2 ^ e.wait - 1) * 2147483648
def len (e : En) : Nat := e.out.length + e.wait
def RL (e : En) : Nat := off e + e.low
def RH (e : En) : Nat := off e + e.high
theorem emit_length (o : List Bool) (x : Bool) (n : Nat) : (emit o x n).length = o.length + n + 1 := by simp [emit]; omega
theorem num_rep_true (n : Nat) : num (List.replicate n true) = 2 ^ n - 1 := by
  induction n with
  | zero => rfl
  | succ n ih =>
    rw [List.replicate_succ, num_cons, ih, List.length_replicate]
    have : 0 < 2 ^ n := Nat.pow_pos (by omega)
    simp [Nat.pow_succ]; omega
theorem num_rep_false (n : Nat) : num (List.replicate n false) = 0 := by
  induction n with
  | zero => rfl
  | succ n ih => rw [List.replicate_succ, num_cons, ih]; simp
theorem num_emit_false (o : List Bool) (n : Nat) : num (emit o false n) = num o * 2 ^ (n + 1) + (2 ^ n - 1) := by
  unfold emit
  rw [num_append, num_cons]
  simp [num_rep_true]
theorem num_emit_true (o : List Bool) (n : Nat) : num (emit o true n) = num o * 2 ^ (n + 1) + 2 ^ n := by
  unfold emit
  rw [num_append, num_cons]
  simp [num_rep_false]
theorem stepE_0 {e : En} (h : kind e.low e.high = 0) : stepE e = ⟨2 * e.low, 2 * e.high + 1, 0, emit e.out false e.wait⟩ := by unfold stepE; rw [if_pos h]
theorem stepE_1 {e : En} (h : kind e.low e.high = 1) : stepE e = ⟨2 * (e.low - 2147483648), 2 * (e.high - 2147483648) + 1, 0, emit e.out true e.wait⟩ := by unfold stepE; rw [if_neg (by omega), if_pos h]
theorem stepE_2 {e : En} (h : kind e.low e.high = 2) : stepE e = ⟨2 * (e.low - 1073741824), 2 * (e.high - 1073741824) + 1, e.wait + 1, e.out⟩ := by unfold stepE; rw [if_neg (by omega), if_neg (by omega), if_pos h]
theorem off_zero (l h : Nat) (o : List Bool) : off ⟨l, h, 0, o⟩ = num o * 4294967296 := by
  unfold off
  simp only [Nat.zero_add, Nat.pow_zero, pow32, Nat.sub_self, Nat.zero_mul, Nat.add_zero]
theorem off_is (e : En) (q : Nat) (hq : 2 ^ e.wait = q + 1) : off e = num e.out * (q + 1) * 4294967296 + q * 2147483648 := by
  unfold off
  rw [Nat.pow_add, pow32, hq, Nat.add_sub_cancel, Nat.mul_assoc]
theorem stepE_off {e : En} (h : kind e.low e.high ≠ 3) : off (stepE e) = 2 * off e + 2 * takeK (kind e.low e.high) ∧ len (stepE e) = len e + 1 := by
  have hp : 0 < 2 ^ e.wait := Nat.pow_pos (by omega)
  obtain ⟨q, hq⟩ : ∃ q, 2 ^ e.wait = q + 1 := ⟨2 ^ e.wait - 1, by omega⟩
  rw [off_is e q hq]
  rcases kind_cases e.low e.high with ⟨hk, _⟩ | ⟨hk, _⟩ | ⟨hk, _⟩ | ⟨hk, _⟩
  · rw [stepE_0 hk, hk, takeK_0, off_zero, num_emit_false, Nat.pow_succ, hq, Nat.add_sub_cancel]
    refine ⟨?_, by simp only [len, emit_length] <;> omega⟩
    have : num e.out * ((q + 1) * 2) = num e.out * (q + 1) * 2 := by rw [Nat.mul_assoc]
    rw [this]
    generalize num e.out * (q + 1) = z
    omega
  · rw [stepE_1 hk, hk, takeK_1, off_zero, num_emit_true, Nat.pow_succ, hq]
    refine ⟨?_, by simp only [len, emit_length] <;> omega⟩
    have : num e.out * ((q + 1) * 2) = num e.out * (q + 1) * 2 := by rw [Nat.mul_assoc]
    rw [this]
    generalize num e.out * (q + 1) = z
    omega
  · rw [stepE_2 hk, hk, takeK_2]
    have hq2 : 2 ^ (e.wait + 1) = (2 * q + 1) + 1 := by rw [Nat.pow_succ, hq]; omega
    rw [off_is ⟨2 * (e.low - 1073741824), 2 * (e.high - 1073741824) + 1, e.wait + 1, e.out⟩ (2 * q + 1) hq2]
    refine ⟨?_, by simp only [len]; omega⟩
    have : num e.out * (2 * q + 1 + 1) = num e.out * (q + 1) * 2 := by rw [Nat.mul_assoc]; congr 1; omega
    show num e.out * (2 * q + 1 + 1) * 4294967296 + (2 * q + 1) * 2147483648 = _
    rw [this]
    generalize num e.out * (q + 1) = z
    omega
  · exact absurd hk h
theorem stepE_low {e : En} (hok : Ok e.low e.high) (h : kind e.low e.high ≠ 3) : (stepE e).low + 2 * takeK (kind e.low e.high) = 2 * e.low ∧ (stepE e).high + 2 * takeK (kind e.low e.high) = 2 * e.high + 1 ∧ Ok (stepE e).low (stepE e).high := by
  obtain ⟨h1, h2⟩ := hok
  rcases kind_cases e.low e.high with ⟨hk, _⟩ | ⟨hk, _⟩ | ⟨hk, _⟩ | ⟨hk, _⟩
  · rw [stepE_0 hk, hk, takeK_0]; unfold Ok; dsimp only; refine ⟨?_, ?_, ?_, ?_⟩ <;> omega
  · rw [stepE_1 hk, hk, takeK_1]; unfold Ok; dsimp only; refine ⟨?_, ?_, ?_, ?_⟩ <;> omega
  · rw [stepE_2 hk, hk, takeK_2]; unfold Ok; dsimp only; refine ⟨?_, ?_, ?_, ?_⟩ <;> omega
  · exact absurd hk h
theorem stepE_R {e : En} (hok : Ok e.low e.high) (h : kind e.low e.high ≠ 3) : RL (stepE e) = 2 * RL e ∧ RH (stepE e) = 2 * RH e + 1 := by
  obtain ⟨a1, _⟩ := stepE_off h
  obtain ⟨b1, b2, _⟩ := stepE_low hok h
  unfold RL RH
  omega
def wid (e : En) : Nat := e.high - e.low + 1
theorem stepE_wid {e : En} (hok : Ok e.low e.high) (h : kind e.low e.high ≠ 3) : wid (stepE e) = 2 * wid e := by
  obtain ⟨b1, b2, b3⟩ := stepE_low hok h
  obtain ⟨h1, h2⟩ := hok
  obtain ⟨h3, h4⟩ := b3
  unfold wid
  omega
theorem wid_small {e : En} (hok : Ok e.low e.high) (h : kind e.low e.high ≠ 3) : wid e ≤ 2147483648 := by
  obtain ⟨h1, h2⟩ := hok
  unfold wid
  rcases kind_cases e.low e.high with ⟨hk, _⟩ | ⟨hk, _⟩ | ⟨hk, _⟩ | ⟨hk, _⟩
  · omega
  · omega
  · omega
  · exact absurd hk h
theorem widE_facts (n : Nat) : ∀ (e : En), Ok e.low e.high → ∃ k, k ≤ n ∧ len (widE n e) = len e + k ∧ RL (widE n e) = RL e * 2 ^ k ∧ RH (widE n e) + 1 = (RH e + 1) * 2 ^ k ∧ wid (widE n e) = wid e * 2 ^ k ∧ Ok (widE n e).low (widE n e).high ∧ (4294967296 < wid e * 2 ^ (n + 1) → kind (widE n e).low (widE n e).high = 3) := by
  induction n with
  | zero =>
    intro e hok
    refine ⟨0, by omega, by simp [widE], by simp [widE], by simp [widE], by simp [widE], hok, fun hw => ?_⟩
    by_cases h : kind e.low e.high = 3
    · exact h
    · have := wid_small hok h
      simp at hw
      omega
  | succ n ih =>
    intro e hok
    unfold widE
    by_cases h : kind e.low e.high = 3
    · rw [if_pos h]
      exact ⟨0, by omega, by simp, by simp, by simp, by simp, hok, fun _ => h⟩
    · rw [if_neg h]
      obtain ⟨k, hk, a1, a2, a3, a4, a5, a6⟩ := ih (stepE e) (stepE_low hok h).2.2
      obtain ⟨r1, r2⟩ := stepE_R hok h
      refine ⟨k + 1, by omega, by rw [a1, (stepE_off h).2]; omega, ?_, ?_, ?_, a5, fun hw => a6 ?_⟩
      · rw [a2, r1, Nat.pow_succ, Nat.mul_comm 2 (RL e), Nat.mul_assoc, Nat.mul_comm 2]
      · rw [a3, r2, show 2 * RH e + 1 + 1 = (RH e + 1) * 2 by omega, Nat.pow_succ, Nat.mul_assoc, Nat.mul_comm 2]
      · rw [a4, stepE_wid hok h, Nat.pow_succ, Nat.mul_comm 2 (wid e), Nat.mul_assoc, Nat.mul_comm 2]
      · rw [stepE_wid hok h]
        rw [Nat.pow_succ 2 (n + 1)] at hw
        rw [Nat.mul_comm 2 (wid e), Nat.mul_assoc, Nat.mul_comm 2]
        exact hw
end Go.Proofs.YtgpdgegelipboaaGreatDoor.Cd
namespace Go.Proofs.YtgpdgegelipboaaGreatDoor.Cd
def val (inp : List Bool) : Nat → Nat
  | 0 => 0
  | m + 1 => 2 * val inp m + (bitF inp m).toNat
theorem val_succ (inp : List Bool) (m : Nat) : val inp (m + 1) = 2 * val inp m + (bitF inp m).toNat := rfl
theorem toNat_le (b : Bool) : b.toNat ≤ 1 := by cases b <;> decide
theorem val_add (inp : List Bool) (m k : Nat) : val inp m * 2 ^ k ≤ val inp (m + k) ∧ val inp (m + k) < (val inp m + 1) * 2 ^ k := by
  induction k with
  | zero => simp
  | succ k ih =>
    have hb := toNat_le (bitF inp (m + k))
    rw [← Nat.add_assoc, val_succ inp (m + k), Nat.pow_succ, ← Nat.mul_assoc, ← Nat.mul_assoc]
    generalize val inp m * 2 ^ k = a at ih
    generalize (val inp m + 1) * 2 ^ k = b at ih
    omega
theorem val_pre (b tail : List Bool) (m : Nat) (h : m ≤ b.length) : val (b ++ tail) m = num (b.take m) := by
  induction m with
  | zero => rfl
  | succ m ih =>
    have hm : m < b.length := by omega
    rw [List.take_succ_eq_append_getElem hm, num_snoc, ← ih (by omega)]
    show 2 * val (b ++ tail) m + (bitF (b ++ tail) m).toNat = _
    rw [bitF_append, if_pos hm]
    simp [bitF, List.getD_eq_getElem?_getD, hm]
structure De where
  low : Nat
  high : Nat
  code : Nat
  at_ : Nat
def stepD (inp : List Bool) (d : De) : De :=
  ⟨2 * (d.low - takeK (kind d.low d.high)), 2 * (d.high - takeK (kind d.low d.high)) + 1, 2 * (d.code - takeK (kind d.low d.high)) + (bitF inp d.at_).toNat, d.at_ + 1⟩
def widD : Nat → List Bool → De → De
  | 0, _, d => d
  | n + 1, inp, d => if kind d.low d.high = 3 then d else widD n inp (stepD inp d)
def nar (e : En) (a b T : Nat) : En := ⟨e.low + wid e * a / T, e.low + wid e * b / T - 1, e.wait, e.out⟩
def putE (e : En) (a b T : Nat) : En := widE 40 (nar e a b T)
def In (inp : List Bool) (e : En) : Prop := RL e ≤ val inp (len e + 32) ∧ val inp (len e + 32) ≤ RH e
def Sync (inp : List Bool) (e : En) (d : De) : Prop := d.low = e.low ∧ d.high = e.high ∧ d.at_ = len e + 32 ∧ d.code + off e = val inp (len e + 32)
theorem wide_wid {e : En} (hok : Ok e.low e.high) (h : kind e.low e.high = 3) : 1073741824 ≤ wid e ∧ wid e ≤ 4294967296 := by
  obtain ⟨h1, h2⟩ := hok
  unfold wid
  rcases kind_cases e.low e.high with ⟨hk, _⟩ | ⟨hk, _⟩ | ⟨hk, _⟩ | ⟨hk, h3, h4, h5⟩
  · omega
  · omega
  · omega
  · omega
def Sp (a b T : Nat) : Prop := a < b ∧ b ≤ T ∧ T ≤ 16384
theorem nar_parts {W a b T : Nat} (h : Sp a b T) (hW : 16384 ≤ W) : W * a / T < W * b / T ∧ W * b / T ≤ W ∧ W * (b - a) / T ≤ W * b / T - W * a / T := by
  obtain ⟨h1, h2, h3⟩ := h
  have hT : 0 < T := by omega
  have e : W * b = W * a + W * (b - a) := by rw [← Nat.mul_add]; congr 1; omega
  have hle : W ≤ W * (b - a) := Nat.le_mul_of_pos_right _ (by omega)
  have h4 : W * a / T + W * (b - a) / T ≤ W * b / T := by
    rw [Nat.le_div_iff_mul_le hT, Nat.add_mul, e]
    have x1 := Nat.div_mul_le_self (W * a) T
    have x2 := Nat.div_mul_le_self (W * (b - a)) T
    omega
  have h5 : 1 ≤ W * (b - a) / T := by rw [Nat.le_div_iff_mul_le hT]; omega
  have h6 : W * b / T ≤ W := by
    refine Nat.div_le_of_le_mul ?_
    rw [Nat.mul_comm T W]
    exact Nat.mul_le_mul_left _ h2
  omega
theorem nar_ok {e : En} {a b T : Nat} (hok : Ok e.low e.high) (hk : kind e.low e.high = 3) (h : Sp a b T) :
    Ok (nar e a b T).low (nar e a b T).high ∧ e.low ≤ (nar e a b T).low ∧ (nar e a b T).high ≤ e.high ∧ wid (nar e a b T) = wid e * b / T - wid e * a / T ∧ 1 ≤ wid (nar e a b T) := by
  obtain ⟨w1, w2⟩ := wide_wid hok hk
  obtain ⟨n1, n2, n3⟩ := nar_parts h (show 16384 ≤ wid e by omega)
  obtain ⟨h1, h2⟩ := hok
  have hw : wid e = e.high - e.low + 1 := rfl
  unfold Ok
  have e1 : (nar e a b T).low = e.low + wid e * a / T := rfl
  have e2 : (nar e a b T).high = e.low + wid e * b / T - 1 := rfl
  have e3 : wid (nar e a b T) = (nar e a b T).high - (nar e a b T).low + 1 := rfl
  rw [e1, e2] at e3
  rw [e1, e2, e3]
  generalize wid e * a / T = p at n1 n2 n3
  generalize wid e * b / T = q at n1 n2 n3
  omega
theorem pow41 : (2 : Nat) ^ (40 + 1) = 2199023255552 := by decide
theorem put_facts {e : En} {a b T : Nat} (hok : Ok e.low e.high) (hk : kind e.low e.high = 3) (h : Sp a b T) :
    Ok (putE e a b T).low (putE e a b T).high ∧ kind (putE e a b T).low (putE e a b T).high = 3 ∧ ∃ k, len (putE e a b T) = len e + k ∧ wid (putE e a b T) = wid (nar e a b T) * 2 ^ k := by
  obtain ⟨n1, _, _, _, n5⟩ := nar_ok hok hk h
  obtain ⟨k, _, a1, _, _, a4, a5, a6⟩ := widE_facts 40 (nar e a b T) n1
  refine ⟨a5, a6 ?_, k, a1, a4⟩
  rw [pow41]
  omega
theorem In.back {inp : List Bool} {e : En} (hok : Ok e.low e.high) (h : kind e.low e.high ≠ 3) (hi : In inp (stepE e)) : In inp e := by
  obtain ⟨r1, r2⟩ := stepE_R hok h
  obtain ⟨i1, i2⟩ := hi
  rw [(stepE_off h).2, r1, show len e + 1 + 32 = (len e + 32) + 1 by omega] at i1
  rw [(stepE_off h).2, r2, show len e + 1 + 32 = (len e + 32) + 1 by omega] at i2
  have hb := toNat_le (bitF inp (len e + 32))
  rw [val_succ inp (len e + 32)] at i1 i2
  unfold In
  omega
theorem In.backs {inp : List Bool} (n : Nat) : ∀ {e : En}, Ok e.low e.high → In inp (widE n e) → In inp e := by
  induction n with
  | zero => intro e _ hi; exact hi
  | succ n ih =>
    intro e hok hi
    unfold widE at hi
    by_cases h : kind e.low e.high = 3
    · rw [if_pos h] at hi; exact hi
    · rw [if_neg h] at hi
      exact (ih (stepE_low hok h).2.2 hi).back hok h
theorem In.narrow {inp : List Bool} {e : En} {a b T : Nat} (hok : Ok e.low e.high) (hk : kind e.low e.high = 3) (h : Sp a b T) (hi : In inp (nar e a b T)) : In inp e := by
  obtain ⟨_, n2, n3, _, _⟩ := nar_ok hok hk h
  obtain ⟨i1, i2⟩ := hi
  have e1 : off (nar e a b T) = off e := rfl
  have e2 : len (nar e a b T) = len e := rfl
  unfold RL at i1
  unfold RH at i2
  rw [e1, e2] at i1 i2
  unfold In RL RH
  omega
theorem In.put {inp : List Bool} {e : En} {a b T : Nat} (hok : Ok e.low e.high) (hk : kind e.low e.high = 3) (h : Sp a b T) (hi : In inp (putE e a b T)) : In inp (nar e a b T) ∧ In inp e := by
  have h1 := In.backs 40 (nar_ok hok hk h).1 hi
  exact ⟨h1, h1.narrow hok hk h⟩
theorem sync_step {inp : List Bool} {e : En} {d : De} (hok : Ok e.low e.high) (h : kind e.low e.high ≠ 3) (hi : In inp e) (hs : Sync inp e d) : Sync inp (stepE e) (stepD inp d) := by
  obtain ⟨s1, s2, s3, s4⟩ := hs
  obtain ⟨o1, o2⟩ := stepE_off h
  obtain ⟨l1, l2, _⟩ := stepE_low hok h
  obtain ⟨i1, i2⟩ := hi
  unfold RL at i1
  have ht : takeK (kind e.low e.high) ≤ e.low := by omega
  have hh : takeK (kind e.low e.high) ≤ e.high := by have := hok.1; omega
  refine ⟨?_, ?_, ?_, ?_⟩
  · show 2 * (d.low - takeK (kind d.low d.high)) = _
    rw [s1, s2]; omega
  · show 2 * (d.high - takeK (kind d.low d.high)) + 1 = _
    rw [s1, s2]; omega
  · show d.at_ + 1 = _
    rw [s3, o2] <;> omega
  · show 2 * (d.code - takeK (kind d.low d.high)) + (bitF inp d.at_).toNat + _ = _
    rw [o2, show len e + 1 + 32 = (len e + 32) + 1 by omega, o1, s1, s2, s3]
    rw [val_succ inp (len e + 32)]
    omega
theorem sync_wid {inp : List Bool} (n : Nat) : ∀ {e : En} {d : De}, Ok e.low e.high → In inp (widE n e) → Sync inp e d → Sync inp (widE n e) (widD n inp d) := by
  induction n with
  | zero => intro e d _ _ hs; exact hs
  | succ n ih =>
    intro e d hok hi hs
    have hi0 := In.backs (n + 1) hok hi
    unfold widE at hi ⊢
    unfold widD
    rw [hs.1, hs.2.1]
    by_cases h : kind e.low e.high = 3
    · rw [if_pos h, if_pos h]; exact hs
    · rw [if_neg h] at hi ⊢
      rw [if_neg h]
      exact ih (stepE_low hok h).2.2 hi (sync_step hok h hi0 hs)
def symX (d : De) (T : Nat) : Nat := ((d.code - d.low + 1) * T - 1) / (d.high - d.low + 1)
theorem next_sync {inp : List Bool} {e : En} {d : De} {a b T : Nat} (hok : Ok e.low e.high) (hk : kind e.low e.high = 3) (h : Sp a b T) (hi : In inp (putE e a b T)) (hs : Sync inp e d) :
    a ≤ symX d T ∧ symX d T < b ∧ d.low ≤ d.code ∧ d.code ≤ d.high ∧ Sync inp (putE e a b T) (widD 40 inp ⟨(nar e a b T).low, (nar e a b T).high, d.code, d.at_⟩) := by
  obtain ⟨hn, hi0⟩ := hi.put hok hk h
  obtain ⟨w1, w2⟩ := wide_wid hok hk
  have hT : 0 < T := by have := h.1; have := h.2.1; omega
  obtain ⟨s1, s2, s3, s4⟩ := hs
  have e1 : off (nar e a b T) = off e := rfl
  have e2 : len (nar e a b T) = len e := rfl
  obtain ⟨i1, i2⟩ := hn
  unfold RL at i1
  unfold RH at i2
  rw [e1, e2, ← s4] at i1 i2
  have c1 : (nar e a b T).low ≤ d.code := by omega
  have c2 : d.code ≤ (nar e a b T).high := by omega
  have hsync : Sync inp (nar e a b T) ⟨(nar e a b T).low, (nar e a b T).high, d.code, d.at_⟩ := ⟨rfl, rfl, by rw [e2]; exact s3, by rw [e1, e2]; exact s4⟩
  have hw : d.high - d.low + 1 = wid e := by rw [s1, s2]; rfl
  obtain ⟨_, m2, m3, _, _⟩ := nar_ok hok hk h
  have hlow : (nar e a b T).low = e.low + wid e * a / T := rfl
  have hhigh : (nar e a b T).high = e.low + wid e * b / T - 1 := rfl
  obtain ⟨p1, p2, _⟩ := nar_parts h (show 16384 ≤ wid e by omega)
  rw [hlow] at c1
  rw [hhigh] at c2
  refine ⟨?_, ?_, by omega, by omega, sync_wid 40 (nar_ok hok hk h).1 hi hsync⟩
  · unfold symX
    rw [hw, Nat.le_div_iff_mul_le (by omega)]
    have k1 : wid e * a / T < d.code - d.low + 1 := by omega
    have k2 := (Nat.div_lt_iff_lt_mul hT).1 k1
    rw [Nat.mul_comm a]
    omega
  · unfold symX
    rw [hw, Nat.div_lt_iff_lt_mul (by omega)]
    have k1 : d.code - d.low + 1 ≤ wid e * b / T := by omega
    have k2 := (Nat.le_div_iff_mul_le hT).1 k1
    rw [Nat.mul_comm b]
    have k3 : 0 < (d.code - d.low + 1) * T := Nat.mul_pos (by omega) hT
    omega
def endBits (e : En) : List Bool := emit e.out (decide (1073741824 ≤ e.low)) (e.wait + 1)
theorem endBits_length (e : En) : (endBits e).length = len e + 2 := by unfold endBits len; rw [emit_length]; omega
theorem pow30 : (2 : Nat) ^ 30 = 1073741824 := by decide
theorem end_in {e : En} (hok : Ok e.low e.high) (hk : kind e.low e.high = 3) (tail : List Bool) : In (endBits e ++ tail) e := by
  have hp : 0 < 2 ^ e.wait := Nat.pow_pos (by omega)
  obtain ⟨q, hq⟩ : ∃ q, 2 ^ e.wait = q + 1 := ⟨2 ^ e.wait - 1, by omega⟩
  obtain ⟨v1, v2⟩ := val_add (endBits e ++ tail) (len e + 2) 30
  have hvp : val (endBits e ++ tail) (len e + 2) = num (endBits e) := by
    rw [val_pre _ _ _ (by rw [endBits_length]; exact Nat.le_refl _), List.take_of_length_le (by rw [endBits_length]; exact Nat.le_refl _)]
  rw [hvp, pow30, show len e + 2 + 30 = len e + 32 by omega] at v1 v2
  have ho := off_is e q hq
  have hq2 : 2 ^ (e.wait + 1) = 2 * q + 2 := by rw [Nat.pow_succ, hq]; omega
  have hq3 : 2 ^ (e.wait + 1 + 1) = 4 * (q + 1) := by rw [Nat.pow_succ, hq2]; omega
  unfold In RL RH
  rw [ho]
  obtain ⟨h1, h2⟩ := hok
  rcases kind_cases e.low e.high with ⟨hk', _⟩ | ⟨hk', _⟩ | ⟨hk', _⟩ | ⟨_, h3, h4, h5⟩
  · omega
  · omega
  · omega
  · by_cases hl : 1073741824 ≤ e.low
    · have en : num (endBits e) = num e.out * (q + 1) * 4 + (2 * q + 2) := by
        unfold endBits
        rw [decide_eq_true hl, num_emit_true, hq2, hq3, Nat.mul_comm 4, ← Nat.mul_assoc]
      rw [en] at v1 v2
      generalize num e.out * (q + 1) = z at v1 v2
      omega
    · have en : num (endBits e) = num e.out * (q + 1) * 4 + (2 * q + 1) := by
        unfold endBits
        rw [decide_eq_false hl, num_emit_false, hq2, hq3, Nat.mul_comm 4, ← Nat.mul_assoc]
        omega
      rw [en] at v1 v2
      generalize num e.out * (q + 1) = z at v1 v2
      omega
def e0 : En := ⟨0, 4294967295, 0, []⟩
theorem e0_ok : Ok e0.low e0.high ∧ kind e0.low e0.high = 3 := ⟨⟨by decide, by decide⟩, by decide⟩
theorem e0_sync (inp : List Bool) : Sync inp e0 ⟨0, 4294967295, val inp 32, 32⟩ := ⟨rfl, rfl, rfl, by simp [off, e0, len, num_nil]⟩
theorem put_long {e : En} {a b T n : Nat} (hok : Ok e.low e.high) (hk : kind e.low e.high = 3) (h : Sp a b T) (hn : T ≤ (b - a) * 2 ^ n) (M : Nat) (hM : 4294967296 * 2 ^ len e ≤ wid e * 2 ^ M) :
    4294967296 * 2 ^ len (putE e a b T) ≤ wid (putE e a b T) * 2 ^ (M + (n + 1)) := by
  obtain ⟨_, _, k, hk1, hk2⟩ := put_facts hok hk h
  obtain ⟨_, _, _, hw, _⟩ := nar_ok hok hk h
  obtain ⟨w1, w2⟩ := wide_wid hok hk
  obtain ⟨n1, n2, n3⟩ := nar_parts h (show 16384 ≤ wid e by omega)
  have hT : 0 < T := by have := h.1; have := h.2.1; omega
  obtain ⟨g, hg⟩ : ∃ g, g = wid e * (b - a) / T := ⟨_, rfl⟩
  have hg1 : 1 ≤ g := by
    rw [hg, Nat.le_div_iff_mul_le hT]
    have : wid e ≤ wid e * (b - a) := Nat.le_mul_of_pos_right _ (by have := h.1; omega)
    have := h.2.2
    omega
  have hg2 : wid e * (b - a) < (g + 1) * T := by
    rw [← Nat.div_lt_iff_lt_mul hT, ← hg]; omega
  have key : wid e ≤ g * 2 ^ (n + 1) := by
    have s1 : wid e * T ≤ wid e * (b - a) * 2 ^ n := by rw [Nat.mul_assoc]; exact Nat.mul_le_mul_left _ hn
    have s2 : wid e * (b - a) * 2 ^ n ≤ (g + 1) * T * 2 ^ n := Nat.mul_le_mul_right _ (by omega)
    have s3 : wid e * T ≤ ((g + 1) * 2 ^ n) * T := by
      refine Nat.le_trans s1 (Nat.le_trans s2 ?_)
      rw [Nat.mul_assoc, Nat.mul_comm T, ← Nat.mul_assoc]
      exact Nat.le_refl _
    have s4 := Nat.le_of_mul_le_mul_right s3 hT
    refine Nat.le_trans s4 ?_
    rw [Nat.pow_succ, Nat.mul_comm (2 ^ n) 2, ← Nat.mul_assoc]
    exact Nat.mul_le_mul_right _ (by omega)
  have hgw : g ≤ wid (nar e a b T) := by rw [hw, hg]; exact n3
  rw [hk1, hk2, Nat.pow_add, ← Nat.mul_assoc, Nat.pow_add 2 M, Nat.mul_assoc (wid (nar e a b T)), Nat.mul_comm (2 ^ k), ← Nat.mul_assoc]
  refine Nat.mul_le_mul_right _ (Nat.le_trans hM ?_)
  rw [Nat.mul_comm (2 ^ M), ← Nat.mul_assoc]
  refine Nat.mul_le_mul_right _ (Nat.le_trans key (Nat.mul_le_mul_right _ hgw))
theorem long_end {e : En} {M : Nat} (hok : Ok e.low e.high) (hk : kind e.low e.high = 3) (hM : 4294967296 * 2 ^ len e ≤ wid e * 2 ^ M) : len e ≤ M := by
  obtain ⟨_, w2⟩ := wide_wid hok hk
  have h1 : 4294967296 * 2 ^ len e ≤ 4294967296 * 2 ^ M := Nat.le_trans hM (Nat.mul_le_mul_right _ w2)
  have h2 := Nat.le_of_mul_le_mul_left h1 (by omega)
  exact (Nat.pow_le_pow_iff_right (by omega)).1 h2
end Go.Proofs.YtgpdgegelipboaaGreatDoor.Cd
namespace Go.Proofs.YtgpdgegelipboaaGreatDoor
open Go.RowKit
end Go.Proofs.YtgpdgegelipboaaGreatDoor
namespace Go.Proofs.YtgpdgegelipboaaGreatDoor
open Go.RowKit
def BBad (w : World) (er : Int) (e : Ending) (w' : World) : Prop := e = .returned (.tuple #[zeroB, .int .i64 er]) ∧ Below w.heap.size w w'
theorem bad_below {w w1 : World} {v0 v1 : Value} (h : Two w w.heap.size v0 v1 w1) (a b : Value) : Below w.heap.size w ((w1.setCell ⟨w.heap.size + 1, 0, none⟩ a).setCell ⟨w.heap.size + 1, 1, none⟩ b) :=
  (h.2.2.setCell (by simp) _).setCell (by simp) _
def strOf (bs : List Nat) : ByteArray := (bs.map fun n => ((n : Nat) : Int)).foldl (fun r n => r.push (UInt8.ofNat n.toNat)) ByteArray.empty
theorem run_str {w : World} {A : Option Addr} {n : Nat} {bs : List Nat} (c : Nat) (h : Rd w A n bs) : (convert 28 9 (.slice A n c)).run Tryz.prog w = .ok (.string (strOf bs)) w := by
  rw [run_convert_bytes_string w 28 9 5 A n c Tryz.underlying28 Tryz.underlying5 Tryz.underlying9]
  obtain ⟨rfl, hlt, hc⟩ := h
  cases A with
  | none =>
    have h0 : bs = [] := by
      cases bs with
      | nil => rfl
      | cons b bs =>
        obtain ⟨ad, e, _⟩ := hc (by simp)
        cases e
    subst h0
    rfl
  | some ad =>
    have hload : (loadCells ad bs.length).run Tryz.prog w = .ok ((bs.map fun n => ((n : Nat) : Int)).map (Value.int .u8)).toArray w := by
      have := run_loadCells_list (P := Tryz.prog) w ad (bs.map byteV) (fun j v hv => by
        rw [List.getElem?_map] at hv
        obtain ⟨x, hx, rfl⟩ := Option.map_eq_some_iff.1 hv
        have hpos : 0 < bs.length := by
          have := (List.getElem?_eq_some_iff.1 hx).1
          omega
        obtain ⟨ad', e, hc'⟩ := hc hpos
        injection e with e
        subst e
        exact hc' j x hx)
      rw [List.length_map] at this
      rw [this, List.map_map]
      rfl
    exact run_bytesToString w ad _ c _ hload
end Go.Proofs.YtgpdgegelipboaaGreatDoor
namespace Go.Proofs.YtgpdgegelipboaaGreatDoor
open Go.RowKit
theorem RdL.one {w : World} {g : Nat} {A : Option Addr} {n c : Nat} {N : Int} {bs : List Nat} {t : TypeId} (h : Rd w A n bs) (hb : Blk w g t #[.slice A n c, .int .i64 N]) :
    RdL w (some ⟨g, 0, none⟩) 1 [⟨A, n, c, N, bs⟩] := by
  refine ⟨rfl, fun _ => ⟨_, rfl, fun j x hx => ?_⟩⟩
  match j, hx with
  | 0, hx =>
    simp only [List.getElem?_cons_zero, Option.some.injEq] at hx
    subst hx
    refine ⟨?_, ?_, h⟩
    · rw [add_own, hb.cell]; rfl
    · rw [add_own]; exact (hb.cell 1).trans rfl
theorem IsB.rd {w : World} {A : Option Addr} {n c : Nat} {N : Int} {l : List Bool} (h : IsB w (.agg #[.slice A n c, .int .i64 N]) l) : Rd w A n (pack l) := by
  obtain ⟨A1, c1, e1, hr, _⟩ := h
  simp only [Value.agg.injEq, Array.mk.injEq, List.cons.injEq, Value.slice.injEq, Value.int.injEq, and_true, true_and] at e1
  obtain ⟨⟨rfl, rfl, rfl⟩, rfl⟩ := e1
  exact hr
end Go.Proofs.YtgpdgegelipboaaGreatDoor
namespace Go.Proofs.YtgpdgegelipboaaGreatDoor
open Go.RowKit
def bitR (bs : List Nat) (i : Nat) : Nat := bs.getD (i / 8) 0 / 2 ^ (7 - i % 8) % 2
theorem bitR_lt (bs : List Nat) (i : Nat) : bitR bs i < 2 := Nat.mod_lt _ (by omega)
theorem bitR_pack (l : List Bool) (i : Nat) (hi : i < 8 * (pack l).length) : bitR (pack l) i = (bitF l i).toNat := by
  unfold bitR
  have hp := pack_length l
  have hg : (pack l).getD (i / 8) 0 = byteF (bitF l) (i / 8) := packF_getD _ _ _ (by omega)
  rw [hg, byteF_bit]
theorem okB_bits (bs : List Nat) (M : Nat) (hlt : ∀ x ∈ bs, x < 256) (hM : M ≤ 65536) (hlen : bs.length = (M + 7) / 8) :
    okB bs (M : Int) = true ↔ ∀ i, M ≤ i → i < 8 * bs.length → bitR bs i = 0 := by
  constructor
  · intro h i h1 h2
    obtain ⟨l, _, rfl, e⟩ := okB_some h hlt
    rw [bitR_pack l i h2, bitF_of_ge (by omega)]
    rfl
  · intro h
    refine decide_eq_true ⟨by omega, by omega, by omega, fun h8 => ?_⟩
    have e8 : ((M : Int) % 8).toNat = M % 8 := by omega
    rw [e8]
    have hz : bs.getD (bs.length - 1) 0 % 2 ^ (8 - M % 8) = 0 := by
      refine Nat.eq_of_testBit_eq fun b => ?_
      rw [Nat.testBit_mod_two_pow, Nat.zero_testBit]
      by_cases hb : b < 8 - M % 8
      · have hi := h (8 * (bs.length - 1) + (7 - b)) (by omega) (by omega)
        unfold bitR at hi
        have e1 : (8 * (bs.length - 1) + (7 - b)) / 8 = bs.length - 1 := by omega
        have e2 : 7 - (8 * (bs.length - 1) + (7 - b)) % 8 = b := by omega
        rw [e1, e2] at hi
        rw [Nat.testBit_eq_decide_div_mod_eq, hi]
        simp
      · simp [hb]
    have e : (256 : Nat) = 2 ^ (8 - M % 8) * 2 ^ (M % 8) := by rw [← Nat.pow_add, show 8 - M % 8 + M % 8 = 8 by omega]
    rw [e, Nat.mul_mod_mul_right, hz, Nat.zero_mul]
set_option maxHeartbeats 400000 in
theorem rbit_core (A : Addr) (len cap : Nat) (N : Int) (c : Int) (i : Nat) (w : World) (_hi : i / 8 < len) (_hi2 : i ≤ 600000) (_h0 : 0 ≤ c) (_h1 : c ≤ 255)
    (hlt : (A.add (i / 8)).block < w.heap.size)
    (hc : w.cell? (A.add (i / 8)) = some (.int .u8 c)) :
    Calls Tryz.prog 98 #[.agg #[.slice (some A) len cap, .int .i64 N], .int .i64 (i : Int)] w fun e w' => e = .returned (.int .u64 (bits BinOp.and IntKind.u64 (IntKind.u64.wrap (c / 2 ^ (7 - i % 8))) 1)) ∧ Below w.heap.size w w' := by
  go_enter Tryz.func98, Tryz.ntmps98
  go_wp2
  go_ret
  exact ⟨rfl, (Below.refl _ _).alloc (Nat.le_refl _) _⟩
theorem rbit_any (A : Option Addr) (n c : Nat) (N x : Int) (bs : List Nat) (i t : Nat) (w : World) (hr : Rd w A n bs) (hi : i < 8 * n) (hi2 : i ≤ 600000) (hx : x = (i : Int)) (ht : t = bitR bs i) :
    Calls Tryz.prog 98 #[.agg #[.slice A n c, .int .i64 N], .int .i64 x] w fun e w' => e = .returned (.int .u64 (t : Int)) ∧ Below w.heap.size w w' := by
  subst hx ht
  obtain ⟨ad, rfl, hb, h256, hc⟩ := hr.at_ (k := i / 8) (by omega)
  refine (rbit_core ad _ c _ _ i w (by omega) hi2 (by omega) (by omega) (by rw [block_of_add]; exact hb) hc).mono ?_
  rintro e w' ⟨rfl, hbl⟩
  refine ⟨?_, hbl⟩
  rw [shr_byte _ _ h256]
  rfl
set_option maxHeartbeats 400000 in
theorem rcheck_low (A : Option Addr) (len cap : Nat) (N : Int) (w : World) (h0 : N < 0 ∨ 65536 < N) :
    Calls Tryz.prog 60 #[.agg #[.slice A len cap, .int .i64 N]] w fun e w' => e = .returned (.int .i64 1) ∧ Below w.heap.size w w' := by
  rcases h0 with h0 | h0
  · have d1 : decide (N < 0) = true := by simpa using h0
    go_enter Tryz.func60, Tryz.ntmps60
    go_wp2
    go_ret
    exact ⟨rfl, (Below.refl _ _).alloc (Nat.le_refl _) _⟩
  · have d1 : decide (N < 0) = false := by simp; omega
    have d2 : decide (65536 < N) = true := by simpa using h0
    go_enter Tryz.func60, Tryz.ntmps60
    go_wp2
    go_ret
    exact ⟨rfl, (Below.refl _ _).alloc (Nat.le_refl _) _⟩
set_option maxHeartbeats 400000 in
theorem rcheck_len (A : Option Addr) (len cap : Nat) (N : Int) (w : World)
    (h0 : 0 ≤ N) (h1 : N ≤ 65536) (h2 : ((len : Int) != (N + 7) / 8) = true) :
    Calls Tryz.prog 60 #[.agg #[.slice A len cap, .int .i64 N]] w fun e w' => e = .returned (.int .i64 1) ∧ Below w.heap.size w w' := by
  have d1 : decide (N < 0) = false := by simpa using h0
  have d2 : decide (65536 < N) = false := by simpa using h1
  go_enter Tryz.func60, Tryz.ntmps60
  go_wp2
  go_ret
  exact ⟨rfl, (Below.refl _ _).alloc (Nat.le_refl _) _⟩
def RC (w : World) (bs : List Nat) (M : Nat) (e : Ending) (w' : World) : Prop := e = .returned (.int .i64 (if okB bs (M : Int) then 0 else 1)) ∧ Below w.heap.size w w'
set_option maxHeartbeats 1000000 in
theorem rcheck_loop (A : Option Addr) (len cap M : Nat) (bs : List Nat) (w : World) (hr : Hid (Rd w A len bs))
    (h1 : M ≤ 65536) (h2 : ((len : Int) != ((M : Int) + 7) / 8) = false) (hlen : len ≤ 8192) (hM8 : M ≤ 8 * len) (hl : Hid (len = (M + 7) / 8)) :
    Calls Tryz.prog 60 #[.agg #[.slice A len cap, .int .i64 (M : Int)]] w (RC w bs M) := by
  have d1 : decide ((M : Int) < 0) = false := by simp
  have d2 : decide (65536 < (M : Int)) = false := by simp; omega
  have hiff := okB_bits bs M hr.out.2.1 h1 (by rw [hr.out.1]; exact hl.out)
  rw [hr.out.1] at hiff
  have HI := Lib.hid hiff
  clear hiff
  go_enter Tryz.func60, Tryz.ntmps60
  go_wp2
  go_loopw [3] (fun i wr => ∃ p : Nat, M ≤ p ∧ p ≤ 8 * len ∧ i = .int .i64 (p : Int) ∧ (∀ i, M ≤ i → i < p → bitR bs i = 0) ∧ One w w.heap.size (.slice A len cap) (.int .i64 (M : Int)) wr)
    (fun i _ => 8 * len - (intOf i).toNat)
  case atStart => exact ⟨M, Nat.le_refl _, hM8, rfl, fun i h1 h2 => by omega, One.start _ _ _⟩
  case round =>
    obtain ⟨p, hp0, hp1, rfl, hz, hone⟩ := hrel
    obtain ⟨c0, c1⟩ := hone.cells
    have HO := Lib.hid hone
    have HZ := Lib.hid hz
    clear hone hz
    by_cases hlt : p < 8 * len
    · have hrd := (hr.out.below (HO.out.2))
      have HRD := Lib.hid hrd
      clear hrd
      obtain ⟨t, ht⟩ : ∃ t, t = bitR bs p := ⟨_, rfl⟩
      have ht2 : t < 2 := by rw [ht]; exact bitR_lt _ _
      have HT := Lib.hid ht
      clear ht
      by_cases ht0 : t = 0
      · subst ht0
        go_wp2_with fail
        refine (rbit_any _ _ _ _ _ bs p 0 _ HRD.out hlt (by omega) rfl HT.out).mono ?_
        rintro e w2 ⟨rfl, hb2⟩
        have HO2 := Lib.hid (HO.out.next hb2)
        clear hb2
        go_wp2
        go_roundw
        case rel =>
          refine ⟨p + 1, by omega, by omega, by go_num, fun i h1 h2 => ?_, HO2.out⟩
          by_cases e : i = p
          · rw [e, ← HT.out]
          · exact HZ.out i h1 (by omega)
        case measure => simp [intOf]; omega
      · obtain rfl : t = 1 := by omega
        go_wp2_with fail
        refine (rbit_any _ _ _ _ _ bs p 1 _ HRD.out hlt (by omega) rfl HT.out).mono ?_
        rintro e w2 ⟨rfl, hb2⟩
        have HO2 := Lib.hid (HO.out.next hb2)
        clear hb2
        go_wp2
        go_ret
        refine ⟨?_, HO2.out.2⟩
        have hno : okB bs (M : Int) = false := by
          cases h : okB bs (M : Int)
          · rfl
          · have := HI.out.1 h p hp0 hlt
            rw [← HT.out] at this
            cases this
        rw [hno]
        rfl
    · go_wp2
      go_ret
      refine ⟨?_, HO.out.2⟩
      have hyes : okB bs (M : Int) = true := HI.out.2 fun i h1 h2 => HZ.out i h1 (by omega)
      rw [hyes]
      rfl
theorem rcheck_any (A : Option Addr) (len cap : Nat) (N : Int) (bs : List Nat) (w : World) (hr : Rd w A len bs) :
    Calls Tryz.prog 60 #[.agg #[.slice A len cap, .int .i64 N]] w fun e w' => e = .returned (.int .i64 (if okB bs N then 0 else 1)) ∧ Below w.heap.size w w' := by
  have hbs := hr.1
  by_cases h0 : N < 0 ∨ 65536 < N
  · have : okB bs N = false := decide_eq_false (by omega)
    rw [this]
    exact rcheck_low A len cap N w h0
  · by_cases h2 : ((len : Int) = (N + 7) / 8)
    · obtain ⟨M, rfl⟩ : ∃ M : Nat, N = (M : Int) := ⟨N.toNat, by omega⟩
      exact rcheck_loop A len cap M bs w (Lib.hid hr) (by omega) (by simpa using h2) (by omega) (by omega) (Lib.hid (by omega))
    · have : okB bs N = false := decide_eq_false (by omega)
      rw [this]
      exact rcheck_len A len cap N w (by omega) (by omega) (by simpa using h2)
theorem rcheck_yes (A : Option Addr) (len cap : Nat) (N : Int) (bs : List Nat) (w : World) (hr : Rd w A len bs) (h : okB bs N = true) :
    Calls Tryz.prog 60 #[.agg #[.slice A len cap, .int .i64 N]] w fun e w' => e = .returned (.int .i64 0) ∧ Below w.heap.size w w' := by
  have := rcheck_any A len cap N bs w hr
  rw [h] at this
  exact this
end Go.Proofs.YtgpdgegelipboaaGreatDoor
namespace Go.Proofs.YtgpdgegelipboaaGreatDoor
open Go.RowKit
def OwnB (w : World) (base : Nat) (v : Value) (l : List Bool) : Prop := w.ownsRow base 5 1 v (pack l).length ((pack l).map byteV)
theorem OwnB.nil_ (w : World) (base : Nat) : OwnB w base (.slice none 0 0) [] := World.ownsRow_nil w base 5 1
theorem OwnB.alloc {w : World} {base : Nat} {v : Value} {l : List Bool} (h : OwnB w base v l) (o : Obj) : OwnB (w.alloc o) base v l := World.ownsRow.alloc h o
theorem OwnB.rd {w : World} {base n c : Nat} {A : Option Addr} {l : List Bool} (h : OwnB w base (.slice A n c) l) : Rd w A n (pack l) ∧ n = (pack l).length := by
  have hf := h.2
  have hl := h.1
  rcases hf with ⟨e, h0⟩ | ⟨g, cap, cur, e, hb, hh, hnc, hcm, hcs, ht⟩
  · injection e with e1 e2 e3
    subst e1 e2
    refine ⟨⟨by omega, pack_lt _, fun h => by omega⟩, h0.symm⟩
  · injection e with e1 e2 e3
    subst e1
    refine ⟨⟨e2.symm, pack_lt _, fun _ => ⟨_, rfl, fun j x hx => ?_⟩⟩, e2⟩
    have := World.ownsRow.cells h (g := g) rfl j (byteV x) (by rw [List.getElem?_map, hx]; rfl)
    exact this
theorem push_byte (l : List Bool) (b : Bool) :
    byteF (bitF l) (l.length / 8) ||| b.toNat * 2 ^ (7 - l.length % 8) = byteF (bitF (l ++ [b])) (l.length / 8) := by
  have hb : b.toNat * 2 ^ (7 - l.length % 8) < 2 ^ 8 := by
    have h1 : b.toNat ≤ 1 := by cases b <;> decide
    have h2 : 2 ^ (7 - l.length % 8) ≤ 2 ^ 7 := Nat.pow_le_pow_right (by omega) (by omega)
    have h3 : b.toNat * 2 ^ (7 - l.length % 8) ≤ 1 * 2 ^ 7 := Nat.mul_le_mul h1 h2
    omega
  refine byteF_of_bits (Nat.or_lt_two_pow (n := 8) (byteF_lt _ _) hb) fun k hk => ?_
  rw [Nat.testBit_or, byteF_testBit, Nat.testBit_mul_two_pow, bitF_append]
  simp only [hk, decide_true, Bool.true_and]
  by_cases h1 : 8 * (l.length / 8) + (7 - k) < l.length
  · have h5 : b.toNat.testBit (k - (7 - l.length % 8)) = false := by
      refine Nat.testBit_lt_two_pow (Nat.lt_of_lt_of_le (m := 2) (by cases b <;> decide) ?_)
      exact Nat.pow_le_pow_right (n := 2) (i := 1) (by omega) (by omega)
    simp [h1, h5]
  · by_cases h2 : k = 7 - l.length % 8
    · have e : 8 * (l.length / 8) + (7 - k) - l.length = 0 := by omega
      have e2 : k - (7 - l.length % 8) = 0 := by omega
      have h3 : 7 - l.length % 8 ≤ k := by omega
      rw [bitF_of_ge (by omega), if_neg h1, e, e2]
      cases b <;> simp [bitF, h3]
    · have h3 : bitF [b] (8 * (l.length / 8) + (7 - k) - l.length) = false := bitF_of_ge (by show 1 ≤ _; omega)
      rw [bitF_of_ge (by omega), if_neg h1, h3]
      by_cases h4 : 7 - l.length % 8 ≤ k
      · have h5 : b.toNat.testBit (k - (7 - l.length % 8)) = false := by
          refine Nat.testBit_lt_two_pow (Nat.lt_of_lt_of_le (m := 2) (by cases b <;> decide) ?_)
          exact Nat.pow_le_pow_right (n := 2) (i := 1) (by omega) (by omega)
        simp [h5]
      · simp [h4]
theorem push_old (l : List Bool) (b : Bool) (j : Nat) (h : j < l.length / 8) : byteF (bitF l) j = byteF (bitF (l ++ [b])) j :=
  byteF_eq fun i _ hi => by rw [bitF_append, if_pos (by omega)]
theorem push_same (l : List Bool) (b : Bool) (h : l.length % 8 ≠ 0) :
    (pack l).set (l.length / 8) (byteF (bitF l) (l.length / 8) ||| b.toNat * 2 ^ (7 - l.length % 8)) = pack (l ++ [b]) := by
  rw [push_byte]
  have e : ((l ++ [b]).length + 7) / 8 = (l.length + 7) / 8 := by rw [List.length_append]; simp; omega
  refine List.ext_getElem (by rw [List.length_set, pack_length, pack_length, e]) fun j h1 h2 => ?_
  rw [List.getElem_set]
  have hj : j < (l.length + 7) / 8 := by rw [pack_length, e] at h2; exact h2
  split
  · rename_i e'; subst e'; simp [pack, packF]
  · simp only [pack, packF, List.getElem_map, List.getElem_range]
    exact push_old l b j (by omega)
theorem push_more (l : List Bool) (b : Bool) (h : l.length % 8 = 0) :
    (pack l ++ [0]).set (l.length / 8) (0 ||| b.toNat * 2 ^ (7 - l.length % 8)) = pack (l ++ [b]) := by
  have hz : byteF (bitF l) (l.length / 8) = 0 := by
    symm
    refine byteF_of_bits (by omega) fun k _ => ?_
    rw [bitF_of_ge (by omega)]
    simp
  have hb := push_byte l b
  rw [hz] at hb
  rw [hb]
  have e : ((l ++ [b]).length + 7) / 8 = (l.length + 7) / 8 + 1 := by rw [List.length_append]; simp; omega
  refine List.ext_getElem (by rw [List.length_set, List.length_append, pack_length, pack_length, e]; rfl) fun j h1 h2 => ?_
  have hj : j < (l.length + 7) / 8 + 1 := by rw [pack_length, e] at h2; exact h2
  rw [List.getElem_set]
  split
  · rename_i e'; subst e'; simp [pack, packF]
  · rename_i e'
    rw [List.getElem_append_left (by rw [pack_length]; omega)]
    simp only [pack, packF, List.getElem_map, List.getElem_range]
    exact push_old l b j (by omega)
def PushPost (w : World) (base : Nat) (v : Value) (l : List Bool) (e : Ending) (w' : World) : Prop :=
  ∃ g n cap, e = .returned (.agg #[.slice (some ⟨g, 0, none⟩) n cap, .int .i64 ((l.length : Nat) : Int)]) ∧ OwnB w' base (.slice (some ⟨g, 0, none⟩) n cap) l ∧ w.grownBy w' v.ownBlock ∧ (v.ownBlock = some g ∨ w.heap.size ≤ g)
theorem push_or (x y k : Nat) (hx : x < 2) (hy : y < 256) (hk : k ≤ 7) : bits BinOp.or IntKind.u8 (y : Int) (IntKind.u64.wrap ((x : Int) * 2 ^ k) % 256) = ((y ||| x * 2 ^ k : Nat) : Int) := by
  have h2 : 2 ^ k ≤ 2 ^ 7 := Nat.pow_le_pow_right (by omega) hk
  have h3 : x * 2 ^ k ≤ 1 * 2 ^ 7 := Nat.mul_le_mul (by omega) h2
  have e : (x : Int) * 2 ^ k = ((x * 2 ^ k : Nat) : Int) := by simp
  rw [e]
  generalize x * 2 ^ k = q at h3
  rw [IntKind.wrap_u64]
  have e2 : ((q : Int) % 18446744073709551616 % 256) = (q : Int) := by omega
  rw [e2, u8_or_nat _ _ hy (by omega)]
set_option maxHeartbeats 1000000 in
theorem push_in (g n cap x y : Nat) (l : List Bool) (w : World) (hl : l.length ≤ 70000) (h8 : (((l.length : Int) % 8) == 0) = false) (hx : Hid (x < 2)) (hy : Hid (y < 256)) (hn : l.length / 8 < n) (hglt : g < w.heap.size)
    (hc : w.cell? ⟨g, l.length / 8, none⟩ = some (.int .u8 (y : Int))) (hf : w.frozen? ⟨g, l.length / 8, none⟩ = false) :
    Calls Tryz.prog 129 #[.agg #[.slice (some ⟨g, 0, none⟩) n cap, .int .i64 (l.length : Int)], .int .u64 (x : Int)] w fun e w' => e = .returned (.agg #[.slice (some ⟨g, 0, none⟩) n cap, .int .i64 ((l.length : Int) + 1)]) ∧
      ∃ o1 o2, (((w.setCell ⟨g, l.length / 8, none⟩ (.int .u8 ((y ||| x * 2 ^ (7 - l.length % 8) : Nat) : Int))).alloc o1).alloc o2).drew = w' := by
  go_enter Tryz.func129, Tryz.ntmps129
  go_wp2
  go_region
  all_goals go_wp2
  rw [push_or x y (7 - l.length % 8) hx.out hy.out (by omega)]
  exact bodyPost_ret (v := .agg #[.slice (some ⟨g, 0, none⟩) n cap, .int .i64 ((l.length : Int) + 1)]) (by simp [results, Tryz.results129, go_sem]) rfl ⟨rfl, _, _, rfl⟩
theorem ownB_set {w : World} {base g n cap : Nat} {l : List Bool} (h : OwnB w base (.slice (some ⟨g, 0, none⟩) n cap) l) (k x : Nat) (l' : List Bool) (hl : (pack l).set k x = pack l') (hlen : (pack l').length = n) :
    OwnB (w.setCell ⟨g, k, none⟩ (.int .u8 (x : Int))) base (.slice (some ⟨g, 0, none⟩) n cap) l' := by
  obtain ⟨h1, h2⟩ := h
  rcases h2 with ⟨e, _⟩ | ⟨g', cap', cur, e, hb, hh, hnc, hcm, hcs, ht⟩
  · cases e
  · simp only [Value.slice.injEq, Option.some.injEq, Addr.mk.injEq, and_true] at e
    obtain ⟨rfl, en, rfl⟩ := e
    rw [← en] at hnc ht
    refine ⟨by rw [List.length_map]; omega, .inr ⟨g, cap, cur.setIfInBounds k (.int .u8 (x : Int)), by rw [hlen], hb, Blk.set_ hh k _, by omega, hcm, by simpa using hcs, ?_⟩⟩
    rw [hlen, Array.toList_setIfInBounds, List.take_set, ht]
    have : ((pack l).map byteV).set k (.int .u8 (x : Int)) = (pack l').map byteV := by rw [← hl, List.map_set]; rfl
    exact this
theorem own_alloc2 {w : World} {base : Nat} {v : Value} {l : List Bool} (h : OwnB w base v l) (o1 o2 : Obj) : OwnB ((w.alloc o1).alloc o2).drew base v l := World.ownsRow.drew ((h.alloc o1).alloc o2)
theorem push_same_any (A : Option Addr) (n c : Nat) (l : List Bool) (b : Bool) (base : Nat) (w : World) (h : OwnB w base (.slice A n c) l) (hl : l.length ≤ 70000) (h8 : l.length % 8 ≠ 0) :
    Calls Tryz.prog 129 #[.agg #[.slice A n c, .int .i64 (l.length : Int)], .int .u64 ((b.toNat : Nat) : Int)] w (PushPost w base (.slice A n c) (l ++ [b])) := by
  obtain ⟨hr, hn⟩ := h.rd
  have hp := pack_length l
  obtain ⟨g, cap, hv, _, hlt⟩ := World.ownsRow.form h (by omega)
  simp only [Value.slice.injEq] at hv
  obtain ⟨rfl, _, _⟩ := hv
  obtain ⟨ad, e, hb, h256, hc⟩ := hr.at_ (k := l.length / 8) (by omega)
  injection e with e
  subst e
  rw [add_own] at hc
  have hg : (pack l).getD (l.length / 8) 0 = byteF (bitF l) (l.length / 8) := packF_getD _ _ _ (by omega)
  rw [hg] at hc h256
  have hfr : w.frozen? ⟨g, l.length / 8, none⟩ = false := by
    rcases h.2 with ⟨e, _⟩ | ⟨g', cap', cur, e, _, hh, _⟩
    · cases e
    · simp only [Value.slice.injEq, Option.some.injEq, Addr.mk.injEq, and_true] at e
      obtain ⟨rfl, _, _⟩ := e
      exact Blk.frozen hh _
  refine (push_in g n c b.toNat _ l w hl (by simp only [beq_eq_false_iff_ne]; omega) (Lib.hid (by cases b <;> decide)) (Lib.hid h256) (by omega) hb hc hfr).mono ?_
  rintro e w' ⟨rfl, o1, o2, rfl⟩
  have e1 : ((l ++ [b]).length : Int) = (l.length : Int) + 1 := by simp
  have hlen : (pack (l ++ [b])).length = n := by rw [pack_length, List.length_append]; simp; omega
  refine ⟨g, n, c, by rw [e1], own_alloc2 (ownB_set h _ _ _ (push_same l b h8) hlen) _ _, ?_, .inl rfl⟩
  exact only_drew (only_alloc (only_alloc (only_setCell (World.grownBy.refl _ _) (.inl rfl) _) _) _)
theorem Blk.ne_ {w : World} {g g' : Nat} {t t' : TypeId} {cs cs' : Array Value} (h : Blk w g t cs) (h' : Blk w g' t' cs') (hne : t ≠ t') : g ≠ g' := by
  rintro rfl
  unfold Blk at h h'
  rw [h] at h'
  injection h' with h'
  injection h' with _ ht
  exact hne ht
theorem push_form {w w1 : World} {base n c : Nat} {A : Option Addr} {v1 a1 r0 r1 : Value} {o : Obj} {bs : List Nat} (hn : bs.length = n) (hv : ∀ ad, A = some ad → ad.block < w.heap.size)
    (hown : w1.ownsRow base 5 1 v1 (n + 1) (bs.map byteV ++ [.int .u8 0]))
    (hg : (((w.alloc (.cells #[.slice A n c, a1] 49)).alloc (.cells #[r0, r1] 49)).alloc o).grownBy w1 (Value.slice A n c).ownBlock)
    (hat : v1.ownBlock = (Value.slice A n c).ownBlock ∨ v1.ownBlock = some (((w.alloc (.cells #[.slice A n c, a1] 49)).alloc (.cells #[r0, r1] 49)).alloc o).heap.size) :
    ∃ g cap, v1 = .slice (some ⟨g, 0, none⟩) (n + 1) cap ∧ w1.cell? ⟨g, n, none⟩ = some (.int .u8 0) ∧ w1.frozen? ⟨g, n, none⟩ = false ∧
      (w1.cell? ⟨w.heap.size, 0, none⟩ = some (.slice A n c) ∧ w1.cell? ⟨w.heap.size, 1, none⟩ = some a1 ∧ w1.frozen? ⟨w.heap.size, 0, none⟩ = false ∧ w1.frozen? ⟨w.heap.size, 1, none⟩ = false) ∧
      (w1.cell? ⟨w.heap.size + 1, 0, none⟩ = some r0 ∧ w1.cell? ⟨w.heap.size + 1, 1, none⟩ = some r1 ∧ w1.frozen? ⟨w.heap.size + 1, 0, none⟩ = false ∧ w1.frozen? ⟨w.heap.size + 1, 1, none⟩ = false) ∧
      (¬ g = w.heap.size ∧ ¬ g = w.heap.size + 1) ∧ ((Value.slice A n c).ownBlock = some g ∨ w.heap.size ≤ g) ∧ w.grownBy w1 (Value.slice A n c).ownBlock := by
  have hob : ∀ k, (Value.slice A n c).ownBlock = some k → k < w.heap.size := by
    intro k hk
    cases A with
    | none => simp [Value.ownBlock] at hk
    | some ad => simp only [Value.ownBlock, Option.some.injEq] at hk; have := hv ad rfl; omega
  obtain ⟨g, cap, hv1, hb1, hlt1⟩ := World.ownsRow.form hown (by omega)
  subst hv1
  have B0 := ((Blk.new w 49 #[.slice A n c, a1]).alloc (.cells #[r0, r1] 49)).alloc o
  have B1 := (Blk.newAt (w := w.alloc (.cells #[.slice A n c, a1] 49)) (g := w.heap.size + 1) (t := 49) (cs := #[r0, r1]) (by simp)).alloc o
  have C0 : Blk w1 w.heap.size 49 #[.slice A n c, a1] := (hg.block _ B0.lt (fun e => by have := hob _ e.symm; omega)).trans B0
  have C1 : Blk w1 (w.heap.size + 1) 49 #[r0, r1] := (hg.block _ B1.lt (fun e => by have := hob _ e.symm; omega)).trans B1
  have hcell := World.ownsRow.cells hown (g := g) rfl n (.int .u8 0) (by rw [List.getElem?_append_right (by rw [List.length_map]; omega), List.length_map, hn, Nat.sub_self]; rfl)
  rw [add_own] at hcell
  obtain ⟨cur, hblk⟩ : ∃ cur, Blk w1 g 5 cur := by
    rcases hown.2 with ⟨e, _⟩ | ⟨g', cap', cur, e, _, hh, _⟩
    · cases e
    · simp only [Value.slice.injEq, Option.some.injEq, Addr.mk.injEq, and_true] at e
      obtain ⟨rfl, _⟩ := e
      exact ⟨cur, hh⟩
  refine ⟨g, cap, rfl, hcell, hblk.frozen n, ⟨C0.cell 0, C0.cell 1, C0.frozen 0, C0.frozen 1⟩, ⟨C1.cell 0, C1.cell 1, C1.frozen 0, C1.frozen 1⟩, ⟨hblk.ne_ C0 (by decide), hblk.ne_ C1 (by decide)⟩, ?_, ?_⟩
  · rcases hat with e | e
    · exact .inl (by rw [← e]; rfl)
    · refine .inr ?_
      simp only [Value.ownBlock, Option.some.injEq] at e
      rw [e]
      simp
      omega
  · exact (only_alloc (only_alloc (only_alloc (World.grownBy.refl w _) _) _) _).trans hg
theorem push_news (w : World) (a0 a1 r0 r1 : Value) : ∀ j u, [Value.int .u8 0][j]? = some u → (((w.alloc (.cells #[a0, a1] 49)).alloc (.cells #[r0, r1] 49)).alloc (.cells #[.int .u8 0] 5)).cell? ((⟨w.heap.size + 1 + 1, 0, none⟩ : Addr).add j) = some u := by
  intro j u hj
  have := cell_one_new ((w.alloc (.cells #[a0, a1] 49)).alloc (.cells #[r0, r1] 49)) (.int .u8 0) 5 j u hj
  simpa using this
theorem new_setCell {a w : World} {row : Option Nat} (h : a.grownBy w row) {p : Addr} (hp : a.heap.size ≤ p.block) (u : Value) : a.grownBy (w.setCell p u) row :=
  ⟨h.os, h.tape, h.output, by simpa [World.setCell] using h.size, fun i hi hne => (Below.heap_setCell w p u i (by omega)).trans (h.block i hi hne)⟩
theorem row_set {w : World} {base g n cap : Nat} {bs : List Nat} (h : w.ownsRow base 5 1 (.slice (some ⟨g, 0, none⟩) n cap) n (bs.map byteV)) (k x : Nat) :
    (w.setCell ⟨g, k, none⟩ (.int .u8 (x : Int))).ownsRow base 5 1 (.slice (some ⟨g, 0, none⟩) n cap) n ((bs.set k x).map byteV) := by
  obtain ⟨h1, h2⟩ := h
  rcases h2 with ⟨e, _⟩ | ⟨g', cap', cur, e, hb, hh, hnc, hcm, hcs, ht⟩
  · cases e
  · simp only [Value.slice.injEq, Option.some.injEq, Addr.mk.injEq, and_true] at e
    obtain ⟨rfl, _, rfl⟩ := e
    refine ⟨by rw [List.length_map, List.length_set]; rw [List.length_map] at h1; exact h1, .inr ⟨g, cap, cur.setIfInBounds k (.int .u8 (x : Int)), rfl, hb, Blk.set_ hh k _, hnc, hcm, by simpa using hcs, ?_⟩⟩
    rw [Array.toList_setIfInBounds, List.take_set, ht, List.map_set]
    rfl
def PushNew (w : World) (base n : Nat) (bs : List Nat) (v : Value) (N x : Nat) (e : Ending) (w' : World) : Prop :=
  ∃ g cap, e = .returned (.agg #[.slice (some ⟨g, 0, none⟩) (n + 1) cap, .int .i64 ((N : Int) + 1)]) ∧ w'.ownsRow base 5 1 (.slice (some ⟨g, 0, none⟩) (n + 1) cap) (n + 1) ((bs.set (N / 8) x).map byteV) ∧ w.grownBy w' v.ownBlock ∧ (v.ownBlock = some g ∨ w.heap.size ≤ g)
set_option maxHeartbeats 1000000 in
theorem push_new (A : Option Addr) (n c x base : Nat) (bs : List Nat) (l : List Bool) (w : World) (hl : l.length ≤ 70000) (h8 : (((l.length : Int) % 8) == 0) = true) (hx : Hid (x < 2)) (hn : Hid (l.length / 8 = n)) (hbn : Hid (bs.length = n))
    (hown : Hid (w.ownsRow base 5 1 (.slice A n c) n (bs.map byteV))) (hbase : Hid (base ≤ w.heap.size)) (hv : Hid (∀ ad, A = some ad → ad.block < w.heap.size)) :
    Calls Tryz.prog 129 #[.agg #[.slice A n c, .int .i64 (l.length : Int)], .int .u64 (x : Int)] w (PushNew w base n (bs ++ [0]) (.slice A n c) l.length (x * 2 ^ (7 - l.length % 8))) := by
  have HN := Lib.hid (push_news w (.slice A n c) (.int .i64 (l.length : Int)) (.slice none 0 0) (.int .i64 0))
  obtain ⟨i0, hi0, hz0, hz1, hz2⟩ := info_parts info_u8
  go_enter Tryz.func129, Tryz.ntmps129
  go_wp2_with (at_builtin; refine wpList_append_own_at _ rfl (.tmp 10) (.tmp 11) 28 rfl base 5 i0 _ 1 1 Tryz.underlying28 hi0 hz0 hz1 hz2 rfl (by omega) (.slice A n c) n (bs.map byteV) rfl (((hown.out.alloc _).alloc _).alloc _) ⟨w.heap.size + 1 + 1, 0, none⟩ 1 1 [.int .u8 0] rfl rfl HN.out (by intro u hu; simp at hu; subst hu; rfl) (by have := hn.out; unfold maxLen; omega) (by have := hn.out; omega) (by have := hbase.out; simp; omega) ?_; intro v1 w1 hown1 hg1 _ hat1; obtain ⟨g, cap, rfl, hc, hf, ⟨b0, b1, b2, b3⟩, ⟨y0, y1, y2, y3⟩, ⟨n1, n2⟩, hat, hgr⟩ := push_form hbn.out hv.out hown1 hg1 hat1; have hc' : w1.cell? ⟨g, l.length / 8, none⟩ = some (.int .u8 0) := (by rw [hn.out]; exact hc); have hf' : w1.frozen? ⟨g, l.length / 8, none⟩ = false := (by rw [hn.out]; exact hf); have hln : l.length / 8 < n + 1 := (by have := hn.out; omega); clear hc hf; have HOWN := Lib.hid hown1; have HGR := Lib.hid hgr; have HAT := Lib.hid hat; clear hown1 hg1 hat1 hgr hat)
  go_region
  all_goals go_wp2
  have e0 : bits BinOp.or IntKind.u8 0 (IntKind.u64.wrap ((x : Int) * 2 ^ (7 - l.length % 8)) % 256) = ((x * 2 ^ (7 - l.length % 8) : Nat) : Int) := by
    have := push_or x 0 (7 - l.length % 8) hx.out (by omega) (by omega)
    rw [Nat.zero_or] at this
    exact this
  rw [e0]
  refine bodyPost_ret (v := .agg #[.slice (some ⟨g, 0, none⟩) (n + 1) cap, .int .i64 ((l.length : Int) + 1)]) (by simp [results, Tryz.results129, go_sem, y0, y1]) rfl ⟨g, cap, rfl, ?_, ?_, HAT.out⟩
  · have hbs : bs.map byteV ++ [.int .u8 0] = (bs ++ [0]).map byteV := by rw [List.map_append]; rfl
    have h1 := HOWN.out
    rw [hbs] at h1
    have h2 := row_set (ownsRow_setCell_other h1 (a := ⟨w.heap.size, 0, none⟩) (by simp [Value.ownBlock]; exact n1) (.slice (some ⟨g, 0, none⟩) (n + 1) cap)) (l.length / 8) (x * 2 ^ (7 - l.length % 8))
    have h3 := ownsRow_setCell_other h2 (a := ⟨w.heap.size, 1, none⟩) (by simp [Value.ownBlock]; exact n1) (.int .i64 ((l.length : Int) + 1))
    have h4 := ownsRow_setCell_other (ownsRow_setCell_other h3 (a := ⟨w.heap.size + 1, 0, none⟩) (by simp [Value.ownBlock]; exact n2) (.slice (some ⟨g, 0, none⟩) (n + 1) cap)) (a := ⟨w.heap.size + 1, 1, none⟩) (by simp [Value.ownBlock]; exact n2) (.int .i64 ((l.length : Int) + 1))
    exact World.ownsRow.drew h4
  · rcases HAT.out with e | e
    · have hg := HGR.out
      rw [e] at hg ⊢
      exact only_drew (only_setCell (only_setCell (only_setCell (only_setCell (only_setCell hg (.inr (by simp)) _) (.inl rfl) _) (.inr (by simp)) _) (.inr (by simp)) _) (.inr (by simp)) _)
    · exact only_drew (new_setCell (new_setCell (new_setCell (new_setCell (new_setCell HGR.out (by simp) _) (by simpa using e) _) (by simp) _) (by simp) _) (by simp) _)
theorem OwnB.lt {w : World} {base n c : Nat} {A : Option Addr} {l : List Bool} (h : OwnB w base (.slice A n c) l) : ∀ ad, A = some ad → ad.block < w.heap.size := by
  intro ad e
  subst e
  exact (World.ownsRow.lt h ad.block rfl).2
theorem push_any (A : Option Addr) (n c : Nat) (l : List Bool) (N : Int) (b : Bool) (t base : Nat) (w : World) (h : OwnB w base (.slice A n c) l) (hN : N = (l.length : Int)) (ht : t = b.toNat) (hl : l.length ≤ 70000) (hbase : base ≤ w.heap.size) :
    Calls Tryz.prog 129 #[.agg #[.slice A n c, .int .i64 N], .int .u64 (t : Int)] w (PushPost w base (.slice A n c) (l ++ [b])) := by
  subst hN ht
  by_cases h8 : l.length % 8 = 0
  · have hn := h.rd.2
    have hp := pack_length l
    have hown := h
    unfold OwnB at hown
    rw [← hn] at hown
    refine (push_new A n c b.toNat base (pack l) l w hl (by simp only [beq_iff_eq]; omega) (Lib.hid (by cases b <;> decide)) (Lib.hid (by omega)) (Lib.hid hn.symm) (Lib.hid hown) (Lib.hid hbase) (Lib.hid h.lt)).mono ?_
    rintro e w' ⟨g, cap, rfl, ho, hg, hat⟩
    have e1 : ((l ++ [b]).length : Int) = (l.length : Int) + 1 := by simp
    have e2 := push_more l b h8
    rw [Nat.zero_or] at e2
    rw [e2] at ho
    have hlen : n + 1 = (pack (l ++ [b])).length := by rw [pack_length, List.length_append]; simp; omega
    refine ⟨g, n + 1, cap, by rw [e1], ?_, hg, hat⟩
    unfold OwnB
    rw [← hlen]
    exact ho
  · exact push_same_any A n c l b base w h hl h8
end Go.Proofs.YtgpdgegelipboaaGreatDoor
namespace Go.Proofs.YtgpdgegelipboaaGreatDoor
open Go.RowKit
theorem own_ne {w : World} {base g : Nat} {v : Value} {l : List Bool} {t : TypeId} {cs : Array Value} (h : OwnB w base v l) (hb : Blk w g t cs) (ht : 5 ≠ t) : v.ownBlock ≠ some g := by
  rcases h.2 with ⟨rfl, _⟩ | ⟨g', cap, cur, rfl, _, hh, _⟩
  · simp [Value.ownBlock]
  · intro e
    simp only [Value.ownBlock, Option.some.injEq] at e
    subst e
    exact Blk.ne_ (t := 5) hh hb ht rfl
theorem Blk.row {w w' : World} {g : Nat} {t : TypeId} {cs : Array Value} {row : Option Nat} (h : Blk w g t cs) (hb : w.grownBy w' row) (hg : row ≠ some g) : Blk w' g t cs := (hb.block g h.lt (fun e => hg e.symm)).trans h
theorem OwnB.keep {w w' : World} {base : Nat} {v : Value} {l : List Bool} (h : OwnB w base v l) (hb : Below w.heap.size w w') : OwnB w' base v l :=
  World.ownsRow.kept h (only_of_below hb none) (by cases hv : v.ownBlock with | none => exact .inl rfl | some k => exact .inr (by simp))
def RO (w : World) (g7 : Nat) (l : List Bool) (wr : World) : Prop :=
  Blk wr w.heap.size 49 #[.slice none 0 0, .int .i64 0] ∧ Below w.heap.size w wr ∧
  ∃ A n c, Blk wr g7 49 #[.slice A n c, .int .i64 ((l.length : Nat) : Int)] ∧ OwnB wr w.heap.size (.slice A n c) l
theorem RO.alloc {w wr : World} {g7 : Nat} {l : List Bool} (h : RO w g7 l wr) (o : Obj) : RO w g7 l (wr.alloc o) := by
  obtain ⟨h1, h2, A, n, c, h3, h4⟩ := h
  exact ⟨h1.alloc o, h2.alloc h2.size o, A, n, c, h3.alloc o, h4.alloc o⟩
end Go.Proofs.YtgpdgegelipboaaGreatDoor
namespace Go.Proofs.YtgpdgegelipboaaGreatDoor
open Go.RowKit
def jWhat (xs : List It) : Int × Int × List Nat :=
  if xs.all It.ok then (if sumN xs ≤ 65536 then (((allBits xs).length : Int), 0, pack (allBits xs)) else (0, 2, [])) else (0, 1, [])
def JOut (w : World) (N E : Int) (bs : List Nat) (e : Ending) (w' : World) : Prop :=
  ∃ A n c, e = .returned (.tuple #[.agg #[.slice A n c, .int .i64 N], .int .i64 E]) ∧ Below w.heap.size w w' ∧ Rd w' A n bs
theorem JoinPost.out {w w' : World} {xs : List It} {e : Ending} {N E : Int} {bs : List Nat} (h : JoinPost w xs e w') (hj : jWhat xs = (N, E, bs)) : JOut w N E bs e w' := by
  obtain ⟨hb, h⟩ := h
  unfold jWhat at hj
  rcases h with ⟨⟨x, hx, hf⟩, rfl⟩ | ⟨hok, hs, rfl⟩ | ⟨hok, hs, v, rfl, hv⟩
  · have hall : xs.all It.ok = false := by
      cases h : xs.all It.ok
      · rfl
      · rw [List.all_eq_true.1 h x hx] at hf; cases hf
    rw [hall] at hj
    simp only [Bool.false_eq_true, if_false, Prod.mk.injEq] at hj
    obtain ⟨rfl, rfl, rfl⟩ := hj
    exact ⟨none, 0, 0, rfl, hb, Rd.none_⟩
  · rw [List.all_eq_true.2 hok, if_pos rfl, if_neg (by omega)] at hj
    simp only [Prod.mk.injEq] at hj
    obtain ⟨rfl, rfl, rfl⟩ := hj
    exact ⟨none, 0, 0, rfl, hb, Rd.none_⟩
  · rw [List.all_eq_true.2 hok, if_pos rfl, if_pos hs] at hj
    simp only [Prod.mk.injEq] at hj
    obtain ⟨rfl, rfl, rfl⟩ := hj
    obtain ⟨A, c, rfl, hr, _⟩ := hv
    exact ⟨A, _, c, rfl, hb, hr⟩
end Go.Proofs.YtgpdgegelipboaaGreatDoor
namespace Go.Proofs.YtgpdgegelipboaaGreatDoor
open Go.RowKit
def CopyPost (w : World) (bs : List Nat) (N : Int) (e : Ending) (w' : World) : Prop :=
  ∃ A n c, e = .returned (.agg #[.slice A n c, .int .i64 N]) ∧ w'.ownsRow w.heap.size 5 1 (.slice A n c) n (bs.map byteV) ∧ Below w.heap.size w w'
theorem copy_form {w w1 : World} {a1 a2 r1 r2 : Value} (hg : (((w.alloc (.cells #[a1, a2] 49)).alloc (.cells #[r1, r2] 49)).drew).grownBy w1 none) :
    (w1.cell? ⟨w.heap.size, 0, none⟩ = some a1 ∧ w1.cell? ⟨w.heap.size, 1, none⟩ = some a2) ∧ (w1.cell? ⟨w.heap.size + 1, 0, none⟩ = some r1 ∧ w1.cell? ⟨w.heap.size + 1, 1, none⟩ = some r2 ∧ w1.frozen? ⟨w.heap.size + 1, 0, none⟩ = false ∧ w1.frozen? ⟨w.heap.size + 1, 1, none⟩ = false) ∧ Below w.heap.size w w1 := by
  have B0 : Blk ((w.alloc (.cells #[a1, a2] 49)).alloc (.cells #[r1, r2] 49)).drew w.heap.size 49 #[a1, a2] := (Blk.new w 49 #[a1, a2]).alloc _
  have B1 : Blk ((w.alloc (.cells #[a1, a2] 49)).alloc (.cells #[r1, r2] 49)).drew (w.heap.size + 1) 49 #[r1, r2] := Blk.newAt (w := w.alloc (.cells #[a1, a2] 49)) (by simp)
  have C0 : Blk w1 w.heap.size 49 #[a1, a2] := (hg.block _ B0.lt (by simp)).trans B0
  have C1 : Blk w1 (w.heap.size + 1) 49 #[r1, r2] := (hg.block _ B1.lt (by simp)).trans B1
  refine ⟨⟨C0.cell 0, C0.cell 1⟩, ⟨C1.cell 0, C1.cell 1, C1.frozen 0, C1.frozen 1⟩, ?_⟩
  exact (Below.drew (((Below.refl w.heap.size w).alloc (Nat.le_refl _) (.cells #[a1, a2] 49)).alloc (by simp) (.cells #[r1, r2] 49))).grown hg (by have h : w.heap.size ≤ ((w.alloc (.cells #[a1, a2] 49)).alloc (.cells #[r1, r2] 49)).heap.size := (by simp; omega); exact h) (by simp)
set_option maxHeartbeats 1000000 in
theorem rcopy_pos (ad : Addr) (n c : Nat) (N : Int) (bs : List Nat) (w : World) (hr : Hid (Rd w (some ad) n bs)) (hn0 : Hid (0 < n)) (hn : Hid (n ≤ 20000)) (_hlt : ad.block < w.heap.size) :
    Calls Tryz.prog 62 #[.agg #[.slice (some ad) n c, .int .i64 N]] w (CopyPost w bs N) := by
  obtain ⟨i0, hi0, hz0, hz1, hz2⟩ := info_parts info_u8
  have HN := Lib.hid (show ∀ j u, (bs.map byteV)[j]? = some u → (((w.alloc (.cells #[.slice (some ad) n c, .int .i64 N] 49)).alloc (.cells #[.slice none 0 0, .int .i64 0] 49)).drew).cell? (ad.add j) = some u from by
    intro j u hu
    have hrd := (((hr.out.alloc (.cells #[.slice (some ad) n c, .int .i64 N] 49)).alloc (.cells #[.slice none 0 0, .int .i64 0] 49)).drew)
    obtain ⟨ad', e, hc⟩ := hrd.2.2 hn0.out
    injection e with e
    subst e
    rw [List.getElem?_map] at hu
    obtain ⟨x, hx, rfl⟩ := Option.map_eq_some_iff.1 hu
    exact hc j x hx)
  have HLN := Lib.hid (show (bs.map byteV).length = n * 1 by rw [List.length_map, hr.out.1, Nat.mul_one])
  have HONE := Lib.hid (show ∀ u ∈ bs.map byteV, u.oneCell' = true from by
    intro u hu
    obtain ⟨x, _, rfl⟩ := List.mem_map.1 hu
    rfl)
  go_enter Tryz.func62, Tryz.ntmps62
  go_wp2
  go_region_law (first
    | (refine step_append_lies _ rfl (.const (.slice none 0 0)) (.tmp 4) 28 rfl w.heap.size 5 i0 _ 1 1 Tryz.underlying28 hi0 hz0 hz1 hz2 rfl (by omega) (.slice none 0 0) 0 [] rfl (World.ownsRow_nil _ _ _ _) ad n c (bs.map byteV) rfl HLN.out HN.out HONE.out hn0.out (by have := hn.out; unfold maxLen; omega) (by have := hn.out; omega) (by simp; omega) _ rfl ?_
       intro g cap w1 hown1 hg1 hat1 hlt1
       obtain ⟨⟨b10, b11⟩, ⟨y0, y1, y2, y3⟩, hbl⟩ := copy_form hg1
       have HOWN := Lib.hid hown1
       have HBL := Lib.hid hbl
       have HG := Lib.hid hat1
       clear hown1 hg1 hat1 hbl))
  all_goals
    go_wp2
    refine bodyPost_ret (v := .agg #[.slice (some ⟨g, 0, none⟩) n cap, .int .i64 N]) (by simp [results, Tryz.results62, go_sem, y0, y1]) rfl ⟨_, _, _, rfl, ?_, ?_⟩
    · have ho := HOWN.out
      rw [Nat.zero_add, List.nil_append] at ho
      have hne : ¬ g = w.heap.size + 1 := by
        have hg : g = ((w.alloc (.cells #[.slice (some ad) n c, .int .i64 N] 49)).alloc (.cells #[.slice none 0 0, .int .i64 0] 49)).heap.size := by
          rcases HG.out with h | h
          · simp [Value.ownBlock] at h
          · exact h
        rw [hg]
        simp
      exact ownsRow_setCell_other (ownsRow_setCell_other ho (by simp [Value.ownBlock]; exact hne) _) (by simp [Value.ownBlock]; exact hne) _
    · exact (HBL.out.setCell (by simp) _).setCell (by simp) _
set_option maxHeartbeats 1000000 in
theorem rcopy_zero (A : Option Addr) (c : Nat) (N : Int) (w : World) :
    Calls Tryz.prog 62 #[.agg #[.slice A 0 c, .int .i64 N]] w (CopyPost w [] N) := by
  cases A
  all_goals
    go_enter Tryz.func62, Tryz.ntmps62
    go_wp2
    go_region
    all_goals
      go_wp2
      refine bodyPost_ret (v := .agg #[.slice none 0 0, .int .i64 N]) (by simp [results, Tryz.results62, go_sem]) rfl ⟨_, _, _, rfl, World.ownsRow_nil _ _ _ _, ?_⟩
      exact Below.drew (((Below.refl _ _).alloc (Nat.le_refl _) _).alloc (by simp) _)
theorem rcopy_any (A : Option Addr) (n c : Nat) (N : Int) (bs : List Nat) (w : World) (hr : Rd w A n bs) (hn : n ≤ 20000) :
    Calls Tryz.prog 62 #[.agg #[.slice A n c, .int .i64 N]] w (CopyPost w bs N) := by
  by_cases h0 : 0 < n
  · obtain ⟨ad, rfl, hb, _, _⟩ := hr.at_ h0
    exact rcopy_pos ad n c N bs w (Lib.hid hr) (Lib.hid h0) (Lib.hid hn) hb
  · obtain rfl : n = 0 := by omega
    obtain rfl : bs = [] := List.eq_nil_of_length_eq_zero hr.1
    exact rcopy_zero A c N w
end Go.Proofs.YtgpdgegelipboaaGreatDoor
namespace Go.Proofs.YtgpdgegelipboaaGreatDoor
open Go.RowKit
def pWhat (l : List Bool) : Int × Int × List Nat := if l.length ≤ 65536 then ((l.length : Int), 0, pack l) else (0, 2, [])
theorem BBad.out {w w' : World} {e : Ending} {E : Int} (h : BBad w E e w') : JOut w 0 E [] e w' := by
  obtain ⟨rfl, hb⟩ := h
  exact ⟨none, 0, 0, rfl, hb, Rd.none_⟩
theorem BOut.out {w w' : World} {B : Nat} {l : List Bool} {e : Ending} {N E : Int} {bs : List Nat} (h : BOut w (JQ B l) e w') (hp : pWhat l = (N, E, bs)) : JOut w N E bs e w' := by
  obtain ⟨A, n, c, N', er, rfl, hb, hq⟩ := h
  unfold pWhat at hp
  rcases hq with ⟨h1, rfl, g, e1, _, hblk, _⟩ | ⟨h1, rfl, e1⟩
  · rw [if_pos h1] at hp
    simp only [Prod.mk.injEq] at hp
    obtain ⟨rfl, rfl, rfl⟩ := hp
    rw [e1]
    exact ⟨_, _, _, rfl, hb, Rd.of_blk hblk (pack_lt _)⟩
  · rw [if_neg (by omega)] at hp
    simp only [Prod.mk.injEq] at hp
    obtain ⟨rfl, rfl, rfl⟩ := hp
    rw [e1]
    exact ⟨none, 0, 0, rfl, hb, Rd.none_⟩
def RP (w : World) (v0 v1 : Value) (g8 : Nat) (l : List Bool) (wr : World) : Prop :=
  Two w w.heap.size v0 v1 wr ∧ ∃ A n c, Blk wr g8 49 #[.slice A n c, .int .i64 ((l.length : Nat) : Int)] ∧ OwnB wr w.heap.size (.slice A n c) l
theorem rp_push {w w2 w3 : World} {g8 n c : Nat} {A : Option Addr} {l : List Bool} {v0 v1 N : Value} (h1 : Two w w.heap.size v0 v1 w2) (h3 : Blk w2 g8 49 #[.slice A n c, N]) (h4 : OwnB w2 w.heap.size (.slice A n c) l) (hg : w2.grownBy w3 (Value.slice A n c).ownBlock) :
    Two w w.heap.size v0 v1 w3 ∧ Blk w3 g8 49 #[.slice A n c, N] :=
  ⟨⟨h1.1.row hg (own_ne h4 h1.1 (by decide)), h1.2.1.row hg (own_ne h4 h1.2.1 (by decide)), h1.2.2.grown hg (Nat.le_of_lt h1.1.lt) (fun k hk => (World.ownsRow.lt h4 k hk).1)⟩, h3.row hg (own_ne h4 h3 (by decide))⟩
theorem rp_store {w w3 : World} {g8 n c : Nat} {A : Option Addr} {l : List Bool} {v0 v1 a N : Value} {N' : Int} (h1 : Two w w.heap.size v0 v1 w3) (h3 : Blk w3 g8 49 #[a, N]) (h4 : OwnB w3 w.heap.size (.slice A n c) l) (e8 : w.heap.size + 1 < g8) (hN : N' = ((l.length : Nat) : Int)) :
    RP w v0 v1 g8 l ((w3.setCell ⟨g8, 0, none⟩ (.slice A n c)).setCell ⟨g8, 1, none⟩ (.int .i64 N')) := by
  subst hN
  refine ⟨⟨(h1.1.far (by simp; omega) _).far (by simp; omega) _, (h1.2.1.far (by simp; omega) _).far (by simp; omega) _, (h1.2.2.setCell (by simp; omega) _).setCell (by simp; omega) _⟩, A, n, c, ?_, ?_⟩
  · have := (h3.set_ 0 (.slice A n c)).set_ 1 (.int .i64 ((l.length : Nat) : Int))
    simpa using this
  · exact ownsRow_setCell_other (ownsRow_setCell_other h4 (own_ne h4 h3 (by decide)) _) (own_ne h4 h3 (by decide)) _
theorem own_base {w : World} {base base' : Nat} {v : Value} {n : Nat} {xs : List Value} (h : w.ownsRow base 5 1 v n xs) (hb : base' ≤ base) : w.ownsRow base' 5 1 v n xs := by
  obtain ⟨h1, h2⟩ := h
  rcases h2 with h2 | ⟨g, cap, cur, e, hg, rest⟩
  · exact ⟨h1, .inl h2⟩
  · exact ⟨h1, .inr ⟨g, cap, cur, e, by omega, rest⟩⟩
theorem and_bit (v i : Nat) (h : v < 2 ^ 64) : bits BinOp.and IntKind.u64 ((v : Int) / 2 ^ i) 1 = (((v.testBit i).toNat : Nat) : Int) := by
  have e : ((v : Int) / 2 ^ i) = ((v / 2 ^ i : Nat) : Int) := by simp
  have hl : v / 2 ^ i ≤ v := Nat.div_le_self _ _
  rw [e, show (1 : Int) = ((1 : Nat) : Int) from rfl, u64_and_nat _ _ (by omega) (by omega), nat_mask1, Nat.toNat_testBit]
set_option maxHeartbeats 1000000 in
theorem rput_core (A : Option Addr) (n c : Nat) (l : List Bool) (v width : Nat) (w : World) (hr : Hid (Rd w A n (pack l))) (hn : Hid (n = (pack l).length)) (hl : l.length ≤ 65536)
    (hw : width ≤ 64) (hv : Hid (v < 2 ^ 64)) (hvw : (decide ((width : Int) < 64) = true ∧ ((v : Int) / 2 ^ width != 0) = false) ∨ decide ((width : Int) < 64) = false) (hlen : l.length + width ≤ 65536) :
    Calls Tryz.prog 112 #[.agg #[.slice A n c, .int .i64 (l.length : Int)], .int .u64 (v : Int), .int .i64 (width : Int)] w (JOut w ((l ++ bitsOf width v).length : Int) 0 (pack (l ++ bitsOf width v))) := by
  have hd1 : decide ((width : Int) < 0) = false := by simp
  have hd2 : decide ((64 : Int) < (width : Int)) = false := by simp; omega
  have hn2 : n ≤ 20000 := by have := hn.out; have := pack_length l; omega
  have hd4 : decide ((65536 : Int) < (l.length : Int) + (width : Int)) = false := by simp; omega
  have HLL := Lib.hid hl
  rcases hvw with ⟨hd3, hs⟩ | hd3
  all_goals
    go_enter Tryz.func112, Tryz.ntmps112
    go_wp2_with fail
    refine (rcheck_yes _ _ _ _ (pack l) _ ((hr.out.alloc _).alloc _) (okB_pack l HLL.out)).mono ?_
    rintro e w1 ⟨rfl, hb1⟩
    have H1 := Lib.hid ((Two.start w (.slice A n c) (.int .i64 (l.length : Int))).next hb1)
    have HR1 := Lib.hid (((hr.out.alloc _).alloc _).below hb1)
    obtain ⟨b0, b1⟩ := H1.out.cells
    clear hb1
    go_wp2_with fail
    refine (rcopy_any A n c _ (pack l) _ HR1.out hn2).mono ?_
    rintro e w2 ⟨A2, n2, c2, rfl, hown2, hb2⟩
    have hn22 : n2 = (pack l).length := by have := hown2.1; rw [List.length_map] at this; omega
    have H2 := Lib.hid (H1.out.next hb2)
    have HO2 := Lib.hid (show OwnB w2 w.heap.size (.slice A2 n2 c2) l from by unfold OwnB; rw [← hn22]; exact own_base hown2 (Nat.le_of_lt H1.out.1.lt))
    have hg8 : w.heap.size + 1 < w2.heap.size := H2.out.2.1.lt
    clear hb2 hown2 hn22 b0 b1
    go_wp2
    have hst : Blk (w2.alloc (.cells #[.slice A2 n2 c2, .int .i64 (l.length : Int)] 49)) w2.heap.size 49 #[.slice A2 n2 c2, .int .i64 (l.length : Int)] := Blk.new _ _ _
    generalize w2.heap.size = g8 at hg8 hst ⊢
    have HST := Lib.hid hst
    clear hst
    go_loopw [9] (fun i wr => ∃ k : Nat, k ≤ width ∧ i = .int .i64 ((width : Int) - 1 - (k : Int)) ∧ RP w (.slice A n c) (.int .i64 (l.length : Int)) g8 (l ++ (bitsOf width v).take k) wr)
      (fun i _ => (intOf i + 1).toNat)
    case atStart =>
      refine ⟨0, Nat.zero_le _, by go_num, H2.out.alloc _, A2, n2, c2, ?_, ?_⟩
      · rw [List.take_zero, List.append_nil]; exact HST.out
      · rw [List.take_zero, List.append_nil]; exact HO2.out.alloc _
    case round =>
      obtain ⟨k, hk, rfl, r1, A3, n3, c3, r3, r4⟩ := hrel
      by_cases hlt : k < width
      · obtain ⟨NL, hNL⟩ : ∃ NL : Nat, NL = (l ++ (bitsOf width v).take k).length := ⟨_, rfl⟩
        have hNLl : NL ≤ 65536 := by rw [hNL, List.length_append, List.length_take, bitsOf_length]; omega
        rw [← hNL] at r3
        have o0 : wr.cell? ⟨g8, 0, none⟩ = some (.slice A3 n3 c3) := r3.cell 0
        have o1 : wr.cell? ⟨g8, 1, none⟩ = some (.int .i64 (NL : Int)) := r3.cell 1
        obtain ⟨t, ht⟩ : ∃ t, t = (bitF (bitsOf width v) k).toNat := ⟨_, rfl⟩
        have hb : bits BinOp.and IntKind.u64 ((v : Int) / 2 ^ (width - 1 - k)) 1 = (t : Int) := by
          rw [and_bit v _ hv.out, ht, bitF_bitsOf]
          simp [hlt]
        have hge : (0 : Int) ≤ (width : Int) - 1 - (k : Int) := by omega
        have htn : ((width : Int) - 1 - (k : Int)).toNat = width - 1 - k := by omega
        have HR1 := Lib.hid r1
        have HR3 := Lib.hid r3
        have HR4 := Lib.hid r4
        have HT := Lib.hid ht
        have HNL := Lib.hid hNL
        have HB := Lib.hid hb
        have HEN := Lib.hid (show ((l ++ (bitsOf width v).take k) ++ [bitF (bitsOf width v) k]).length = NL + 1 by rw [List.length_append, ← hNL]; rfl)
        clear r1 r3 r4 ht hNL hb
        go_wp2_with fail
        rw [HB.out]
        refine (push_any A3 n3 c3 (l ++ (bitsOf width v).take k) _ (bitF (bitsOf width v) k) t w.heap.size _ HR4.out (by rw [HNL.out]) HT.out (by rw [← HNL.out]; omega) (Nat.le_of_lt HR1.out.1.lt)).mono ?_
        rintro e w3 ⟨g, n4, cap4, rfl, ho3, hg3, hat3⟩
        rw [HEN.out]
        have P := rp_push HR1.out HR3.out HR4.out hg3
        have p0 : w3.cell? ⟨g8, 0, none⟩ = some (.slice A3 n3 c3) := P.2.cell 0
        have p1 : w3.cell? ⟨g8, 1, none⟩ = some (.int .i64 (NL : Int)) := P.2.cell 1
        have p2 := P.2.frozen 0
        have p3 := P.2.frozen 1
        have HP := Lib.hid P
        have HO3 := Lib.hid ho3
        clear P ho3 hg3 hat3 htn
        go_wp2
        go_roundw
        case rel =>
          have et : (bitsOf width v).take (k + 1) = (bitsOf width v).take k ++ [bitF (bitsOf width v) k] := by
            have h : k < (bitsOf width v).length := by rw [bitsOf_length]; exact hlt
            rw [List.take_succ_eq_append_getElem h]
            simp [bitF, List.getD_eq_getElem?_getD, h]
          refine ⟨k + 1, by omega, by go_num, ?_⟩
          rw [et, ← List.append_assoc]
          exact rp_store HP.out.1 HP.out.2 HO3.out hg8 (show ((NL : Int) + 1) = _ by rw [HEN.out]; rfl)
        case measure => simp [intOf]; omega
      · obtain rfl : k = width := by omega
        have et : (bitsOf k v).take k = bitsOf k v := List.take_of_length_le (by rw [bitsOf_length]; omega)
        rw [et] at r3 r4
        obtain ⟨z0, z1, f0, f1⟩ := r1.res
        have o0 : wr.cell? ⟨g8, 0, none⟩ = some (.slice A3 n3 c3) := r3.cell 0
        obtain ⟨T, hT⟩ : ∃ T : Nat, T = (l ++ bitsOf k v).length := ⟨_, rfl⟩
        rw [← hT] at r3
        have HTT := Lib.hid hT
        have o1 : wr.cell? ⟨g8, 1, none⟩ = some (.int .i64 (T : Int)) := r3.cell 1
        have HR1 := Lib.hid r1
        have HR4 := Lib.hid r4
        clear r1 r3 r4 hT et
        go_wp2
        refine bodyPost_ret (v := .tuple #[.agg #[.slice A3 n3 c3, .int .i64 (T : Int)], .int .i64 0]) (by simp [results, Tryz.results112, go_sem, z0, z1]) rfl ⟨A3, n3, c3, by rw [HTT.out], ?_, ?_⟩
        · exact bad_below HR1.out _ _
        · obtain ⟨hrd, hn3⟩ := HR4.out.rd
          exact (hrd.setCell _ (fun x => by rw [z0]; simp [byteV])).setCell _ (fun x => by rw [World.cell?_setCell_other _ _ _ _ (by simp), z1]; simp [byteV])
set_option maxHeartbeats 1000000 in
theorem rput_long (A : Option Addr) (n c : Nat) (N v : Int) (width : Nat) (bs : List Nat) (w : World) (hr : Hid (Rd w A n bs)) (hok : Hid (okB bs N = true)) (hw : width ≤ 64) (hN0 : 0 ≤ N) (hN1 : N ≤ 65536)
    (hvw : (decide ((width : Int) < 64) = true ∧ (v / 2 ^ width != 0) = false) ∨ decide ((width : Int) < 64) = false) (hlen : 65536 < N + width) :
    Calls Tryz.prog 112 #[.agg #[.slice A n c, .int .i64 N], .int .u64 v, .int .i64 (width : Int)] w (BBad w 2) := by
  have h1 : decide ((width : Int) < 0) = false := by simp
  have h2 : decide ((64 : Int) < (width : Int)) = false := by simp; omega
  rcases hvw with ⟨h3, h4⟩ | h3
  all_goals
    go_enter Tryz.func112, Tryz.ntmps112
    go_wp2_with fail
    refine (rcheck_yes _ _ _ _ bs _ ((hr.out.alloc _).alloc _) hok.out).mono ?_
    rintro e w1 ⟨rfl, hb1⟩
    have H1 := Lib.hid ((Two.start w (.slice A n c) (.int .i64 N)).next hb1)
    obtain ⟨y0, y1, y2, y3⟩ := H1.out.res
    obtain ⟨b0, b1⟩ := H1.out.cells
    clear hb1
    go_wp2
    exact bodyPost_ret (v := .tuple #[zeroB, .int .i64 2]) (by simp [results, Tryz.results112, go_sem, y0, y1, zeroB]) rfl ⟨rfl, bad_below H1.out _ _⟩
theorem rput_any (v : Value) (l : List Bool) (xi wi : Int) (x width : Nat) (N E : Int) (bs : List Nat) (w : World) (h : IsB w v l) (hxi : xi = (x : Int)) (hwi : wi = (width : Int)) (hw : width ≤ 64) (hx : x < 2 ^ width) (hp : pWhat (l ++ bitsOf width x) = (N, E, bs)) :
    Calls Tryz.prog 112 #[v, .int .u64 xi, .int .i64 wi] w (JOut w N E bs) := by
  subst hxi hwi
  obtain ⟨A, c, rfl, hr, hl⟩ := h
  have h64 : x < 2 ^ 64 := Nat.lt_of_lt_of_le hx (Nat.pow_le_pow_right (by omega) hw)
  have hdiv : x / 2 ^ width = 0 := Nat.div_eq_of_lt hx
  have hvw : (decide ((width : Int) < 64) = true ∧ ((x : Int) / 2 ^ width != 0) = false) ∨ decide ((width : Int) < 64) = false := by
    by_cases h : width < 64
    · refine .inl ⟨by simp; omega, ?_⟩
      have e : ((x : Int) / 2 ^ width) = ((x / 2 ^ width : Nat) : Int) := by simp
      rw [e, hdiv]
      rfl
    · exact .inr (by simp; omega)
  have hlen : (l ++ bitsOf width x).length = l.length + width := by rw [List.length_append, bitsOf_length]
  unfold pWhat at hp
  by_cases hf : l.length + width ≤ 65536
  · rw [if_pos (by omega)] at hp
    simp only [Prod.mk.injEq] at hp
    obtain ⟨rfl, rfl, rfl⟩ := hp
    exact rput_core A _ c l x width w (Lib.hid hr) (Lib.hid rfl) hl hw (Lib.hid h64) hvw hf
  · rw [if_neg (by omega)] at hp
    simp only [Prod.mk.injEq] at hp
    obtain ⟨rfl, rfl, rfl⟩ := hp
    exact (rput_long A _ c _ x width _ w (Lib.hid hr) (Lib.hid (okB_pack l hl)) hw (by omega) (by omega) hvw (by omega)).mono fun _ _ h => h.out
end Go.Proofs.YtgpdgegelipboaaGreatDoor
namespace Go.Proofs.YtgpdgegelipboaaGreatDoor.Cd
open Go.RowKit
def wideB (low high : Nat) : Bool := decide (low < high ∧ high < 4294967296 ∧ kind low high = 3)
theorem rwide_any (low high : Nat) (r : Bool) (w : World) (hr : wideB low high = r) :
    Calls Tryz.prog 100 #[.int .u64 (low : Int), .int .u64 (high : Int)] w fun e w' => e = .returned (.bool r) ∧ w = w' := by
  have key : ∀ r : Bool, Hid (wideB low high = r) → Calls Tryz.prog 100 #[.int .u64 (low : Int), .int .u64 (high : Int)] w fun e w' => e = .returned (.bool r) ∧ w = w' := by
    intro r HR
    by_cases h1 : low < high
    · have d1 : decide (high ≤ low) = false := by simp; omega
      by_cases h2 : high < 4294967296
      · have d2 : decide (4294967296 ≤ (high : Int)) = false := by simp; omega
        rcases kind_cases low high with ⟨hk, k1⟩ | ⟨hk, k1, k2⟩ | ⟨hk, k1, k2, k3, k4⟩ | ⟨hk, k1, k2, k3⟩
        · have HE := Lib.hid (show r = false by rw [← HR.out]; simp [wideB, hk])
          have d3 : decide (2147483648 ≤ (high : Int)) = false := by simp; omega
          clear hk
          go_enter Tryz.func100, Tryz.ntmps100
          go_wp2
          go_ret
          exact ⟨by rw [HE.out]; rfl, rfl⟩
        · have HE := Lib.hid (show r = false by rw [← HR.out]; simp [wideB, hk])
          have d3 : decide (2147483648 ≤ (high : Int)) = true := by simp; omega
          have d4 : decide ((low : Int) < 2147483648) = false := by simp; omega
          clear hk
          go_enter Tryz.func100, Tryz.ntmps100
          go_wp2
          go_ret
          exact ⟨by rw [HE.out]; rfl, rfl⟩
        · have HE := Lib.hid (show r = false by rw [← HR.out]; simp [wideB, hk])
          have d3 : decide (2147483648 ≤ (high : Int)) = true := by simp; omega
          have d4 : decide ((low : Int) < 2147483648) = true := by simp; omega
          have d5 : decide (1073741824 ≤ (low : Int)) = true := by simp; omega
          have d6 : decide ((high : Int) < 3221225472) = true := by simp; omega
          clear hk
          go_enter Tryz.func100, Tryz.ntmps100
          go_wp2
          go_ret
          exact ⟨by rw [HE.out]; rfl, rfl⟩
        · have HE := Lib.hid (show r = true by rw [← HR.out]; simp [wideB, hk, h1, h2])
          have d3 : decide (2147483648 ≤ (high : Int)) = true := by simp; omega
          have d4 : decide ((low : Int) < 2147483648) = true := by simp; omega
          clear hk
          by_cases k5 : 1073741824 ≤ low
          · have d5 : decide (1073741824 ≤ (low : Int)) = true := by simp; omega
            have d6 : decide ((high : Int) < 3221225472) = false := by simp; omega
            go_enter Tryz.func100, Tryz.ntmps100
            go_wp2
            go_ret
            exact ⟨by rw [HE.out]; rfl, rfl⟩
          · have d5 : decide (1073741824 ≤ (low : Int)) = false := by simp; omega
            go_enter Tryz.func100, Tryz.ntmps100
            go_wp2
            go_ret
            exact ⟨by rw [HE.out]; rfl, rfl⟩
      · have d2 : decide (4294967296 ≤ (high : Int)) = true := by simp; omega
        have HE := Lib.hid (show r = false by rw [← HR.out]; simp [wideB]; omega)
        go_enter Tryz.func100, Tryz.ntmps100
        go_wp2
        go_ret
        exact ⟨by rw [HE.out]; rfl, rfl⟩
    · have d1 : decide (high ≤ low) = true := by simp; omega
      have HE := Lib.hid (show r = false by rw [← HR.out]; simp [wideB, h1])
      go_enter Tryz.func100, Tryz.ntmps100
      go_wp2
      go_ret
      exact ⟨by rw [HE.out]; rfl, rfl⟩
  exact key r (Lib.hid hr)
theorem emit_nil (l : List Bool) (x : Bool) : emit l x 0 = l ++ [x] := by simp [emit]
theorem emit_snoc (l : List Bool) (x : Bool) (k : Nat) : emit l x k ++ [!x] = emit l x (k + 1) := by
  unfold emit
  rw [List.append_assoc, List.cons_append, ← List.replicate_succ', List.replicate_succ]
theorem bitsOf_one (x : Bool) : bitsOf 1 x.toNat = [x] := by cases x <;> rfl
theorem two_set {w : World} {g : Nat} {t : TypeId} {a b : Value} (h : Blk w g t #[a, b]) (c d : Value) : Blk ((w.setCell ⟨g, 0, none⟩ c).setCell ⟨g, 1, none⟩ d) g t #[c, d] := by
  have := (h.set_ 0 c).set_ 1 d
  simpa using this
theorem blk2 {w : World} {t : TypeId} {a b : Value} {g : Nat} (h : Blk w g t #[a, b]) : w.cell? ⟨g, 0, none⟩ = some a ∧ w.cell? ⟨g, 1, none⟩ = some b ∧ w.frozen? ⟨g, 0, none⟩ = false ∧ w.frozen? ⟨g, 1, none⟩ = false := ⟨h.cell 0, h.cell 1, h.frozen 0, h.frozen 1⟩
theorem pWhat_cases {l : List Bool} {N E : Int} {bs : List Nat} (h : pWhat l = (N, E, bs)) : (l.length ≤ 65536 ∧ N = (l.length : Int) ∧ E = 0 ∧ bs = pack l) ∨ (65536 < l.length ∧ N = 0 ∧ E = 2 ∧ bs = []) := by
  unfold pWhat at h
  split at h
  · simp only [Prod.mk.injEq] at h
    exact .inl ⟨by assumption, h.1.symm, h.2.1.symm, h.2.2.symm⟩
  · simp only [Prod.mk.injEq] at h
    exact .inr ⟨by omega, h.1.symm, h.2.1.symm, h.2.2.symm⟩
theorem rd_box {w : World} {A : Option Addr} {n g : Nat} {bs : List Nat} {t : TypeId} {v0 : Option Addr} {v1 v2 : Nat} {v3 : Int} (h : Rd w A n bs) (hb : Blk w g t #[.slice v0 v1 v2, .int .i64 v3]) (a b : Value) : Rd ((w.setCell ⟨g, 0, none⟩ a).setCell ⟨g, 1, none⟩ b) A n bs := by
  have h1 := h.setCell (p := ⟨g, 0, none⟩) a (fun x => by rw [hb.cell 0]; simp [byteV])
  refine h1.setCell b (fun x => ?_)
  rw [(hb.set_ 0 a).cell 1]
  simp [byteV]
theorem emit_mono (l : List Bool) (x : Bool) {k m : Nat} (h : k ≤ m) : (emit l x k).length ≤ (emit l x m).length := by rw [emit_length, emit_length]; omega
def OutS (w wr : World) (b : Nat) (l : List Bool) (x : Bool) (k : Nat) (E : Int) : Prop :=
  ∃ A n c N bs, pWhat (emit l x k) = (N, E, bs) ∧ Blk wr b 49 #[.slice A n c, .int .i64 N] ∧ Blk wr (b + 1) 49 #[.slice none 0 0, .int .i64 0] ∧ Rd wr A n bs ∧ Below w.heap.size w wr
set_option maxHeartbeats 4000000 in
theorem rout_any (A : Option Addr) (n c : Nat) (l : List Bool) (x : Bool) (t wait : Nat) (N0 N E : Int) (bs : List Nat) (w : World) (h : Hid (IsB w (.agg #[.slice A n c, .int .i64 N0]) l)) (ht : Hid (t = x.toNat)) (ht1 : t ≤ 1) (hw : wait ≤ 100000) (hp : Hid (pWhat (emit l x wait) = (N, E, bs))) :
    Calls Tryz.prog 83 #[.agg #[.slice A n c, .int .i64 N0], .int .u64 (t : Int), .int .i64 (wait : Int)] w (JOut w N E bs) := by
  obtain ⟨b, hb⟩ : ∃ b, b = w.heap.size := ⟨_, rfl⟩
  go_enter Tryz.func83, Tryz.ntmps83
  go_wp2_with fail
  have HK1 := Lib.hid (show Blk ((w.alloc (.cells #[.slice A n c, .int .i64 N0] 49)).alloc (.cells #[.slice none 0 0, .int .i64 0] 49)) w.heap.size 49 #[.slice A n c, .int .i64 N0] from (Blk.new w _ _).alloc _)
  have HK2 := Lib.hid (show Blk ((w.alloc (.cells #[.slice A n c, .int .i64 N0] 49)).alloc (.cells #[.slice none 0 0, .int .i64 0] 49)) (w.heap.size + 1) 49 #[.slice none 0 0, .int .i64 0] from Blk.newAt (by simp))
  have HW0 := Lib.hid (show Below w.heap.size w ((w.alloc (.cells #[.slice A n c, .int .i64 N0] 49)).alloc (.cells #[.slice none 0 0, .int .i64 0] 49)) from ((Below.refl w.heap.size w).alloc (Nat.le_refl _) _).alloc (by simp) _)
  have HI0 := Lib.hid ((h.out.alloc (.cells #[.slice A n c, .int .i64 N0] 49)).alloc (.cells #[.slice none 0 0, .int .i64 0] 49))
  generalize (w.alloc (.cells #[.slice A n c, .int .i64 N0] 49)).alloc (.cells #[.slice none 0 0, .int .i64 0] 49) = w0 at HK1 HK2 HW0 HI0 ⊢
  rw [← hb] at HK1 HK2 ⊢
  have HBB := Lib.hid hb
  clear hb
  obtain ⟨N1, E1, bs1, hp1⟩ : ∃ N1 E1 bs1, pWhat (emit l x 0) = (N1, E1, bs1) := ⟨_, _, _, rfl⟩
  refine (rput_any _ l _ _ t 1 N1 E1 bs1 w0 HI0.out rfl rfl (by omega) (by omega) (by rw [ht.out, bitsOf_one, ← emit_nil]; exact hp1)).mono ?_
  rintro e w1 ⟨A1, n1, c1, rfl, hb1, hr1⟩
  have HL1 := Lib.hid (HK1.out.below hb1 HK1.out.lt)
  have HL2 := Lib.hid (HK2.out.below hb1 HK2.out.lt)
  have HW1 := Lib.hid (HW0.out.trans (hb1.mono HW0.out.size))
  have HR1 := Lib.hid hr1
  have HP1 := Lib.hid hp1
  clear hb1 hr1 hp1 HI0 HK1 HK2 HW0
  obtain ⟨x1, x2, x3, x4⟩ := blk2 HL1.out
  go_wp2
  clear x1 x2 x3 x4
  have HS1 := Lib.hid (show OutS w ((w1.setCell ⟨b, 0, none⟩ (.slice A1 n1 c1)).setCell ⟨b, 1, none⟩ (.int .i64 N1)) b l x 0 E1 from
    ⟨A1, n1, c1, N1, bs1, HP1.out, two_set HL1.out _ _, Blk.far (Blk.far HL2.out (by simp) _) (by simp) _, rd_box HR1.out HL1.out _ _, (HW1.out.setCell (by have := HBB.out; simp; omega) _).setCell (by have := HBB.out; simp; omega) _⟩)
  generalize (w1.setCell ⟨b, 0, none⟩ (.slice A1 n1 c1)).setCell ⟨b, 1, none⟩ (.int .i64 N1) = w2 at HS1 ⊢
  clear HR1 HL1 HL2 HW1 HP1
  obtain ⟨t', ht'⟩ : ∃ t' : Nat, t' = (!x).toNat := ⟨_, rfl⟩
  have et : (1 : Int) - (t : Int) = (t' : Int) := by rw [ht', ht.out]; cases x <;> rfl
  have ht2 : t' ≤ 1 := by omega
  have HT' := Lib.hid ht'
  clear ht'
  go_loopw [2, 8] (fun vm ve wr => ∃ (m k : Nat) (E2 : Int), vm = .int .i64 (m : Int) ∧ ve = .int .i64 E2 ∧ m ≤ 100000 ∧ Hid (m + k = wait ∧ OutS w wr b l x k E2)) (fun vm _ _ => (intOf vm).toNat)
  case atStart => exact ⟨wait, 0, E1, rfl, rfl, hw, Lib.hid ⟨rfl, HS1.out⟩⟩
  case round =>
    obtain ⟨m, k, E2, rfl, rfl, hm, HZ⟩ := hrel
    clear HS1
    obtain ⟨hmk, A2, n2, c2, N2, bs2, hp2, hB2, hC2, hR2, hW2⟩ := HZ.out
    have HP2 := Lib.hid hp2
    have HB2 := Lib.hid hB2
    have HC2 := Lib.hid hC2
    have HR2 := Lib.hid hR2
    have HW2 := Lib.hid hW2
    have HMK := Lib.hid hmk
    clear hmk hp2 hB2 hC2 hR2 hW2
    obtain ⟨x1, x2, x3, x4⟩ := blk2 HB2.out
    obtain ⟨y1, y2, y3, y4⟩ := blk2 HC2.out
    by_cases hgo : 0 < m ∧ E2 = 0
    · obtain ⟨m, rfl⟩ : ∃ m', m = m' + 1 := ⟨m - 1, by omega⟩
      obtain ⟨-, rfl⟩ := hgo
      have d1 : decide ((0 : Int) < (m : Int) + 1) = true := by simp <;> omega
      have HIB := Lib.hid (show (emit l x k).length ≤ 65536 ∧ IsB wr (.agg #[.slice A2 n2 c2, .int .i64 N2]) (emit l x k) from by
        rcases pWhat_cases HP2.out with ⟨a1, a2, _, a4⟩ | ⟨_, _, a3, _⟩
        · refine ⟨a1, A2, c2, ?_, ?_, a1⟩
          · have hl := HR2.out.1
            rw [a4] at hl
            rw [a2, ← hl]
          · have h2 := HR2.out
            have hl := h2.1
            rw [a4] at hl h2
            rw [hl]
            exact h2
        · omega)
      obtain ⟨N3, E3, bs3, hp3⟩ : ∃ N3 E3 bs3, pWhat (emit l x (k + 1)) = (N3, E3, bs3) := ⟨_, _, _, rfl⟩
      have HP3 := Lib.hid hp3
      clear hp3
      go_wp2_with fail
      refine (rput_any _ (emit l x k) _ _ t' 1 N3 E3 bs3 _ HIB.out.2 rfl rfl (by omega) (by omega) (by rw [HT'.out, bitsOf_one, emit_snoc]; exact HP3.out)).mono ?_
      rintro e w3 ⟨A3, n3, c3, rfl, hb3, hr3⟩
      have HB3 := Lib.hid (HB2.out.below hb3 HB2.out.lt)
      have HC3 := Lib.hid (HC2.out.below hb3 HC2.out.lt)
      have HW3 := Lib.hid (HW2.out.trans (hb3.mono HW2.out.size))
      have HR3 := Lib.hid hr3
      clear hb3 hr3 x1 x2 x3 x4 y1 y2 y3 y4
      obtain ⟨x1, x2, x3, x4⟩ := blk2 HB3.out
      go_wp2
      go_roundw
      case rel =>
        refine ⟨m, k + 1, E3, by first | rfl | go_num, rfl, by omega, Lib.hid ⟨by have := HMK.out; omega, A3, n3, c3, N3, bs3, HP3.out, two_set HB3.out _ _, Blk.far (Blk.far HC3.out (by simp) _) (by simp) _, rd_box HR3.out HB3.out _ _, (HW3.out.setCell (by have := HBB.out; simp; omega) _).setCell (by have := HBB.out; simp; omega) _⟩⟩
      case measure => simp [intOf]
    · have HFIN := Lib.hid (show N2 = N ∧ E2 = E ∧ bs2 = bs from by
        rcases Nat.eq_zero_or_pos m with hm0 | hm0
        · have hk : k = wait := by have := HMK.out; omega
          have h1 := HP2.out
          rw [hk, hp.out] at h1
          simp only [Prod.mk.injEq] at h1
          exact ⟨h1.1.symm, h1.2.1.symm, h1.2.2.symm⟩
        · have hE : E2 ≠ 0 := fun e => hgo ⟨hm0, e⟩
          rcases pWhat_cases HP2.out with ⟨_, _, a3, _⟩ | ⟨a1, a2, a3, a4⟩
          · exact absurd a3 hE
          · have hl := emit_mono l x (show k ≤ wait by have := HMK.out; omega)
            rcases pWhat_cases hp.out with ⟨b1, _⟩ | ⟨_, b2, b3, b4⟩
            · omega
            · exact ⟨by rw [a2, b2], by rw [a3, b3], by rw [a4, b4]⟩)
      rcases Nat.eq_zero_or_pos m with hm0 | hm0
      · subst hm0
        clear hgo
        go_wp2
        refine bodyPost_ret (v := .tuple #[.agg #[.slice A2 n2 c2, .int .i64 N2], .int .i64 E2]) (by simp [results, Tryz.results83, go_sem, y1, y2]) rfl ⟨A2, n2, c2, by rw [HFIN.out.1, HFIN.out.2.1], (HW2.out.setCell (by have := HBB.out; simp; omega) _).setCell (by have := HBB.out; simp; omega) _, ?_⟩
        rw [← HFIN.out.2.2]
        exact rd_box HR2.out HC2.out _ _
      · have e2 : (E2 == 0) = false := by
          have : ¬ E2 = 0 := fun e => hgo ⟨hm0, e⟩
          simpa using this
        have e3 : ¬ E2 = 0 := fun e => hgo ⟨hm0, e⟩
        have d1 : decide ((0 : Int) < (m : Int)) = true := by simp; omega
        clear hgo
        go_wp2
        refine bodyPost_ret (v := .tuple #[.agg #[.slice A2 n2 c2, .int .i64 N2], .int .i64 E2]) (by simp [results, Tryz.results83, go_sem, y1, y2]) rfl ⟨A2, n2, c2, by rw [HFIN.out.1, HFIN.out.2.1], (HW2.out.setCell (by have := HBB.out; simp; omega) _).setCell (by have := HBB.out; simp; omega) _, ?_⟩
        rw [← HFIN.out.2.2]
        exact rd_box HR2.out HC2.out _ _
end Go.Proofs.YtgpdgegelipboaaGreatDoor.Cd
namespace Go.Proofs.YtgpdgegelipboaaGreatDoor.Cd
open Go.RowKit
def NarP (w : World) (lo hi : Nat) (e : Ending) (w' : World) : Prop := e = .returned (.tuple #[.int .u64 (lo : Int), .int .u64 (hi : Int)]) ∧ ∃ q, w' = w.drewN q
set_option maxHeartbeats 2000000 in
theorem rnarrow_any (low high a b T lo hi : Nat) (w : World) (h1 : low ≤ high) (h2 : high < 4294967296) (ha : a ≤ 16384) (hb : b ≤ 16384) (hT : 1 ≤ T) (hT2 : T ≤ 16384)
    (hlo : Hid (lo = low + (high - low + 1) * a / T)) (hhi : Hid (hi = low + (high - low + 1) * b / T - 1)) (hb1 : Hid (1 ≤ (high - low + 1) * b / T)) :
    Calls Tryz.prog 68 #[.int .u64 (low : Int), .int .u64 (high : Int), .int .i64 (a : Int), .int .i64 (b : Int), .int .i64 (T : Int)] w (NarP w lo hi) := by
  obtain ⟨W, hW⟩ : ∃ W, W = high - low + 1 := ⟨_, rfl⟩
  have eW : (high : Int) - (low : Int) + 1 = (W : Int) := by omega
  have W2 : W ≤ 4294967296 := by omega
  have HLO := hlo.out
  have HHI := hhi.out
  have HB1 := hb1.out
  rw [← hW] at HLO HHI HB1
  obtain ⟨pa, hpa⟩ : ∃ pa, pa = W * a := ⟨_, rfl⟩
  obtain ⟨pb, hpb⟩ : ∃ pb, pb = W * b := ⟨_, rfl⟩
  have pa2 : pa ≤ 70368744177664 := by rw [hpa]; exact Nat.le_trans (Nat.mul_le_mul W2 ha) (by omega)
  have pb2 : pb ≤ 70368744177664 := by rw [hpb]; exact Nat.le_trans (Nat.mul_le_mul W2 hb) (by omega)
  have epa : (W : Int) * (a : Int) = (pa : Int) := by rw [hpa]; simp
  have epb : (W : Int) * (b : Int) = (pb : Int) := by rw [hpb]; simp
  obtain ⟨qa, hqa⟩ : ∃ qa, qa = pa / T := ⟨_, rfl⟩
  obtain ⟨qb, hqb⟩ : ∃ qb, qb = pb / T := ⟨_, rfl⟩
  have qa2 : qa ≤ pa := by rw [hqa]; exact Nat.div_le_self _ _
  have qb2 : qb ≤ pb := by rw [hqb]; exact Nat.div_le_self _ _
  have eqa : (pa : Int) / (T : Int) = (qa : Int) := by rw [hqa]; simp
  have eqb : (pb : Int) / (T : Int) = (qb : Int) := by rw [hqb]; simp
  rw [← hpa, ← hqa] at HLO
  rw [← hpb, ← hqb] at HHI HB1
  have elo : (low : Int) + (qa : Int) = (lo : Int) := by omega
  obtain ⟨h1', hh1⟩ : ∃ h1', h1' = low + qb := ⟨_, rfl⟩
  have eh1 : (low : Int) + (qb : Int) = (h1' : Int) := by omega
  have ehi : (h1' : Int) - 1 = (hi : Int) := by omega
  have lo2 : lo ≤ 100000000000000 := by omega
  have h12 : h1' ≤ 100000000000000 := by omega
  have hi2 : hi ≤ 100000000000000 := by omega
  have T0 : ¬ (T : Int) = 0 := by omega
  have T0' : ((T : Int) == 0) = false := by simp; omega
  clear hW hpa hpb hqa hqb hh1 HLO HHI HB1 hlo hhi hb1
  have w1 : IntKind.u64.wrap (pa : Int) = (pa : Int) := IntWalk.u64_in _ (by omega)
  have w2 : IntKind.u64.wrap (pb : Int) = (pb : Int) := IntWalk.u64_in _ (by omega)
  have w3 : IntKind.u64.wrap (qa : Int) = (qa : Int) := IntWalk.u64_in _ (by omega)
  have w4 : IntKind.u64.wrap (qb : Int) = (qb : Int) := IntWalk.u64_in _ (by omega)
  have w5 : IntKind.u64.wrap (lo : Int) = (lo : Int) := IntWalk.u64_in _ (by omega)
  have w6 : IntKind.u64.wrap (h1' : Int) = (h1' : Int) := IntWalk.u64_in _ (by omega)
  have w7 : IntKind.u64.wrap (hi : Int) = (hi : Int) := IntWalk.u64_in _ (by omega)
  have w8 : IntKind.u64.wrap (a : Int) = (a : Int) := IntWalk.u64_in _ (by omega)
  have w9 : IntKind.u64.wrap (b : Int) = (b : Int) := IntWalk.u64_in _ (by omega)
  have w10 : IntKind.u64.wrap (T : Int) = (T : Int) := IntWalk.u64_in _ (by omega)
  go_enter Tryz.func68, Tryz.ntmps68
  go_wp2_with fail
  go_quiet (fail)
  go_wp2
  exact bodyPost_ret (v := .tuple #[.int .u64 (lo : Int), .int .u64 (hi : Int)]) (by simp [results, Tryz.results68, go_sem]) rfl ⟨rfl, nq, rfl⟩
def encV (low high : Nat) (wt : Int) (A : Option Addr) (n c : Nat) (N : Int) : Value := .agg #[.int .u32 (low : Int), .int .u32 (high : Int), .int .i64 wt, .slice A n c, .int .i64 N]
def okE (low high : Nat) (wt : Int) (bs : List Nat) (N : Int) : Bool := wideB low high && (decide (0 ≤ wt) && (decide (wt ≤ 65536) && okB bs N))
theorem blk5 {w : World} {t : TypeId} {a b c d e : Value} {g : Nat} (h : Blk w g t #[a, b, c, d, e]) : w.cell? ⟨g, 0, none⟩ = some a ∧ w.cell? ⟨g, 1, none⟩ = some b ∧ w.cell? ⟨g, 2, none⟩ = some c ∧ w.cell? ⟨g, 3, none⟩ = some d ∧ w.cell? ⟨g, 4, none⟩ = some e := ⟨h.cell 0, h.cell 1, h.cell 2, h.cell 3, h.cell 4⟩
set_option maxHeartbeats 2000000 in
theorem rcheckEnc_any (low high : Nat) (wt : Int) (A : Option Addr) (n c : Nat) (N : Int) (bs : List Nat) (r : Bool) (w : World) (hl : low < 4294967296) (hh : high < 4294967296) (hr : Hid (Rd w A n bs)) (hok : Hid (okE low high wt bs N = r)) :
    Calls Tryz.prog 82 #[encV low high wt A n c N] w fun e w' => e = .returned (.bool r) ∧ Below w.heap.size w w' := by
  have HK := Lib.hid (Blk.new w 80 #[.int .u32 (low : Int), .int .u32 (high : Int), .int .i64 wt, .slice A n c, .int .i64 N])
  have HW := Lib.hid ((Below.refl w.heap.size w).alloc (Nat.le_refl _) (.cells #[.int .u32 (low : Int), .int .u32 (high : Int), .int .i64 wt, .slice A n c, .int .i64 N] 80))
  have HR := Lib.hid (hr.out.alloc (.cells #[.int .u32 (low : Int), .int .u32 (high : Int), .int .i64 wt, .slice A n c, .int .i64 N] 80))
  unfold encV
  go_enter Tryz.func82, Tryz.ntmps82
  go_wp2_with fail
  generalize w.alloc (.cells #[.int .u32 (low : Int), .int .u32 (high : Int), .int .i64 wt, .slice A n c, .int .i64 N] 80) = w0 at HK HW HR ⊢
  obtain ⟨wd, hwd⟩ : ∃ wd, wideB low high = wd := ⟨_, rfl⟩
  have HWD := Lib.hid hwd
  clear hwd
  refine (rwide_any low high wd _ HWD.out).mono ?_
  rintro e w' ⟨rfl, rfl⟩
  obtain ⟨x1, x2, x3, x4, x5⟩ := blk5 HK.out
  cases wd with
  | false =>
    have HE := Lib.hid (show r = false by rw [← hok.out]; unfold okE; rw [HWD.out]; rfl)
    go_wp2
    go_ret
    exact ⟨by rw [HE.out]; rfl, HW.out⟩
  | true =>
    by_cases h0 : 0 ≤ wt
    · have d0 : decide (0 ≤ wt) = true := by simpa using h0
      by_cases h6 : wt ≤ 65536
      · have d6 : decide (wt ≤ 65536) = true := by simpa using h6
        obtain ⟨ok, hokB⟩ : ∃ ok, okB bs N = ok := ⟨_, rfl⟩
        have HOK := Lib.hid hokB
        clear hokB
        have HE := Lib.hid (show r = ok by rw [← hok.out]; unfold okE; rw [HWD.out, d0, d6, HOK.out]; rfl)
        go_wp2_with fail
        have hcon := rcheck_any A n c N bs w0 HR.out
        rw [HOK.out] at hcon
        refine hcon.mono ?_
        clear hcon
        rintro e w2 ⟨rfl, hb2⟩
        have HW2 := Lib.hid (HW.out.trans (hb2.mono HW.out.size))
        clear hb2
        cases ok with
        | true =>
          go_wp2
          go_ret
          exact ⟨by rw [HE.out]; rfl, HW2.out⟩
        | false =>
          go_wp2
          go_ret
          exact ⟨by rw [HE.out]; rfl, HW2.out⟩
      · have d6 : decide (wt ≤ 65536) = false := by simpa using h6
        have HE := Lib.hid (show r = false by rw [← hok.out]; unfold okE; rw [HWD.out, d0, d6]; rfl)
        go_wp2
        go_ret
        exact ⟨by rw [HE.out]; rfl, HW.out⟩
    · have d0 : decide (0 ≤ wt) = false := by simpa using h0
      have HE := Lib.hid (show r = false by rw [← hok.out]; unfold okE; rw [HWD.out, d0]; rfl)
      go_wp2
      go_ret
      exact ⟨by rw [HE.out]; rfl, HW.out⟩
def endW (low k : Nat) (l : List Bool) : List Bool := emit l (decide (1073741824 ≤ low)) (k + 1)
set_option maxHeartbeats 2000000 in
theorem rend_ok (low high k : Nat) (A : Option Addr) (n c : Nat) (N : Int) (bs : List Nat) (l : List Bool) (NE EE : Int) (be : List Nat) (w : World) (hl : low < 4294967296) (hh : high < 4294967296) (hk : k ≤ 65536) (hr : Hid (Rd w A n bs)) (hok : Hid (okE low high (k : Int) bs N = true)) (hib : Hid (IsB w (.agg #[.slice A n c, .int .i64 N]) l)) (hp : Hid (pWhat (endW low k l) = (NE, EE, be))) :
    Calls Tryz.prog 49 #[encV low high (k : Int) A n c N] w (JOut w NE EE be) := by
  unfold encV
  have HK := Lib.hid (show Blk ((w.alloc (.cells #[.int .u32 (low : Int), .int .u32 (high : Int), .int .i64 (k : Int), .slice A n c, .int .i64 N] 80)).alloc (.cells #[.slice none 0 0, .int .i64 0] 49)) w.heap.size 80 #[.int .u32 (low : Int), .int .u32 (high : Int), .int .i64 (k : Int), .slice A n c, .int .i64 N] from (Blk.new w _ _).alloc _)
  have HK2 := Lib.hid (show Blk ((w.alloc (.cells #[.int .u32 (low : Int), .int .u32 (high : Int), .int .i64 (k : Int), .slice A n c, .int .i64 N] 80)).alloc (.cells #[.slice none 0 0, .int .i64 0] 49)) (w.heap.size + 1) 49 #[.slice none 0 0, .int .i64 0] from Blk.newAt (by simp))
  have HW := Lib.hid (show Below w.heap.size w ((w.alloc (.cells #[.int .u32 (low : Int), .int .u32 (high : Int), .int .i64 (k : Int), .slice A n c, .int .i64 N] 80)).alloc (.cells #[.slice none 0 0, .int .i64 0] 49)) from ((Below.refl w.heap.size w).alloc (Nat.le_refl _) _).alloc (by simp) _)
  go_enter Tryz.func49, Tryz.ntmps49
  go_wp2_with fail
  generalize (w.alloc (.cells #[.int .u32 (low : Int), .int .u32 (high : Int), .int .i64 (k : Int), .slice A n c, .int .i64 N] 80)).alloc (.cells #[.slice none 0 0, .int .i64 0] 49) = w0 at HK HK2 HW ⊢
  refine (rcheckEnc_any low high (k : Int) A n c N bs true w0 hl hh (Lib.hid (hr.out.below HW.out)) hok).mono ?_
  rintro e w1 ⟨rfl, hb1⟩
  have HK1 := Lib.hid (HK.out.below hb1 HK.out.lt)
  have HJ1 := Lib.hid (HK2.out.below hb1 HK2.out.lt)
  have HW1 := Lib.hid (HW.out.trans (hb1.mono HW.out.size))
  clear hb1
  obtain ⟨x1, x2, x3, x4, x5⟩ := blk5 HK1.out
  have HI1 := Lib.hid (hib.out.below HW1.out)
  by_cases hlow : 1073741824 ≤ low
  · have d1 : decide ((low : Int) < 1073741824) = false := by simp; omega
    go_wp2_with fail
    refine (rout_any A n c l true 1 (k + 1) N NE EE be _ HI1 (Lib.hid rfl) (by omega) (by omega) (Lib.hid (by have := hp.out; unfold endW at this; rw [decide_eq_true hlow] at this; exact this))).mono ?_
    rintro e w2 ⟨A2, n2, c2, rfl, hb2, hr2⟩
    have HJ2 := Lib.hid (HJ1.out.below hb2 HJ1.out.lt)
    have HW2 := Lib.hid (HW1.out.trans (hb2.mono HW1.out.size))
    have HR2 := Lib.hid hr2
    clear hb2 hr2
    obtain ⟨y1, y2, y3, y4⟩ := blk2 HJ2.out
    go_wp2
    exact bodyPost_ret (v := .tuple #[.agg #[.slice A2 n2 c2, .int .i64 NE], .int .i64 EE]) (by simp [results, Tryz.results49, go_sem, y1, y2]) rfl ⟨A2, n2, c2, rfl, (HW2.out.setCell (by simp) _).setCell (by simp) _, rd_box HR2.out HJ2.out _ _⟩
  · have d1 : decide ((low : Int) < 1073741824) = true := by simp; omega
    go_wp2_with fail
    refine (rout_any A n c l false 0 (k + 1) N NE EE be _ HI1 (Lib.hid rfl) (by omega) (by omega) (Lib.hid (by have := hp.out; unfold endW at this; rw [decide_eq_false hlow] at this; exact this))).mono ?_
    rintro e w2 ⟨A2, n2, c2, rfl, hb2, hr2⟩
    have HJ2 := Lib.hid (HJ1.out.below hb2 HJ1.out.lt)
    have HW2 := Lib.hid (HW1.out.trans (hb2.mono HW1.out.size))
    have HR2 := Lib.hid hr2
    clear hb2 hr2
    obtain ⟨y1, y2, y3, y4⟩ := blk2 HJ2.out
    go_wp2
    exact bodyPost_ret (v := .tuple #[.agg #[.slice A2 n2 c2, .int .i64 NE], .int .i64 EE]) (by simp [results, Tryz.results49, go_sem, y1, y2]) rfl ⟨A2, n2, c2, rfl, (HW2.out.setCell (by simp) _).setCell (by simp) _, rd_box HR2.out HJ2.out _ _⟩
end Go.Proofs.YtgpdgegelipboaaGreatDoor.Cd
namespace Go.Proofs.YtgpdgegelipboaaGreatDoor.Cd
open Go.RowKit
theorem or_bit (t : Nat) (h : t < 2) : bits BinOp.or IntKind.u64 0 (t : Int) = (t : Int) := by
  have := get_or 0 t (by omega) h
  simpa using this
theorem isB_parts {w : World} {A : Option Addr} {n c : Nat} {N : Int} {l : List Bool} (h : IsB w (.agg #[.slice A n c, .int .i64 N]) l) : n = (pack l).length ∧ N = (l.length : Int) ∧ Rd w A n (pack l) ∧ l.length ≤ 65536 := by
  obtain ⟨A', c', e, hr, hl⟩ := h
  simp only [Value.agg.injEq, Array.mk.injEq, List.cons.injEq, Value.slice.injEq, Value.int.injEq, and_true, true_and] at e
  obtain ⟨⟨rfl, rfl, rfl⟩, rfl⟩ := e
  exact ⟨rfl, rfl, hr, hl⟩
def G1 (t : Nat) (v j : Value) : Prop := (j = .int .i64 0 ∧ v = .int .u64 0) ∨ (j = .int .i64 1 ∧ v = .int .u64 (t : Int))
set_option maxHeartbeats 2000000 in
theorem rget1_in (A : Option Addr) (n c i t : Nat) (N : Int) (l : List Bool) (w : World) (h : Hid (IsB w (.agg #[.slice A n c, .int .i64 N]) l)) (hi : Hid (i < l.length)) (ht : Hid (t = (bitF l i).toNat)) (ht2 : t < 2) (hi2 : i ≤ 65536) :
    Calls Tryz.prog 99 #[.agg #[.slice A n c, .int .i64 N], .int .i64 (i : Int), .int .i64 1] w fun e w' => e = .returned (.tuple #[.int .u64 (t : Int), .int .i64 0]) ∧ Below w.heap.size w w' := by
  obtain ⟨hn, hN, hr, hl⟩ := isB_parts h.out
  have HR := Lib.hid hr
  have HN := Lib.hid hn
  have HOK := Lib.hid (show okB (pack l) N = true by rw [hN]; exact okB_pack l hl)
  obtain ⟨L, hL⟩ : ∃ L, L = l.length := ⟨_, rfl⟩
  rw [← hL] at hN hl
  subst hN
  have hiL : i < L := by rw [hL]; exact hi.out
  have HL := Lib.hid hL
  clear hn hr hL
  have d1 : decide ((i : Int) < 0) = false := by simp
  have d2 : decide ((L : Int) < (i : Int)) = false := by simp; omega
  have d4 : decide (L < i) = false := by simp; omega
  have d3 : decide ((L : Int) - (i : Int) < 1) = false := by simp; omega
  have o1 := or_bit t ht2
  have HK := Lib.hid (Blk.new w 49 #[.slice A n c, .int .i64 (L : Int)])
  have HW := Lib.hid ((Below.refl w.heap.size w).alloc (Nat.le_refl _) (.cells #[.slice A n c, .int .i64 (L : Int)] 49))
  go_enter Tryz.func99, Tryz.ntmps99
  go_wp2_with fail
  generalize w.alloc (.cells #[.slice A n c, .int .i64 (L : Int)] 49) = w0 at HK HW ⊢
  have hcon := rcheck_any A n c (L : Int) (pack l) w0 (HR.out.below HW.out)
  rw [HOK.out] at hcon
  refine hcon.mono ?_
  clear hcon
  rintro e w1 ⟨rfl, hb1⟩
  have HK1 := Lib.hid (HK.out.below hb1 HK.out.lt)
  have HW1 := Lib.hid (HW.out.trans (hb1.mono HW.out.size))
  clear hb1
  obtain ⟨x1, x2, -, -⟩ := blk2 HK1.out
  go_wp2
  go_loopw [8, 9, 38] (fun v _ j wr => G1 t v j ∧ Hid (Blk wr w.heap.size 49 #[.slice A n c, .int .i64 (L : Int)] ∧ Below w.heap.size w wr)) (fun _ _ j _ => 1 - (intOf j).toNat)
  case atStart => exact ⟨.inl ⟨rfl, rfl⟩, Lib.hid ⟨HK1.out, HW1.out⟩⟩
  case round =>
    clear x1 x2
    obtain ⟨⟨rfl, rfl⟩ | ⟨rfl, rfl⟩, HZ⟩ := hrel
    · obtain ⟨x1, x2, -, -⟩ := blk2 HZ.out.1
      go_wp2_with fail
      refine (rbit_any A n c (L : Int) _ (pack l) i t _ (HR.out.below HZ.out.2) (by have := HN.out; have := pack_length l; have := HL.out; omega) (by omega) (by simp) (by rw [ht.out, bitR_pack l i (by have := pack_length l; have := HL.out; omega)])).mono ?_
      rintro e w3 ⟨rfl, hb3⟩
      have HZ3 := Lib.hid (show Blk w3 w.heap.size 49 #[.slice A n c, .int .i64 (L : Int)] ∧ Below w.heap.size w w3 from ⟨HZ.out.1.below hb3 HZ.out.1.lt, HZ.out.2.trans (hb3.mono HZ.out.2.size)⟩)
      clear hb3 x1 x2
      go_wp2
      go_roundw
      case rel => first | exact ⟨Or.inr ⟨rfl, rfl⟩, HZ3⟩ | ((repeat apply Exists.intro); exact ⟨⟨Or.inr ⟨rfl, rfl⟩, HZ3⟩, rfl⟩)
      case measure => simp [intOf]
    · go_wp2
      exact bodyPost_ret (v := .tuple #[.int .u64 (t : Int), .int .i64 0]) (by simp [results, Tryz.results99, go_sem]) rfl ⟨rfl, HZ.out.2⟩
set_option maxHeartbeats 2000000 in
theorem rget1_out (A : Option Addr) (n c i : Nat) (N : Int) (l : List Bool) (w : World) (h : Hid (IsB w (.agg #[.slice A n c, .int .i64 N]) l)) (hi : Hid (l.length ≤ i)) (_hi2 : i ≤ 1000000) :
    Calls Tryz.prog 99 #[.agg #[.slice A n c, .int .i64 N], .int .i64 (i : Int), .int .i64 1] w fun e w' => e = .returned (.tuple #[.int .u64 0, .int .i64 20]) ∧ Below w.heap.size w w' := by
  obtain ⟨hn, hN, hr, hl⟩ := isB_parts h.out
  have HR := Lib.hid hr
  have HOK := Lib.hid (show okB (pack l) N = true by rw [hN]; exact okB_pack l hl)
  obtain ⟨L, hL⟩ : ∃ L, L = l.length := ⟨_, rfl⟩
  rw [← hL] at hN hl
  subst hN
  have hiL : L ≤ i := by rw [hL]; exact hi.out
  clear hn hr hL
  have d1 : decide ((i : Int) < 0) = false := by simp
  have HK := Lib.hid (Blk.new w 49 #[.slice A n c, .int .i64 (L : Int)])
  have HW := Lib.hid ((Below.refl w.heap.size w).alloc (Nat.le_refl _) (.cells #[.slice A n c, .int .i64 (L : Int)] 49))
  go_enter Tryz.func99, Tryz.ntmps99
  go_wp2_with fail
  generalize w.alloc (.cells #[.slice A n c, .int .i64 (L : Int)] 49) = w0 at HK HW ⊢
  have hcon := rcheck_any A n c (L : Int) (pack l) w0 (HR.out.below HW.out)
  rw [HOK.out] at hcon
  refine hcon.mono ?_
  clear hcon
  rintro e w1 ⟨rfl, hb1⟩
  have HK1 := Lib.hid (HK.out.below hb1 HK.out.lt)
  have HW1 := Lib.hid (HW.out.trans (hb1.mono HW.out.size))
  clear hb1
  obtain ⟨x1, x2, -, -⟩ := blk2 HK1.out
  by_cases hg : L < i
  · have d2 : decide ((L : Int) < (i : Int)) = true := by simp; omega
    go_wp2
    exact bodyPost_ret (v := .tuple #[.int .u64 0, .int .i64 20]) (by simp [results, Tryz.results99, go_sem]) rfl ⟨rfl, HW1.out⟩
  · have d2 : decide ((L : Int) < (i : Int)) = false := by simp; omega
    have d3 : decide ((L : Int) - (i : Int) < 1) = true := by simp; omega
    go_wp2
    exact bodyPost_ret (v := .tuple #[.int .u64 0, .int .i64 20]) (by simp [results, Tryz.results99, go_sem]) rfl ⟨rfl, HW1.out⟩
theorem rbitAt_any (A : Option Addr) (n c i t : Nat) (N : Int) (l : List Bool) (w : World) (h : Hid (IsB w (.agg #[.slice A n c, .int .i64 N]) l)) (ht : Hid (t = (bitF l i).toNat)) (ht2 : t < 2) (hi2 : i ≤ 1000000) :
    Calls Tryz.prog 61 #[.agg #[.slice A n c, .int .i64 N], .int .i64 (i : Int)] w fun e w' => e = .returned (.int .u64 (t : Int)) ∧ Below w.heap.size w w' := by
  have HW := Lib.hid ((Below.refl w.heap.size w).alloc (Nat.le_refl _) (.cells #[.slice A n c, .int .i64 N] 49))
  have HI := Lib.hid (h.out.alloc (.cells #[.slice A n c, .int .i64 N] 49))
  by_cases hi : i < l.length
  · have HI2 := Lib.hid hi
    have hi3 : i ≤ 65536 := by have := (isB_parts h.out).2.2.2; omega
    clear hi
    go_enter Tryz.func61, Tryz.ntmps61
    go_wp2_with fail
    generalize w.alloc (.cells #[.slice A n c, .int .i64 N] 49) = w0 at HW HI ⊢
    refine (rget1_in A n c i t N l w0 HI HI2 ht ht2 hi3).mono ?_
    rintro e w1 ⟨rfl, hb1⟩
    have HW1 := Lib.hid (HW.out.trans (hb1.mono HW.out.size))
    clear hb1
    go_wp2
    go_ret
    exact ⟨rfl, HW1.out⟩
  · have HI2 := Lib.hid (show l.length ≤ i by omega)
    have HT0 := Lib.hid (show t = 0 by rw [ht.out, bitF_of_ge HI2.out]; rfl)
    clear hi
    go_enter Tryz.func61, Tryz.ntmps61
    go_wp2_with fail
    generalize w.alloc (.cells #[.slice A n c, .int .i64 N] 49) = w0 at HW HI ⊢
    refine (rget1_out A n c i N l w0 HI HI2 hi2).mono ?_
    rintro e w1 ⟨rfl, hb1⟩
    have HW1 := Lib.hid (HW.out.trans (hb1.mono HW.out.size))
    clear hb1
    go_wp2
    go_ret
    exact ⟨by rw [HT0.out]; rfl, HW1.out⟩
end Go.Proofs.YtgpdgegelipboaaGreatDoor.Cd
namespace Go.Proofs.YtgpdgegelipboaaGreatDoor.Cd
open Go.RowKit
def decV (low high code : Nat) (A : Option Addr) (n c : Nat) (N At : Int) : Value := .agg #[.int .u32 (low : Int), .int .u32 (high : Int), .int .u32 (code : Int), .slice A n c, .int .i64 N, .int .i64 At]
theorem blk6 {w : World} {t : TypeId} {a b c d e f : Value} {g : Nat} (h : Blk w g t #[a, b, c, d, e, f]) : w.cell? ⟨g, 0, none⟩ = some a ∧ w.cell? ⟨g, 1, none⟩ = some b ∧ w.cell? ⟨g, 2, none⟩ = some c ∧ w.cell? ⟨g, 3, none⟩ = some d ∧ w.cell? ⟨g, 4, none⟩ = some e ∧ w.cell? ⟨g, 5, none⟩ = some f := ⟨h.cell 0, h.cell 1, h.cell 2, h.cell 3, h.cell 4, h.cell 5⟩
theorem frz6 {w : World} {t : TypeId} {cs : Array Value} {g : Nat} (h : Blk w g t cs) : w.frozen? ⟨g, 0, none⟩ = false ∧ w.frozen? ⟨g, 1, none⟩ = false ∧ w.frozen? ⟨g, 2, none⟩ = false ∧ w.frozen? ⟨g, 3, none⟩ = false ∧ w.frozen? ⟨g, 4, none⟩ = false ∧ w.frozen? ⟨g, 5, none⟩ = false := ⟨h.frozen 0, h.frozen 1, h.frozen 2, h.frozen 3, h.frozen 4, h.frozen 5⟩
def okD (low high code : Nat) (bs : List Nat) (N At : Int) : Bool := wideB low high && (decide (low ≤ code) && (decide (code ≤ high) && (okB bs N && (decide (32 ≤ At) && decide (At ≤ 65600)))))
set_option maxHeartbeats 2000000 in
theorem rcheckDec_any (low high code : Nat) (A : Option Addr) (n c : Nat) (N At : Int) (bs : List Nat) (r : Bool) (w : World) (hl : low < 4294967296) (hh : high < 4294967296) (_hc : code < 4294967296) (hr : Hid (Rd w A n bs)) (hok : Hid (okD low high code bs N At = r)) :
    Calls Tryz.prog 63 #[decV low high code A n c N At] w fun e w' => e = .returned (.bool r) ∧ Below w.heap.size w w' := by
  have HK := Lib.hid (Blk.new w 68 #[.int .u32 (low : Int), .int .u32 (high : Int), .int .u32 (code : Int), .slice A n c, .int .i64 N, .int .i64 At])
  have HW := Lib.hid ((Below.refl w.heap.size w).alloc (Nat.le_refl _) (.cells #[.int .u32 (low : Int), .int .u32 (high : Int), .int .u32 (code : Int), .slice A n c, .int .i64 N, .int .i64 At] 68))
  have HR := Lib.hid (hr.out.alloc (.cells #[.int .u32 (low : Int), .int .u32 (high : Int), .int .u32 (code : Int), .slice A n c, .int .i64 N, .int .i64 At] 68))
  unfold decV
  go_enter Tryz.func63, Tryz.ntmps63
  go_wp2_with fail
  generalize w.alloc (.cells #[.int .u32 (low : Int), .int .u32 (high : Int), .int .u32 (code : Int), .slice A n c, .int .i64 N, .int .i64 At] 68) = w0 at HK HW HR ⊢
  obtain ⟨wd, hwd⟩ : ∃ wd, wideB low high = wd := ⟨_, rfl⟩
  have HWD := Lib.hid hwd
  clear hwd
  refine (rwide_any low high wd _ HWD.out).mono ?_
  rintro e w' ⟨rfl, rfl⟩
  obtain ⟨x1, x2, x3, x4, x5, x6⟩ := blk6 HK.out
  cases wd with
  | false =>
    have HE := Lib.hid (show r = false by rw [← hok.out]; unfold okD; rw [HWD.out]; rfl)
    go_wp2
    go_ret
    exact ⟨by rw [HE.out]; rfl, HW.out⟩
  | true =>
    by_cases h1 : low ≤ code
    · have d1 : decide (low ≤ code) = true := by simpa using h1
      by_cases h2 : code ≤ high
      · have d2 : decide (code ≤ high) = true := by simpa using h2
        obtain ⟨ok, hokB⟩ : ∃ ok, okB bs N = ok := ⟨_, rfl⟩
        have HOK := Lib.hid hokB
        clear hokB
        go_wp2_with fail
        have hcon := rcheck_any A n c N bs w0 HR.out
        rw [HOK.out] at hcon
        refine hcon.mono ?_
        clear hcon
        rintro e w2 ⟨rfl, hb2⟩
        have HW2 := Lib.hid (HW.out.trans (hb2.mono HW.out.size))
        have HK2 := Lib.hid (HK.out.below hb2 HK.out.lt)
        clear hb2 x1 x2 x3 x4 x5 x6
        obtain ⟨x1, x2, x3, x4, x5, x6⟩ := blk6 HK2.out
        cases ok with
        | false =>
          have HE := Lib.hid (show r = false by rw [← hok.out]; unfold okD; rw [HWD.out, d1, d2, HOK.out]; rfl)
          go_wp2
          go_ret
          exact ⟨by rw [HE.out]; rfl, HW2.out⟩
        | true =>
          by_cases h3 : 32 ≤ At
          · have d3 : decide (32 ≤ At) = true := by simpa using h3
            by_cases h4 : At ≤ 65600
            · have d4 : decide (At ≤ 65600) = true := by simpa using h4
              have HE := Lib.hid (show r = true by rw [← hok.out]; unfold okD; rw [HWD.out, d1, d2, HOK.out, d3, d4]; rfl)
              go_wp2
              go_ret
              exact ⟨by rw [HE.out]; rfl, HW2.out⟩
            · have d4 : decide (At ≤ 65600) = false := by simpa using h4
              have HE := Lib.hid (show r = false by rw [← hok.out]; unfold okD; rw [HWD.out, d1, d2, HOK.out, d3, d4]; rfl)
              go_wp2
              go_ret
              exact ⟨by rw [HE.out]; rfl, HW2.out⟩
          · have d3 : decide (32 ≤ At) = false := by simpa using h3
            have HE := Lib.hid (show r = false by rw [← hok.out]; unfold okD; rw [HWD.out, d1, d2, HOK.out, d3]; rfl)
            go_wp2
            go_ret
            exact ⟨by rw [HE.out]; rfl, HW2.out⟩
      · have d2 : decide (code ≤ high) = false := by simpa using h2
        have HE := Lib.hid (show r = false by rw [← hok.out]; unfold okD; rw [HWD.out, d1, d2]; rfl)
        go_wp2
        go_ret
        exact ⟨by rw [HE.out]; rfl, HW.out⟩
    · have d1 : decide (low ≤ code) = false := by simpa using h1
      have HE := Lib.hid (show r = false by rw [← hok.out]; unfold okD; rw [HWD.out, d1]; rfl)
      go_wp2
      go_ret
      exact ⟨by rw [HE.out]; rfl, HW.out⟩
theorem copy_isB {w' : World} {base n3 c3 : Nat} {A3 : Option Addr} {l : List Bool} (hl : l.length ≤ 65536) (h : w'.ownsRow base 5 1 (.slice A3 n3 c3) n3 ((pack l).map byteV)) : IsB w' (.agg #[.slice A3 n3 c3, .int .i64 (l.length : Int)]) l := by
  rcases h.2 with ⟨e, h0⟩ | ⟨g, cap, cur, e, hb, hh, hnc, hcm, hcs, ht⟩
  · injection e with e1 e2 e3
    subst e1 e2 e3
    have h1 := h.1
    have hp : pack l = [] := List.eq_nil_of_length_eq_zero (by simpa using h1)
    refine ⟨none, 0, by rw [hp]; rfl, ?_, hl⟩
    rw [hp]
    exact Rd.none_
  · injection e with e1 e2 e3
    subst e1
    have hn3 : n3 = (pack l).length := by have := h.1; simp at this; omega
    refine ⟨some ⟨g, 0, none⟩, c3, by rw [← hn3], ?_, hl⟩
    refine ⟨rfl, pack_lt l, fun _ => ⟨_, rfl, fun j x hx => ?_⟩⟩
    exact World.ownsRow.cells h (g := g) rfl j (byteV x) (by rw [List.getElem?_map, hx]; rfl)
theorem own_block {w' : World} {base n3 c3 : Nat} {A3 : Option Addr} {t : TypeId} {cs : List Value} (h : w'.ownsRow base t 1 (.slice A3 n3 c3) n3 cs) : ∀ ad, A3 = some ad → base ≤ ad.block := by
  intro ad ha
  rcases h.2 with ⟨e, h0⟩ | ⟨g, cap, cur, e, hb, _⟩
  · injection e with e1
    rw [ha] at e1
    cases e1
  · injection e with e1
    rw [ha] at e1
    injection e1 with e1
    rw [e1]
    exact hb
theorem rd_far {w : World} {A : Option Addr} {n g : Nat} {bs : List Nat} (h : Rd w A n bs) (hA : ∀ ad, A = some ad → 0 < n → ad.block ≠ g) (o : Nat) (u : Value) : Rd (w.setCell ⟨g, o, none⟩ u) A n bs :=
  ⟨h.1, h.2.1, fun hn => by
    obtain ⟨ad, e, hc⟩ := h.2.2 hn
    refine ⟨ad, e, fun j x hx => ?_⟩
    have := hc j x hx
    rw [← this]
    exact World.cell?_of_block (Below.heap_setCell w ⟨g, o, none⟩ u (ad.add j).block (by rw [block_of_add]; exact hA ad e hn))⟩
theorem val_lt (inp : List Bool) (m : Nat) : val inp m < 2 ^ m := by
  have := (val_add inp 0 m).2
  simpa [val] using this
def DOut (w : World) (lo hi co : Nat) (At N E : Int) (bs : List Nat) (e : Ending) (w' : World) : Prop :=
  ∃ A n c, e = .returned (.tuple #[decV lo hi co A n c N At, .int .i64 E]) ∧ Below w.heap.size w w' ∧ Rd w' A n bs
theorem below6 {B g : Nat} {w u : World} (h : Below B w u) (hg : B ≤ g) (a b c d e f : Value) : Below B w ((((((u.setCell ⟨g, 0, none⟩ a).setCell ⟨g, 1, none⟩ b).setCell ⟨g, 2, none⟩ c).setCell ⟨g, 3, none⟩ d).setCell ⟨g, 4, none⟩ e).setCell ⟨g, 5, none⟩ f) :=
  (((((h.setCell hg a).setCell hg b).setCell hg c).setCell hg d).setCell hg e).setCell hg f
end Go.Proofs.YtgpdgegelipboaaGreatDoor.Cd
namespace Go.Proofs.YtgpdgegelipboaaGreatDoor.Cd
open Go.RowKit
def ivV (low high : Nat) : Value := .agg #[.int .u32 (low : Int), .int .u32 (high : Int)]
theorem whole_any (w : World) : Calls Tryz.prog 72 #[] w fun e w' => e = .returned (ivV 0 4294967295) ∧ Below w.heap.size w w' := by
  go_enter Tryz.func72, Tryz.ntmps72
  go_wp2
  exact bodyPost_ret (v := ivV 0 4294967295) (by simp [results, Tryz.results72, go_sem, ivV]) rfl ⟨rfl, (Below.refl w.heap.size w).alloc (Nat.le_refl _) _⟩
def excT (k : Nat) : Value := .tuple #[.int .u32 (takeK k : Int), .bool (decide (k ≠ 3))]
theorem excT_3 : excT 3 = .tuple #[.int .u32 0, .bool false] := rfl
theorem excT_0 : excT 0 = .tuple #[.int .u32 0, .bool true] := rfl
theorem excT_1 : excT 1 = .tuple #[.int .u32 2147483648, .bool true] := rfl
theorem excT_2 : excT 2 = .tuple #[.int .u32 1073741824, .bool true] := rfl
theorem excess_any (low high k : Nat) (w : World) (hk : kind low high = k) :
    Calls Tryz.prog 70 #[.agg #[.int .u32 (low : Int), .int .u32 (high : Int)]] w fun e w' => e = .returned (excT k) ∧ Below w.heap.size w w' := by
  subst hk
  rcases kind_cases low high with ⟨hk, k1⟩ | ⟨hk, k1, k2⟩ | ⟨hk, k1, k2, k3, k4⟩ | ⟨hk, k1, k2, k3⟩
  · rw [hk, excT_0]
    have d3 : decide ((high : Int) < 2147483648) = true := by simp; omega
    clear hk
    go_enter Tryz.func70, Tryz.ntmps70
    go_wp2
    go_ret2
    exact ⟨rfl, (Below.refl _ _).alloc (Nat.le_refl _) _⟩
  · rw [hk, excT_1]
    have d3 : decide ((high : Int) < 2147483648) = false := by simp; omega
    have d4 : decide (2147483648 ≤ (low : Int)) = true := by simp; omega
    clear hk
    go_enter Tryz.func70, Tryz.ntmps70
    go_wp2
    go_ret2
    exact ⟨rfl, (Below.refl _ _).alloc (Nat.le_refl _) _⟩
  · rw [hk, excT_2]
    have d3 : decide ((high : Int) < 2147483648) = false := by simp; omega
    have d4 : decide (2147483648 ≤ (low : Int)) = false := by simp; omega
    have d5 : decide (1073741824 ≤ (low : Int)) = true := by simp; omega
    have d6 : decide ((high : Int) < 3221225472) = true := by simp; omega
    clear hk
    go_enter Tryz.func70, Tryz.ntmps70
    go_wp2
    go_ret2
    exact ⟨rfl, (Below.refl _ _).alloc (Nat.le_refl _) _⟩
  · rw [hk, excT_3]
    have d3 : decide ((high : Int) < 2147483648) = false := by simp; omega
    have d4 : decide (2147483648 ≤ (low : Int)) = false := by simp; omega
    clear hk
    by_cases k5 : 1073741824 ≤ low
    · have d5 : decide (1073741824 ≤ (low : Int)) = true := by simp; omega
      have d6 : decide ((high : Int) < 3221225472) = false := by simp; omega
      go_enter Tryz.func70, Tryz.ntmps70
      go_wp2
      go_ret2
      exact ⟨rfl, (Below.refl _ _).alloc (Nat.le_refl _) _⟩
    · have d5 : decide (1073741824 ≤ (low : Int)) = false := by simp; omega
      go_enter Tryz.func70, Tryz.ntmps70
      go_wp2
      go_ret2
      exact ⟨rfl, (Below.refl _ _).alloc (Nat.le_refl _) _⟩
theorem size_any (low high W : Nat) (w : World) (h1 : low ≤ high) (h2 : high < 4294967296) (hW : Hid (W = high - low + 1)) :
    Calls Tryz.prog 103 #[.agg #[.int .u32 (low : Int), .int .u32 (high : Int)]] w fun e w' => e = .returned (.int .u64 (W : Int)) ∧ Below w.heap.size w w' := by
  have e1 : ((high : Int) - (low : Int) + 1) = (W : Int) := by have := hW.out; omega
  have HE := Lib.hid e1
  clear e1
  go_enter Tryz.func103, Tryz.ntmps103
  go_wp2
  go_ret
  exact ⟨by rw [← HE.out]; rfl, (Below.refl _ _).alloc (Nat.le_refl _) _⟩
theorem double_any (p low high t lo hi : Nat) (w : World) (h1 : t ≤ low) (h2 : t ≤ high) (h3 : lo = 2 * (low - t)) (h4 : hi = 2 * (high - t) + 1) (h5 : lo < 4294967296) (h6 : hi < 4294967296) (hlow : low < 4294967296) (_hhigh : high < 4294967296)
    (c0 : w.cell? ⟨p, 0, none⟩ = some (.int .u32 (low : Int))) (c1 : w.cell? ⟨p, 1, none⟩ = some (.int .u32 (high : Int))) (f0 : w.frozen? ⟨p, 0, none⟩ = false) (f1 : w.frozen? ⟨p, 1, none⟩ = false) :
    Calls Tryz.prog 105 #[.pointer (some ⟨p, 0, none⟩), .int .u32 (t : Int)] w fun e w' => e = .returned (.tuple #[]) ∧ (w.setCell ⟨p, 0, none⟩ (.int .u32 (lo : Int))).setCell ⟨p, 1, none⟩ (.int .u32 (hi : Int)) = w' := by
  have e1 := Lib.hid (show ((low : Int) - (t : Int)) * 2 = (lo : Int) by omega)
  have e2 := Lib.hid (show ((high : Int) - (t : Int)) * 2 + 1 = (hi : Int) by omega)
  have b1 : ((low : Int) - (t : Int)) * 2 < 4294967296 := by omega
  have b2 : ((high : Int) - (t : Int)) * 2 < 4294967295 := by omega
  have b3 : (t : Int) ≤ (low : Int) := by omega
  have b4 : (t : Int) ≤ (high : Int) := by omega
  clear h3 h4
  go_enter Tryz.func105, Tryz.ntmps105
  go_wp2
  go_end0
  exact ⟨rfl, by rw [← e1.out, ← e2.out]⟩
end Go.Proofs.YtgpdgegelipboaaGreatDoor.Cd
namespace Go.Proofs.YtgpdgegelipboaaGreatDoor.Cd
open Go.RowKit
theorem spanV_some (xs : List Int) (s : Int) : ∃ a b e : Int, Fq.spanV xs s = Fq.spanT a b e ∧ (Fq.symB xs s = true → e = 0 ∧ a = xs.getD s.toNat 0 ∧ b = xs.getD (s.toNat + 1) 0) ∧ (Fq.symB xs s = false → e = 1) := by
  unfold Fq.spanV
  cases h : Fq.symB xs s with
  | true => exact ⟨_, _, _, rfl, fun _ => ⟨rfl, rfl, rfl⟩, (fun h => by cases h)⟩
  | false => exact ⟨_, _, _, rfl, (fun h => by cases h), fun _ => rfl⟩
def NrP (w : World) (p lo hi : Nat) (e : Ending) (w' : World) : Prop :=
  e = .returned (.int .i64 0) ∧ ∃ w1, Below w.heap.size w w1 ∧ w' = (w1.setCell ⟨p, 1, none⟩ (.int .u32 (hi : Int))).setCell ⟨p, 0, none⟩ (.int .u32 (lo : Int))
def NrS (w : World) (bf : Nat) (C : Option Addr) (m d : Nat) (xs : List Int) (u : World) : Prop := Blk u bf 40 #[.slice C m d] ∧ Fq.RdI u C m xs ∧ Below w.heap.size w u
theorem NrS.next {w : World} {bf : Nat} {C : Option Addr} {m d : Nat} {xs : List Int} {u u' : World} (h : NrS w bf C m d xs u) (hb : Below u.heap.size u u') : NrS w bf C m d xs u' :=
  ⟨h.1.below hb h.1.lt, h.2.1.below hb, h.2.2.trans (hb.mono h.2.2.size)⟩
theorem NrS.drew {w : World} {bf : Nat} {C : Option Addr} {m d : Nat} {xs : List Int} {u : World} (h : NrS w bf C m d xs u) : NrS w bf C m d xs u.drew := ⟨h.1, h.2.1, Below.drew h.2.2⟩
theorem nrs_start {w : World} {C : Option Addr} {m d : Nat} {xs : List Int} (h : Fq.RdI w C m xs) : NrS w w.heap.size C m d xs (w.alloc (.cells #[.slice C m d] 40)) :=
  ⟨Blk.new w _ _, h.alloc _, (Below.refl w.heap.size w).alloc (Nat.le_refl _) _⟩
def symP (xs : List Int) (s : Int) (a b T : Nat) : Prop := Fq.spanV xs s = Fq.spanT (a : Int) (b : Int) 0 ∧ Fq.okF xs = true ∧ Fq.totF true xs = (T : Int) ∧ Sp a b T
def Two (w : World) (p low high : Nat) : Prop := w.cell? ⟨p, 0, none⟩ = some (.int .u32 (low : Int)) ∧ w.cell? ⟨p, 1, none⟩ = some (.int .u32 (high : Int)) ∧ w.frozen? ⟨p, 0, none⟩ = false ∧ w.frozen? ⟨p, 1, none⟩ = false
theorem Two.lt {w : World} {p low high : Nat} (h : Two w p low high) : p < w.heap.size := World.block_lt_of_cell? _ _ h.1
theorem Two.below {w u : World} {p low high : Nat} (h : Two w p low high) (hb : Below w.heap.size w u) : Two u p low high :=
  ⟨(hb.cell (p := ⟨p, 0, none⟩) h.lt).trans h.1, (hb.cell (p := ⟨p, 1, none⟩) h.lt).trans h.2.1, (hb.frozen (p := ⟨p, 0, none⟩) h.lt).trans h.2.2.1, (hb.frozen (p := ⟨p, 1, none⟩) h.lt).trans h.2.2.2⟩
theorem Two.drew {w : World} {p low high : Nat} (h : Two w p low high) : Two w.drew p low high := h
set_option maxHeartbeats 2000000 in
theorem narrow_ok (p low high a b T lo hi : Nat) (C : Option Addr) (m d : Nat) (xs : List Int) (s : Int) (w : World) (h1 : low ≤ high) (h2 : high < 4294967296) (hx : Hid (Fq.RdI w C m xs)) (hm : Hid (m ≤ maxLen)) (hsym : Hid (symP xs s a b T)) (h2c : Hid (Two w p low high))
    (hlo : Hid (lo = low + (high - low + 1) * a / T)) (hhi : Hid (hi = low + (high - low + 1) * b / T - 1)) (hb1 : Hid (1 ≤ (high - low + 1) * b / T)) (hlh : lo ≤ hi) (hhi2 : hi < 4294967296) :
    Calls Tryz.prog 73 #[.pointer (some ⟨p, 0, none⟩), .agg #[.slice C m d], .int .i64 s] w (NrP w p lo hi) := by
  obtain ⟨W, hW⟩ : ∃ W, W = high - low + 1 := ⟨_, rfl⟩
  have HWW := Lib.hid hW
  have W2 : W ≤ 4294967296 := by omega
  obtain ⟨S1, S2, S3⟩ := hsym.out.2.2.2
  have HLO := hlo.out
  have HHI := hhi.out
  have HB1 := hb1.out
  rw [← hW] at HLO HHI HB1
  obtain ⟨pa, hpa⟩ : ∃ pa, pa = W * a := ⟨_, rfl⟩
  obtain ⟨pb, hpb⟩ : ∃ pb, pb = W * b := ⟨_, rfl⟩
  have pa2 : pa ≤ 70368744177664 := by rw [hpa]; exact Nat.le_trans (Nat.mul_le_mul W2 (show a ≤ 16384 by omega)) (by omega)
  have pb2 : pb ≤ 70368744177664 := by rw [hpb]; exact Nat.le_trans (Nat.mul_le_mul W2 (show b ≤ 16384 by omega)) (by omega)
  have epa : (W : Int) * (a : Int) = (pa : Int) := by rw [hpa]; simp
  have epb : (W : Int) * (b : Int) = (pb : Int) := by rw [hpb]; simp
  obtain ⟨qa, hqa⟩ : ∃ qa, qa = pa / T := ⟨_, rfl⟩
  obtain ⟨qb, hqb⟩ : ∃ qb, qb = pb / T := ⟨_, rfl⟩
  have eqa : (pa : Int) / (T : Int) = (qa : Int) := by rw [hqa]; simp
  have eqb : (pb : Int) / (T : Int) = (qb : Int) := by rw [hqb]; simp
  rw [← hpa, ← hqa] at HLO
  rw [← hpb, ← hqb] at HHI HB1
  obtain ⟨qc, hqc⟩ : ∃ qc, qc + 1 = qb := ⟨qb - 1, by omega⟩
  have eqc : (qb : Int) - 1 = (qc : Int) := by omega
  have elo : (low : Int) + (qa : Int) = (lo : Int) := by omega
  have ehi : (low : Int) + (qc : Int) = (hi : Int) := by omega
  have qa3 : qa < 4294967296 := by omega
  have qc3 : qc < 4294967296 := by omega
  have qb3 : qb ≤ 4294967296 := by omega
  have T0 : ¬ (T : Int) = 0 := by omega
  have T0' : ((T : Int) == 0) = false := by simp; omega
  have T1 : T ≤ 16384 := S3
  have E1 := Lib.hid epa
  have E2 := Lib.hid epb
  have E3 := Lib.hid eqa
  have E4 := Lib.hid eqb
  have E5 := Lib.hid eqc
  have E6 := Lib.hid elo
  have E7 := Lib.hid ehi
  clear hW hpa hpb hqa hqb hqc HLO HHI HB1 epa epb eqa eqb eqc elo ehi
  have HS0 := Lib.hid (nrs_start (d := d) hx.out)
  go_enter Tryz.func73, Tryz.ntmps73
  go_wp2_with fail
  have H0 := Lib.hid (h2c.out.below (((Below.refl w.heap.size w).alloc (Nat.le_refl _) (.cells #[.slice C m d] 40))))
  obtain ⟨bf, hbf⟩ : ∃ bf, bf = w.heap.size := ⟨_, rfl⟩
  generalize w.alloc (.cells #[.slice C m d] 40) = w0 at HS0 H0 ⊢
  rw [← hbf] at HS0 ⊢
  have HBF := Lib.hid hbf
  clear hbf
  have hcon := Fq.span_any C m d xs s w0 (Lib.hid HS0.out.2.1) hm.out
  rw [hsym.out.1] at hcon
  refine hcon.mono ?_
  clear hcon
  rintro e w1 ⟨rfl, hb1⟩
  have HS1 := Lib.hid (HS0.out.next hb1)
  have H1 := Lib.hid (H0.out.below hb1)
  clear hb1 HS0 H0
  unfold Fq.spanT
  go_wp2_with fail
  obtain ⟨x1, x2, -, -⟩ := H1.out
  have x3 := Fq.blk0 HS1.out.1
  have v1 : IntKind.u64.wrap (T : Int) = (T : Int) := IntWalk.u64_in _ (by omega)
  have C1 := Lib.hid (show ∀ u, NrS w bf C m d xs u ∧ Two u p low high → Calls Tryz.prog 104 #[.agg #[.slice C m d]] u (fun e w' => e = .returned (.int .i64 (T : Int)) ∧ NrS w bf C m d xs w' ∧ Two w' p low high) from fun u h =>
    (Fq.total_any C m d xs true (T : Int) u (Lib.hid h.1.2.1) hm.out hsym.out.2.1 hsym.out.2.2.1).mono fun e w' ⟨h1, h2⟩ => ⟨h1, h.1.next h2, h.2.below h2⟩)
  have C2 := Lib.hid (show ∀ u, NrS w bf C m d xs u ∧ Two u p low high → Calls Tryz.prog 103 #[.agg #[.int .u32 (low : Int), .int .u32 (high : Int)]] u (fun e w' => e = .returned (.int .u64 (W : Int)) ∧ NrS w bf C m d xs w' ∧ Two w' p low high) from fun u h =>
    (size_any low high W u h1 h2 HWW).mono fun e w' ⟨h1, h2⟩ => ⟨h1, h.1.next h2, h.2.below h2⟩)
  go_region_held3 (fun w' => w'.cell? ⟨p, 0, none⟩ = some (.int .u32 (low : Int)) ∧ w'.cell? ⟨p, 1, none⟩ = some (.int .u32 (high : Int)) ∧ w'.cell? ⟨bf, 0, none⟩ = some (.slice C m d) ∧ NrS w bf C m d xs w' ∧ Two w' p low high) (first | exact ⟨hQ.2.1, hQ.2.2.1, Fq.blk0 hQ.1.1, hQ⟩ | exact ⟨x1, x2, x3, HS1.out, H1.out⟩ | exact ⟨x1, x2, x3, HS1.out.drew, H1.out.drew⟩) (first
    | (go_at_call 104; refine (C1.out _ (by first | exact hQ | exact ⟨HS1.out, H1.out⟩ | exact ⟨HS1.out.drew, H1.out.drew⟩)).mono ?_; rintro e w6 ⟨rfl, hQ⟩)
    | (go_at_call 103; refine (C2.out _ (by first | exact hQ | exact ⟨HS1.out, H1.out⟩ | exact ⟨HS1.out.drew, H1.out.drew⟩)).mono ?_; rintro e w6 ⟨rfl, hQ⟩))
  all_goals
    have HQ := Lib.hid hQ
    clear hQ x1 x2 x3 v1 C1 C2
    obtain ⟨y1, y2, y3, y4⟩ := HQ.out.2
    have e1 := E1.out
    have e2 := E2.out
    have e3 := E3.out
    have e4 := E4.out
    have e5 := E5.out
    have e6 := E6.out
    have e7 := E7.out
    go_wp2
    go_ret
    exact ⟨rfl, _, HQ.out.1.2.2, rfl⟩
theorem narrow_no (p : Nat) (C : Option Addr) (m d : Nat) (xs : List Int) (s : Int) (w : World) (hx : Hid (Fq.RdI w C m xs)) (hm : Hid (m ≤ maxLen)) (hsym : Hid (Fq.symB xs s = false)) :
    Calls Tryz.prog 73 #[.pointer (some ⟨p, 0, none⟩), .agg #[.slice C m d], .int .i64 s] w fun e w' => e = .returned (.int .i64 1) ∧ Below w.heap.size w w' := by
  have HS0 := Lib.hid (nrs_start (d := d) hx.out)
  go_enter Tryz.func73, Tryz.ntmps73
  go_wp2_with fail
  generalize w.alloc (.cells #[.slice C m d] 40) = w0 at HS0 ⊢
  have hcon := Fq.span_any C m d xs s w0 (Lib.hid HS0.out.2.1) hm.out
  obtain ⟨a, b, e, he, -, h1⟩ := spanV_some xs s
  obtain rfl := h1 hsym.out
  rw [he] at hcon
  refine hcon.mono ?_
  clear hcon he h1
  rintro e w1 ⟨rfl, hb1⟩
  have HS1 := Lib.hid (HS0.out.next hb1)
  clear hb1 HS0
  unfold Fq.spanT
  go_wp2
  go_ret
  exact ⟨rfl, HS1.out.2.2⟩
end Go.Proofs.YtgpdgegelipboaaGreatDoor.Cd
namespace Go.Proofs.YtgpdgegelipboaaGreatDoor.Cd
open Go.RowKit
def itC (x : It) : List Value := [.slice x.A x.n x.c, .int .i64 x.N]
def itCells (xs : List It) : List Value := xs.flatMap itC
theorem itCells_snoc (xs : List It) (x : It) : itCells (xs ++ [x]) = itCells xs ++ itC x := by simp [itCells]
theorem itCells_get (xs : List It) : ∀ (j : Nat) (x : It), xs[j]? = some x → (itCells xs)[j * 2]? = some (.slice x.A x.n x.c) ∧ (itCells xs)[j * 2 + 1]? = some (.int .i64 x.N) := by
  induction xs with
  | nil => intro j x h; simp at h
  | cons y xs ih =>
    intro j x h
    cases j with
    | zero =>
      have : y = x := by simpa using h
      subst this
      exact ⟨rfl, rfl⟩
    | succ j =>
      have h' : xs[j]? = some x := by simpa using h
      obtain ⟨a, b⟩ := ih j x h'
      have e : itCells (y :: xs) = itC y ++ itCells xs := by simp [itCells]
      have el : (itC y).length = 2 := rfl
      rw [e]
      refine ⟨?_, ?_⟩
      · rw [List.getElem?_append_right (by omega), el, show (j + 1) * 2 - 2 = j * 2 by omega]; exact a
      · rw [List.getElem?_append_right (by omega), el, show (j + 1) * 2 + 1 - 2 = j * 2 + 1 by omega]; exact b
def Apart (x : It) (p : Nat) : Prop := ∀ ad, x.A = some ad → 0 < x.n → ad.block ≠ p
theorem only_refl (w : World) (row : Option Nat) : w.grownBy w row := ⟨rfl, rfl, rfl, Nat.le_refl _, fun _ _ _ => rfl⟩
def wrC (low high wait N g k cap : Nat) : Array Value := #[.int .u32 (low : Int), .int .u32 (high : Int), .int .i64 (wait : Int), .slice (some ⟨g, 0, none⟩) k cap, .int .i64 (N : Int)]
structure Bs where
  w : World
  r : Nat
  o : Option Obj
def Kp (z : Bs) (p g : Nat) (w : World) : Prop := z.r ≠ p ∧ z.r ≠ g ∧ z.r < w.heap.size ∧ w.heap[z.r]? = z.o
structure WSx (z : Bs) (p g k cap : Nat) (xs : List It) (low high wait N : Nat) (out : List Bool) (w : World) : Prop where
  blk : Blk w p 119 (wrC low high wait N g k cap)
  own : w.ownsRow z.w.heap.size 49 2 (.slice (some ⟨g, 0, none⟩) k cap) k (itCells xs)
  hp : z.w.heap.size ≤ p
  hg : z.w.heap.size ≤ g
  ne : g ≠ p
  len : xs.length = k
  rd : ∀ x ∈ xs, Rd w x.A x.n x.bs ∧ x.ok = true ∧ Apart x p ∧ Apart x g
  bits : allBits xs = out
  few : k ≤ out.length + 1
  kp : Kp z p g w
section
variable {z : Bs} {p g k cap : Nat} {xs : List It} {low high wait N : Nat} {out : List Bool} {w w' : World}
theorem WSx.next (h : WSx z p g k cap xs low high wait N out w) (hb : Below w.heap.size w w') : WSx z p g k cap xs low high wait N out w' where
  blk := h.blk.below hb h.blk.lt
  own := World.ownsRow.kept h.own (only_of_below hb none) (.inr (by simp [Value.ownBlock]))
  hp := h.hp
  hg := h.hg
  ne := h.ne
  len := h.len
  rd := fun x hx => ⟨(h.rd x hx).1.below hb, (h.rd x hx).2⟩
  bits := h.bits
  few := h.few
  kp := ⟨h.kp.1, h.kp.2.1, Nat.lt_of_lt_of_le h.kp.2.2.1 hb.size, (hb.block _ h.kp.2.2.1).trans h.kp.2.2.2⟩
theorem WSx.drew (h : WSx z p g k cap xs low high wait N out w) : WSx z p g k cap xs low high wait N out w.drew := ⟨h.blk, h.own, h.hp, h.hg, h.ne, h.len, h.rd, h.bits, h.few, h.kp⟩
theorem WSx.put (h : WSx z p g k cap xs low high wait N out w) (i : Nat) (u : Value) {low' high' wait' N' : Nat} (he : (wrC low high wait N g k cap).setIfInBounds i u = wrC low' high' wait' N' g k cap) : WSx z p g k cap xs low' high' wait' N' out (w.setCell ⟨p, i, none⟩ u) where
  blk := by have := h.blk.set_ i u; rwa [he] at this
  own := World.ownsRow.kept h.own (only_setCell (only_refl w (some p)) (.inl rfl) u) (.inr (by simp [Value.ownBlock]; exact h.ne))
  hp := h.hp
  hg := h.hg
  ne := h.ne
  len := h.len
  rd := fun x hx => ⟨(h.rd x hx).1.only (only_setCell (only_refl w (some p)) (.inl rfl) u) (h.rd x hx).2.2.1, (h.rd x hx).2⟩
  bits := h.bits
  few := h.few
  kp := ⟨h.kp.1, h.kp.2.1, by simpa [World.setCell] using h.kp.2.2.1, (Below.heap_setCell w ⟨p, i, none⟩ u _ h.kp.1).trans h.kp.2.2.2⟩
theorem WSx.rdL (h : WSx z p g k cap xs low high wait N out w) : RdL w (some ⟨g, 0, none⟩) k xs := by
  refine ⟨h.len, fun _ => ⟨_, rfl, fun j x hx => ?_⟩⟩
  obtain ⟨a, b⟩ := itCells_get xs j x hx
  have c0 := World.ownsRow.cells h.own (g := g) rfl _ _ a
  have c1 := World.ownsRow.cells h.own (g := g) rfl _ _ b
  rw [add_own] at c0 c1
  refine ⟨by rw [add_own]; exact c0, ?_, (h.rd x (List.mem_of_getElem? hx)).1⟩
  rw [add_own]
  exact c1
theorem WSx.push (h : WSx z p g k cap xs low high wait N out w) (y : It) (hy : Rd w y.A y.n y.bs) (hok : y.ok = true) (hyp : Apart y p) (hyg : Apart y g) (hy1 : 1 ≤ y.bits.length) {g' cap' : Nat}
    (ho : w'.ownsRow z.w.heap.size 49 2 (.slice (some ⟨g', 0, none⟩) (k + 1) cap') (k + 1) (itCells xs ++ itC y)) (hgr : w.grownBy w' (some g)) (hat : g = g' ∨ w.heap.size ≤ g') :
    WSx z p g' (k + 1) cap' (xs ++ [y]) low high wait N (out ++ y.bits) (w'.setCell ⟨p, 3, none⟩ (.slice (some ⟨g', 0, none⟩) (k + 1) cap')) := by
  have hpw : p < w.heap.size := h.blk.lt
  have hne : g' ≠ p := by
    rcases hat with e | e
    · rw [← e]; exact h.ne
    · omega
  have hsc := only_setCell (only_refl w' (some p)) (p := ⟨p, 3, none⟩) (.inl rfl) (.slice (some ⟨g', 0, none⟩) (k + 1) cap')
  have far : ∀ x : It, Rd w x.A x.n x.bs → Apart x g → Apart x g' := by
    intro x hr ha ad e hn
    rcases hat with e' | e'
    · rw [← e']; exact ha ad e hn
    · have := hr.lies hn ad e
      omega
  refine ⟨?_, ?_, h.hp, (World.ownsRow.lt ho g' rfl).1, hne, by rw [List.length_append, h.len]; rfl, ?_, by rw [allBits_snoc, h.bits], by rw [List.length_append]; have := h.few; omega, h.kp.1, ?_, ?_, ?_⟩
  · have := (h.blk.only hgr (fun e => h.ne e.symm)).set_ 3 (.slice (some ⟨g', 0, none⟩) (k + 1) cap')
    exact this
  · rw [itCells_snoc]
    exact World.ownsRow.kept ho hsc (.inr (by simp [Value.ownBlock]; exact hne))
  · intro x hx
    rw [List.mem_append] at hx
    rcases hx with hx | hx
    · obtain ⟨a, b, c, d⟩ := h.rd x hx
      exact ⟨(a.only hgr d).only hsc c, b, c, far x a d⟩
    · have : x = y := by simpa using hx
      subst this
      exact ⟨(hy.only hgr hyg).only hsc hyp, hok, hyp, far x hy hyg⟩
  · rcases hat with e | e
    · rw [← e]; exact h.kp.2.1
    · have := h.kp.2.2.1; omega
  · have := hgr.size; have := h.kp.2.2.1; simp [World.setCell]; omega
  · exact ((Below.heap_setCell w' ⟨p, 3, none⟩ _ _ h.kp.1).trans (hgr.block _ h.kp.2.2.1 (fun e => h.kp.2.1 (by injection e)))).trans h.kp.2.2.2
theorem WSx.five (h : WSx z p g k cap xs low high wait N out w) : w.cell? ⟨p, 0, none⟩ = some (.int .u32 (low : Int)) ∧ w.cell? ⟨p, 1, none⟩ = some (.int .u32 (high : Int)) ∧ w.cell? ⟨p, 2, none⟩ = some (.int .i64 (wait : Int)) ∧ w.cell? ⟨p, 3, none⟩ = some (.slice (some ⟨g, 0, none⟩) k cap) ∧ w.cell? ⟨p, 4, none⟩ = some (.int .i64 (N : Int)) :=
  ⟨h.blk.cell 0, h.blk.cell 1, h.blk.cell 2, h.blk.cell 3, h.blk.cell 4⟩
theorem WSx.frz (h : WSx z p g k cap xs low high wait N out w) (i : Nat) : w.frozen? ⟨p, i, none⟩ = false := h.blk.frozen i
theorem WSx.two (h : WSx z p g k cap xs low high wait N out w) : Two w p low high := ⟨h.blk.cell 0, h.blk.cell 1, h.blk.frozen 0, h.blk.frozen 1⟩
end
def WSm (w0 : Bs) (p low high wait N : Nat) (out : List Bool) (w : World) : Prop := Below w0.w.heap.size w0.w w ∧ ∃ g k cap xs, WSx w0 p g k cap xs low high wait N out w
def WS (w0 : Bs) (p : Nat) (e : En) (w : World) : Prop := WSm w0 p e.low e.high e.wait e.out.length e.out w
section
variable {w0 : Bs} {w w' : World} {p low high wait N : Nat} {out : List Bool}
theorem WSm.next (h : WSm w0 p low high wait N out w) (hb : Below w.heap.size w w') : WSm w0 p low high wait N out w' := by
  obtain ⟨h1, g, k, cap, xs, h2⟩ := h
  exact ⟨h1.trans (hb.mono h1.size), g, k, cap, xs, h2.next hb⟩
theorem WSm.setIv (h : WSm w0 p low high wait N out w) (lo hi : Nat) : WSm w0 p lo hi wait N out ((w.setCell ⟨p, 1, none⟩ (.int .u32 (hi : Int))).setCell ⟨p, 0, none⟩ (.int .u32 (lo : Int))) := by
  obtain ⟨h1, g, k, cap, xs, h2⟩ := h
  exact ⟨(h1.setCell h2.hp _).setCell h2.hp _, g, k, cap, xs, (h2.put 1 _ (low' := low) (high' := hi) (wait' := wait) (N' := N) rfl).put 0 _ rfl⟩
theorem WSm.setIv' (h : WSm w0 p low high wait N out w) (lo hi : Nat) : WSm w0 p lo hi wait N out ((w.setCell ⟨p, 0, none⟩ (.int .u32 (lo : Int))).setCell ⟨p, 1, none⟩ (.int .u32 (hi : Int))) := by
  obtain ⟨h1, g, k, cap, xs, h2⟩ := h
  exact ⟨(h1.setCell h2.hp _).setCell h2.hp _, g, k, cap, xs, (h2.put 0 _ (low' := lo) (high' := high) (wait' := wait) (N' := N) rfl).put 1 _ rfl⟩
theorem WSm.setWait (h : WSm w0 p low high wait N out w) (wt : Nat) : WSm w0 p low high wt N out (w.setCell ⟨p, 2, none⟩ (.int .i64 (wt : Int))) := by
  obtain ⟨h1, g, k, cap, xs, h2⟩ := h
  exact ⟨h1.setCell h2.hp _, g, k, cap, xs, h2.put 2 _ rfl⟩
theorem WSm.setN (h : WSm w0 p low high wait N out w) (n : Nat) : WSm w0 p low high wait n out (w.setCell ⟨p, 4, none⟩ (.int .i64 (n : Int))) := by
  obtain ⟨h1, g, k, cap, xs, h2⟩ := h
  exact ⟨h1.setCell h2.hp _, g, k, cap, xs, h2.put 4 _ rfl⟩
theorem WSm.two (h : WSm w0 p low high wait N out w) : Two w p low high := by
  obtain ⟨_, g, k, cap, xs, h2⟩ := h
  exact h2.two
theorem WSm.wait_ (h : WSm w0 p low high wait N out w) : w.cell? ⟨p, 2, none⟩ = some (.int .i64 (wait : Int)) ∧ w.frozen? ⟨p, 2, none⟩ = false := by
  obtain ⟨_, g, k, cap, xs, h2⟩ := h
  exact ⟨h2.blk.cell 2, h2.blk.frozen 2⟩
theorem WSm.n_ (h : WSm w0 p low high wait N out w) : w.cell? ⟨p, 4, none⟩ = some (.int .i64 (N : Int)) ∧ w.frozen? ⟨p, 4, none⟩ = false := by
  obtain ⟨_, g, k, cap, xs, h2⟩ := h
  exact ⟨h2.blk.cell 4, h2.blk.frozen 4⟩
theorem WSm.lt (h : WSm w0 p low high wait N out w) : p < w.heap.size := by
  obtain ⟨_, g, k, cap, xs, h2⟩ := h
  exact h2.blk.lt
end
end Go.Proofs.YtgpdgegelipboaaGreatDoor.Cd
namespace Go.Proofs.YtgpdgegelipboaaGreatDoor.Cd
open Go.RowKit
theorem bitsOf_rep (x : Bool) (n : Nat) : bitsOf n (x.toNat * (2 ^ n - 1)) = List.replicate n x := by
  have h : num (List.replicate n x) = x.toNat * (2 ^ n - 1) := by
    cases x with
    | false => rw [num_rep_false]; simp
    | true => rw [num_rep_true]; simp
  have := bitsOf_num (List.replicate n x)
  rw [h, List.length_replicate] at this
  exact this
theorem pow64 : (2 : Nat) ^ 64 = 18446744073709551616 := by decide
theorem ones_nat (wd : Nat) (h : wd ≤ 64) : 18446744073709551615 / 2 ^ (64 - wd) = 2 ^ wd - 1 := by
  have e : 2 ^ (64 - wd) * 2 ^ wd = 18446744073709551616 := by rw [← Nat.pow_add, show 64 - wd + wd = 64 by omega, pow64]
  have ha : 0 < 2 ^ (64 - wd) := Nat.pow_pos (by omega)
  have hb : 0 < 2 ^ wd := Nat.pow_pos (by omega)
  generalize 2 ^ (64 - wd) = a at e ha
  generalize 2 ^ wd = b at e hb
  obtain ⟨c, rfl⟩ : ∃ c, b = c + 1 := ⟨b - 1, by omega⟩
  rw [Nat.mul_add, Nat.mul_one] at e
  rw [Nat.add_sub_cancel]
  refine Nat.div_eq_of_lt_le ?_ ?_
  · rw [Nat.mul_comm]; omega
  · rw [Nat.add_mul, Nat.mul_comm c, Nat.one_mul]; omega
theorem ones_int (wd t : Nat) (h : wd ≤ 64) (ht : t ≤ 1) : IntKind.u64.wrap ((t : Int) * (18446744073709551615 / 2 ^ (64 - wd))) = ((t * (2 ^ wd - 1) : Nat) : Int) := by
  have e2 : (18446744073709551615 : Int) / 2 ^ (64 - wd) = ((2 ^ wd - 1 : Nat) : Int) := by rw [← ones_nat wd h]; simp
  have hb : 2 ^ wd ≤ 2 ^ 64 := Nat.pow_le_pow_right (by omega) h
  rw [pow64] at hb
  rw [e2]
  rcases (show t = 0 ∨ t = 1 by omega) with rfl | rfl
  · simp; rfl
  · rw [Nat.one_mul, Int.natCast_one, Int.one_mul]
    exact IntWalk.u64_in _ (by omega)
def PcP (w : World) (l : List Bool) (n8 L : Nat) (e : Ending) (w' : World) : Prop :=
  ∃ g, e = .returned (.tuple #[.agg #[.slice (some ⟨g, 0, none⟩) n8 n8, .int .i64 (L : Int)], .int .i64 0]) ∧ w.heap.size ≤ g ∧ Blk w' g 5 (bcells (pack l)) ∧ Below w.heap.size w w'
theorem put_piece (x : Bool) (t wd n8 : Nat) (xi : Int) (w : World) (ht : t = x.toNat) (hw : wd ≤ 64) (hx : xi = ((t * (2 ^ wd - 1) : Nat) : Int)) (hn8 : n8 = (pack (List.replicate wd x)).length) :
    Calls Tryz.prog 128 #[.agg #[.slice none 0 0, .int .i64 0], .int .u64 xi, .int .i64 (wd : Int)] w (PcP w (List.replicate wd x) n8 wd) := by
  subst ht hx hn8
  refine (put_any _ [] (x.toNat * (2 ^ wd - 1)) wd w (IsB.nil_ w) hw ?_).mono ?_
  · have : 0 < 2 ^ wd := Nat.pow_pos (by omega)
    cases x <;> simp <;> omega
  · rintro e w' ⟨A, n, c, N, er, rfl, hb, h⟩
    rw [List.nil_append, bitsOf_rep] at h
    rcases h with ⟨_, rfl, g, hv, hg, hk, hl⟩ | ⟨h, _⟩
    · refine ⟨g, ?_, hg, hk, hb⟩
      rw [hv, List.length_replicate]
    · rw [List.length_replicate] at h; omega
theorem bits_rep (x : Bool) (wd n8 : Nat) (A : Option Addr) (c : Nat) : It.bits ⟨A, n8, c, (wd : Int), pack (List.replicate wd x)⟩ = List.replicate wd x := by
  unfold It.bits
  have := bitsIn_pack (List.replicate wd x)
  rw [List.length_replicate] at this
  exact this
theorem lay_push {w0 : Bs} {w3 w5 : World} {p g k cap low high wait M j : Nat} {xs : List It} {out : List Bool} {g' cap' : Nat} {o : Obj} (x : Bool) (wd n8 gp : Nat)
    (hx3 : WSx w0 p g k cap xs low high wait M (out ++ List.replicate j x) w3) (hxa : WSx w0 p g k cap xs low high wait M (out ++ List.replicate j x) (w3.alloc o).drew) (h13 : Below w0.w.heap.size w0.w w3) (hP : Blk w3 gp 5 (bcells (pack (List.replicate wd x)))) (hn8 : n8 = (pack (List.replicate wd x)).length) (hG : gp ≠ p ∧ gp ≠ g) (hw : wd ≤ 64) (hw1 : 1 ≤ wd)
    (ho : w5.ownsRow w0.w.heap.size 49 2 (.slice (some ⟨g', 0, none⟩) (k + 1) cap') (k + 1) (itCells xs ++ [.slice (some ⟨gp, 0, none⟩) n8 n8, .int .i64 (wd : Int)])) (hgr : (w3.alloc o).drew.grownBy w5 (Value.slice (some ⟨g, 0, none⟩) k cap).ownBlock) (hat : (Value.slice (some ⟨g, 0, none⟩) k cap).ownBlock = some g' ∨ g' = w3.heap.size + 1) :
    WSm w0 p low high wait M (out ++ List.replicate (j + wd) x) (w5.setCell ⟨p, 3, none⟩ (.slice (some ⟨g', 0, none⟩) (k + 1) cap')) := by
  have hb := bits_rep x wd n8 (some ⟨gp, 0, none⟩) n8
  have hr : Rd (w3.alloc o).drew (some ⟨gp, 0, none⟩) n8 (pack (List.replicate wd x)) := by
    rw [hn8]; exact Rd.of_blk (hP.alloc o).drew (pack_lt _)
  have hpush := hxa.push (w' := w5) (g' := g') (cap' := cap') ⟨some ⟨gp, 0, none⟩, n8, n8, (wd : Int), pack (List.replicate wd x)⟩ hr
    (by have := okB_pack (List.replicate wd x) (by rw [List.length_replicate]; omega); rw [List.length_replicate] at this; exact this)
    (by intro ad e _; injection e with e; rw [← e]; exact hG.1) (by intro ad e _; injection e with e; rw [← e]; exact hG.2) (by rw [hb, List.length_replicate]; exact hw1) ho hgr
    (by rcases hat with e | e
        · left; simpa [Value.ownBlock] using e
        · right; rw [e]; simp)
  rw [hb] at hpush
  have hbel : Below w0.w.heap.size w0.w w5 := (Below.drew (h13.alloc h13.size o)).grown hgr (by have := h13.size; simp; omega) (fun k hk => by
    have : g = k := by simpa [Value.ownBlock] using hk
    rw [← this]; exact hx3.hg)
  have hs : Below w0.w.heap.size w0.w (w5.setCell ⟨p, 3, none⟩ (.slice (some ⟨g', 0, none⟩) (k + 1) cap')) := hbel.setCell (p := ⟨p, 3, none⟩) hx3.hp _
  rw [← List.replicate_append_replicate, ← List.append_assoc]
  exact ⟨hs, g', k + 1, cap', _, hpush⟩
theorem info_bits : (Tryz.prog.info? 49).map (fun i => (i.zero, i.size, i.bytes)) = some (some (.agg #[.slice none 0 0, .int .i64 0]), 2, 32) := by kernel_rfl
set_option maxHeartbeats 2000000 in
theorem lay_w (w0 : Bs) (p low high wait N n M : Nat) (x : Bool) (t : Nat) (out out2 : List Bool) (w : World) (h : Hid (WSm w0 p low high wait N out w)) (ht : Hid (t = x.toNat)) (ht1 : t ≤ 1) (hn : n ≤ 100000) (ho : out.length ≤ 200000) (hN : N ≤ 300000) (hM : Hid (M = N + n)) (ho2 : Hid (out2 = out ++ List.replicate n x)) :
    Calls Tryz.prog 106 #[.pointer (some ⟨p, 0, none⟩), .int .u64 (t : Int), .int .i64 (n : Int)] w fun e w' => e = .returned (.tuple #[]) ∧ WSm w0 p low high wait M out2 w' := by
  obtain ⟨i0, hi0, hz0, hz1, hz2⟩ := info_parts info_bits
  obtain ⟨c4, f4⟩ := h.out.n_
  have eM : (N : Int) + (n : Int) = (M : Int) := by have := hM.out; omega
  go_enter Tryz.func106, Tryz.ntmps106
  go_wp2_with fail
  clear c4 f4 eM
  have HS := Lib.hid (h.out.setN M)
  generalize w.setCell ⟨p, 4, none⟩ (.int .i64 (M : Int)) = w1 at HS ⊢
  go_loopw [2] (fun vn wr => ∃ (r j : Nat), vn = .int .i64 (r : Int) ∧ r ≤ 100000 ∧ Hid (r + j = n ∧ WSm w0 p low high wait M (out ++ List.replicate j x) wr)) (fun vn _ => (intOf vn).toNat)
  case atStart => exact ⟨n, 0, rfl, hn, Lib.hid ⟨rfl, by simpa using HS.out⟩⟩
  case round =>
    obtain ⟨r, j, rfl, hr, HZ⟩ := hrel
    clear HS
    by_cases hgo : 0 < r
    · have d1 : decide ((0 : Int) < (r : Int)) = true := by simp; omega
      obtain ⟨wd, hwd⟩ : ∃ wd, wd = min r 64 := ⟨_, rfl⟩
      have em : min (r : Int) 64 = (wd : Int) := by omega
      have w1' : wd ≤ 64 := by omega
      have w2' : 1 ≤ wd := by omega
      have w3' : wd ≤ r := by omega
      obtain ⟨n8, hn8⟩ : ∃ n8, n8 = (pack (List.replicate wd x)).length := ⟨_, rfl⟩
      have HN8 := Lib.hid hn8
      clear hwd hn8
      go_wp2_with fail
      with_reducible refine (put_piece x t wd n8 _ wr ht.out w1' ?hx HN8.out).mono ?_
      case hx => exact ones_int wd t w1' ht1
      rintro e w2 ⟨gp, rfl, hgp, hkp, hb2⟩
      obtain ⟨h1, g, k, cap, xs, h2⟩ := HZ.out.2
      have HX := Lib.hid (h2.next hb2)
      have H1 := Lib.hid (h1.trans (hb2.mono h1.size))
      have HP := Lib.hid hkp
      have HG := Lib.hid (show gp ≠ p ∧ gp ≠ g from ⟨by have := h2.blk.lt; omega, by have := (World.ownsRow.lt h2.own g rfl).2; omega⟩)
      have HRJ := Lib.hid HZ.out.1
      clear hgp hkp hb2 h1 h2 HZ em
      go_wp2_with fail
      have HX3 := Lib.hid (HX.out.next ((Below.refl w2.heap.size w2).alloc (Nat.le_refl _) (.cells #[.slice (some ⟨gp, 0, none⟩) n8 n8, .int .i64 (wd : Int)] 49)))
      have H13 := Lib.hid (H1.out.alloc H1.out.size (.cells #[.slice (some ⟨gp, 0, none⟩) n8 n8, .int .i64 (wd : Int)] 49))
      have HP3 := Lib.hid (HP.out.alloc (.cells #[.slice (some ⟨gp, 0, none⟩) n8 n8, .int .i64 (wd : Int)] 49))
      have HB3 := Lib.hid (Blk.new w2 49 #[.slice (some ⟨gp, 0, none⟩) n8 n8, .int .i64 (wd : Int)])
      have bg : g < w2.heap.size := (World.ownsRow.lt HX.out.own g rfl).2
      obtain ⟨bx, hbx⟩ : ∃ bx, bx = w2.heap.size := ⟨_, rfl⟩
      rw [← hbx] at HB3 bg ⊢
      generalize w2.alloc (.cells #[.slice (some ⟨gp, 0, none⟩) n8 n8, .int .i64 (wd : Int)] 49) = w3 at HX3 H13 HP3 HB3 ⊢
      clear HX H1 HP hbx
      obtain ⟨-, -, -, c3, -⟩ := HX3.out.five
      have f3 := HX3.out.frz 3
      have b0 := HB3.out.cell 0
      have b1 := HB3.out.cell 1
      have lp : p < w3.heap.size := HX3.out.blk.lt
      have lx : bx < w3.heap.size := HB3.out.lt
      have ag : (Value.slice (some ⟨g, 0, none⟩) k cap).ownBlock ≠ some p := by simp [Value.ownBlock]; exact HX3.out.ne
      have ax : (Value.slice (some ⟨g, 0, none⟩) k cap).ownBlock ≠ some bx := by simp [Value.ownBlock]; omega
      have hk63 : k + 1 ≤ 400000 := by
        have h1 := HX3.out.few
        have h2 := HRJ.out
        rw [List.length_append, List.length_replicate] at h1
        omega
      have hnews := Lib.hid (World.news_of_block (cs := #[.slice (some ⟨gp, 0, none⟩) n8 n8, .int .i64 (wd : Int)]) (t := 49) (fr := (0, 0)) (heap_alloc_new w3 _))
      have HBA := Lib.hid (show w0.w.heap.size ≤ (w3.alloc (.cells #[.slice (some ⟨gp, 0, none⟩) n8 n8, .int .i64 (wd : Int)] 49)).drew.heap.size from by have := H13.out.size; simp; omega)
      have HXA := Lib.hid (HX3.out.next ((Below.refl w3.heap.size w3).alloc (Nat.le_refl _) (.cells #[.slice (some ⟨gp, 0, none⟩) n8 n8, .int .i64 (wd : Int)] 49))).drew
      have HBX := Lib.hid (HB3.out.alloc (.cells #[.slice (some ⟨gp, 0, none⟩) n8 n8, .int .i64 (wd : Int)] 49)).drew
      have SA := Lib.hid (show (w3.alloc (.cells #[.slice (some ⟨gp, 0, none⟩) n8 n8, .int .i64 (wd : Int)] 49)).drew.cell? ⟨p, 3, none⟩ = some (.slice (some ⟨g, 0, none⟩) k cap) ∧ (w3.alloc (.cells #[.slice (some ⟨gp, 0, none⟩) n8 n8, .int .i64 (wd : Int)] 49)).drew.cell? ⟨bx, 0, none⟩ = some (.slice (some ⟨gp, 0, none⟩) n8 n8) ∧ (w3.alloc (.cells #[.slice (some ⟨gp, 0, none⟩) n8 n8, .int .i64 (wd : Int)] 49)).drew.cell? ⟨bx, 1, none⟩ = some (.int .i64 (wd : Int)) ∧ (w3.alloc (.cells #[.slice (some ⟨gp, 0, none⟩) n8 n8, .int .i64 (wd : Int)] 49)).drew.frozen? ⟨p, 3, none⟩ = false from ⟨HXA.out.five.2.2.2.1, HBX.out.cell 0, HBX.out.cell 1, HXA.out.frz 3⟩)
      go_region_law
        ((refine step_append_lies _ (by rfl) _ _ _ (by rfl) w0.w.heap.size 49 i0 _ 2 32 Tryz.underlying117 hi0 hz0 hz1 hz2 rfl (by omega) (.slice (some ⟨g, 0, none⟩) k cap) k (itCells xs) (by rfl) ((HX3.out.own.alloc _).drew)
            ⟨w3.heap.size, 0, none⟩ 1 1 [.slice (some ⟨gp, 0, none⟩) n8 n8, .int .i64 (wd : Int)] (by rfl) (by rfl) hnews.out (by simp [Value.oneCell'])
            (by omega) (by unfold maxLen; omega) (by omega) HBA.out (w3.heap.size + 1) (by simp) ?_; intro g' cap' w5 hown1 hgrow hat hlt; have f5 : w5.frozen? ⟨p, 3, none⟩ = false := (hgrow.frozen_far _ (by simp; omega) (Ne.symm ag)).trans SA.out.2.2.2; have f6 : (w5.cell? ⟨p, 3, none⟩) = some (.slice (some ⟨g, 0, none⟩) k cap) := (hgrow.cell_far _ (by simp; omega) (Ne.symm ag)).trans SA.out.1))
      all_goals
        have HO1 := Lib.hid hown1
        have HG1 := Lib.hid hgrow
        have HA1 := Lib.hid hat
        clear hown1 hgrow hat
        go_wp2
        refine ⟨⟨r - wd, j + wd, by congr 1; omega, by omega, Lib.hid ⟨by have := HRJ.out; omega, ?_⟩⟩, by simp [intOf]; omega⟩
        exact lay_push x wd n8 gp HX3.out HXA.out H13.out HP3.out HN8.out HG.out w1' w2' HO1.out HG1.out HA1.out
    · have hr0 : r = 0 := by omega
      have HE := Lib.hid (show j = n by have := HZ.out.1; omega)
      have d1 : decide ((0 : Int) < (r : Int)) = false := by simp; omega
      go_wp2
      go_end0
      exact ⟨rfl, by rw [ho2.out, ← HE.out]; exact HZ.out.2⟩
end Go.Proofs.YtgpdgegelipboaaGreatDoor.Cd
namespace Go.Proofs.YtgpdgegelipboaaGreatDoor.Cd
open Go.RowKit
theorem emit_eq (out : List Bool) (x : Bool) (n : Nat) : emit out x n = (out ++ List.replicate 1 x) ++ List.replicate n (!x) := by simp [emit]
theorem lay_n (w0 : Bs) (p low high wait N n M : Nat) (ni : Int) (x : Bool) (t : Nat) (out out2 : List Bool) (w : World) (h : Hid (WSm w0 p low high wait N out w)) (ht : Hid (t = x.toNat)) (ht1 : t ≤ 1) (hni : ni = (n : Int)) (hn : n ≤ 100000) (ho : out.length ≤ 200000) (hN : N ≤ 300000) (hM : Hid (M = N + n)) (ho2 : Hid (out2 = out ++ List.replicate n x)) :
    Calls Tryz.prog 106 #[.pointer (some ⟨p, 0, none⟩), .int .u64 (t : Int), .int .i64 ni] w fun e w' => e = .returned (.tuple #[]) ∧ WSm w0 p low high wait M out2 w' := by
  subst hni
  exact lay_w w0 p low high wait N n M x t out out2 w h ht ht1 hn ho hN hM ho2
set_option maxHeartbeats 1000000 in
theorem send_w (w0 : Bs) (p low high wait N M : Nat) (x : Bool) (t : Nat) (out out2 : List Bool) (w : World) (h : Hid (WSm w0 p low high wait N out w)) (ht : Hid (t = x.toNat)) (ht1 : t ≤ 1) (hw : wait ≤ 100000) (hN : Hid (N = out.length)) (ho : out.length ≤ 190000) (hM : Hid (M = out2.length)) (ho2 : Hid (out2 = emit out x wait)) :
    Calls Tryz.prog 75 #[.pointer (some ⟨p, 0, none⟩), .int .u64 (t : Int)] w fun e w' => e = .returned (.tuple #[]) ∧ WSm w0 p low high 0 M out2 w' := by
  obtain ⟨t', ht'⟩ : ∃ t' : Nat, t' = (!x).toNat := ⟨_, rfl⟩
  have et : (1 : Int) - (t : Int) = (t' : Int) := by rw [ht', ht.out]; cases x <;> rfl
  have ht2 : t' ≤ 1 := by omega
  have HT' := Lib.hid ht'
  clear ht'
  have hl1 : (out ++ List.replicate 1 x).length = out.length + 1 := by simp
  have HM2 := Lib.hid (show M = (N + 1) + wait by rw [hM.out, ho2.out, emit_length, hN.out]; omega)
  have HL1 := Lib.hid hl1
  clear hl1
  have HN2 : N ≤ 190000 := by have := hN.out; omega
  go_enter Tryz.func75, Tryz.ntmps75
  go_wp2_with fail
  with_reducible refine (lay_n w0 p low high wait N 1 (N + 1) 1 x t out (out ++ List.replicate 1 x) w h ht ht1 rfl (by omega) (by omega) (by omega) (Lib.hid rfl) (Lib.hid rfl)).mono ?_
  rintro e w1 ⟨rfl, h1⟩
  have H1 := Lib.hid h1
  clear h1
  obtain ⟨c2, f2⟩ := H1.out.wait_
  go_wp2_with fail
  clear c2 f2
  with_reducible refine (lay_w w0 p low high wait (N + 1) wait M (!x) t' (out ++ List.replicate 1 x) out2 w1 H1 HT' ht2 (by omega) (by have := HL1.out; omega) (by omega) HM2 (Lib.hid (by rw [ho2.out, emit_eq]))).mono ?_
  rintro e w2 ⟨rfl, h2⟩
  have H2 := Lib.hid h2
  clear h2
  obtain ⟨c2, f2⟩ := H2.out.wait_
  go_wp2
  go_end0
  exact ⟨rfl, H2.out.setWait 0⟩
theorem send_n (w0 : Bs) (p low high wait N M : Nat) (ti : Int) (x : Bool) (t : Nat) (out out2 : List Bool) (w : World) (h : Hid (WSm w0 p low high wait N out w)) (hti : ti = (t : Int)) (ht : Hid (t = x.toNat)) (ht1 : t ≤ 1) (hw : wait ≤ 100000) (hN : Hid (N = out.length)) (ho : out.length ≤ 190000) (hM : Hid (M = out2.length)) (ho2 : Hid (out2 = emit out x wait)) :
    Calls Tryz.prog 75 #[.pointer (some ⟨p, 0, none⟩), .int .u64 ti] w fun e w' => e = .returned (.tuple #[]) ∧ WSm w0 p low high 0 M out2 w' := by
  subst hti
  exact send_w w0 p low high wait N M x t out out2 w h ht ht1 hw hN ho hM ho2
theorem double_n (p low high t lo hi : Nat) (ti : Int) (w : World) (hti : ti = (t : Int)) (h1 : t ≤ low) (h2 : t ≤ high) (h3 : lo = 2 * (low - t)) (h4 : hi = 2 * (high - t) + 1) (h5 : lo < 4294967296) (h6 : hi < 4294967296) (hlow : low < 4294967296) (hhigh : high < 4294967296) (h2c : Two w p low high) :
    Calls Tryz.prog 105 #[.pointer (some ⟨p, 0, none⟩), .int .u32 ti] w fun e w' => e = .returned (.tuple #[]) ∧ (w.setCell ⟨p, 0, none⟩ (.int .u32 (lo : Int))).setCell ⟨p, 1, none⟩ (.int .u32 (hi : Int)) = w' := by
  subst hti
  exact double_any p low high t lo hi w h1 h2 h3 h4 h5 h6 hlow hhigh h2c.1 h2c.2.1 h2c.2.2.1 h2c.2.2.2
def WidR (w0 : Bs) (p : Nat) (fin : En) (m : Nat) (wr : World) : Prop := ∃ e : En, WS w0 p e wr ∧ widE m e = fin ∧ Ok e.low e.high ∧ 4294967296 < wid e * 2 ^ (m + 1) ∧ len e + m ≤ 140000 ∧ e.wait + m ≤ 70000
theorem widR_zero {e : En} (hok : Ok e.low e.high) (h : 4294967296 < wid e * 2 ^ (0 + 1)) : kind e.low e.high = 3 := by
  by_cases hk : kind e.low e.high = 3
  · exact hk
  · have := wid_small hok hk
    simp at h
    omega
theorem stepE_wait {e : En} (h : kind e.low e.high ≠ 3) : (stepE e).wait ≤ e.wait + 1 := by
  rcases kind_cases e.low e.high with ⟨hk, _⟩ | ⟨hk, _⟩ | ⟨hk, _⟩ | ⟨hk, _⟩
  · rw [stepE_0 hk]; exact Nat.zero_le _
  · rw [stepE_1 hk]; exact Nat.zero_le _
  · rw [stepE_2 hk]; exact Nat.le_refl _
  · exact absurd hk h
theorem WidR.step {w0 : Bs} {wr : World} {p m : Nat} {fin e : En} (hok : Ok e.low e.high) (hk : kind e.low e.high ≠ 3) (hf : widE (m + 1) e = fin) (hw : 4294967296 < wid e * 2 ^ (m + 1 + 1)) (h1 : len e + (m + 1) ≤ 140000) (h2 : e.wait + (m + 1) ≤ 70000) (hs : WS w0 p (stepE e) wr) : WidR w0 p fin m wr := by
  refine ⟨stepE e, hs, ?_, (stepE_low hok hk).2.2, ?_, ?_, ?_⟩
  · unfold widE at hf; rwa [if_neg hk] at hf
  · rw [stepE_wid hok hk]
    rw [Nat.pow_succ 2 (m + 1)] at hw
    rw [Nat.mul_comm 2 (wid e), Nat.mul_assoc, Nat.mul_comm 2]
    exact hw
  · rw [(stepE_off hk).2]; omega
  · have := stepE_wait hk; omega
set_option maxHeartbeats 2000000 in
theorem widen_w (w0 : Bs) (p m : Nat) (fin : En) (w : World) (h : Hid (WidR w0 p fin m w)) :
    Calls Tryz.prog 74 #[.pointer (some ⟨p, 0, none⟩)] w fun e w' => e = .returned (.tuple #[]) ∧ WS w0 p fin w' := by
  go_enter Tryz.func74, Tryz.ntmps74
  go_wp2_with fail
  go_loopg [2] m (fun k _ wr => Hid (WidR w0 p fin k wr))
  case atStart => exact h
  case round =>
    have HR := hrel
    clear hrel h
    obtain ⟨e, hs, hf, hok, hw, hb1, hb2⟩ := HR.out
    obtain ⟨c0, c1, -, -⟩ := WSm.two hs
    have HS := Lib.hid hs
    have HF := Lib.hid hf
    have HOK := Lib.hid hok
    have HW := Lib.hid hw
    have HB1 := Lib.hid hb1
    have HB2 := Lib.hid hb2
    clear hs hf hok hw hb1 hb2 HR
    go_wp2_with fail
    obtain ⟨kk, hkk⟩ : ∃ kk, kind e.low e.high = kk := ⟨_, rfl⟩
    refine (excess_any e.low e.high kk _ hkk).mono ?_
    rintro ee w1 ⟨rfl, hb⟩
    have H1 := Lib.hid (WSm.next HS.out hb)
    clear hb HS c0 c1
    rcases kind_cases e.low e.high with ⟨hk, k1⟩ | ⟨hk, k1, k2⟩ | ⟨hk, k1, k2, k3, k4⟩ | ⟨hk, k1, k2, k3⟩
    · obtain rfl : kk = 0 := by omega
      rw [excT_0]
      cases gk with
      | zero => exact absurd (widR_zero HOK.out HW.out) (by omega)
      | succ q =>
        obtain ⟨lo, hlo⟩ : ∃ lo, lo = 2 * (e.low - 0) := ⟨_, rfl⟩
        obtain ⟨hi, hhi⟩ : ∃ hi, hi = 2 * (e.high - 0) + 1 := ⟨_, rfl⟩
        have ok1 := HOK.out.1
        have ok2 := HOK.out.2
        have bw : e.wait ≤ 70000 := by have := HB2.out; omega
        have bo : e.out.length ≤ 140000 := by have := HB1.out; unfold len at this; omega
        have HK := Lib.hid hk
        have HLO := Lib.hid hlo
        have HHI := Lib.hid hhi
        have l1 : lo < 4294967296 := by omega
        have l2 : hi < 4294967296 := by omega
        clear hk hkk hlo hhi
        go_wp2_with fail
        with_reducible refine (send_n w0 p e.low e.high e.wait e.out.length (emit e.out false e.wait).length 0 false 0 e.out (emit e.out false e.wait) w1 H1 rfl (Lib.hid rfl) (by omega) (by omega) (Lib.hid rfl) (by omega) (Lib.hid rfl) (Lib.hid rfl)).mono ?_
        rintro ee w2 ⟨rfl, h2⟩
        have H2 := Lib.hid h2
        clear h2
        go_wp2_with fail
        with_reducible refine (double_n p e.low e.high 0 lo hi 0 w2 rfl (by omega) (by omega) HLO.out HHI.out l1 l2 (by omega) ok2 (WSm.two H2.out)).mono ?_
        rintro ee w3 ⟨rfl, rfl⟩
        have H3 := Lib.hid (WSm.setIv' H2.out lo hi)
        generalize ((w2.setCell ⟨p, 0, none⟩ (.int .u32 (lo : Int))).setCell ⟨p, 1, none⟩ (.int .u32 (hi : Int))) = w3 at H3 ⊢
        go_wp2
        go_roundg q
        case rel =>
          refine Lib.hid (WidR.step HOK.out (by rw [HK.out]; decide) HF.out HW.out HB1.out HB2.out ?_)
          rw [stepE_0 HK.out]
          have h3 := H3.out
          rw [HLO.out, HHI.out] at h3
          exact h3
        case measure => omega
    · obtain rfl : kk = 1 := by omega
      rw [excT_1]
      cases gk with
      | zero => exact absurd (widR_zero HOK.out HW.out) (by omega)
      | succ q =>
        obtain ⟨lo, hlo⟩ : ∃ lo, lo = 2 * (e.low - 2147483648) := ⟨_, rfl⟩
        obtain ⟨hi, hhi⟩ : ∃ hi, hi = 2 * (e.high - 2147483648) + 1 := ⟨_, rfl⟩
        have ok1 := HOK.out.1
        have ok2 := HOK.out.2
        have bw : e.wait ≤ 70000 := by have := HB2.out; omega
        have bo : e.out.length ≤ 140000 := by have := HB1.out; unfold len at this; omega
        have HK := Lib.hid hk
        have HLO := Lib.hid hlo
        have HHI := Lib.hid hhi
        have l1 : lo < 4294967296 := by omega
        have l2 : hi < 4294967296 := by omega
        clear hk hkk hlo hhi
        go_wp2_with fail
        with_reducible refine (send_n w0 p e.low e.high e.wait e.out.length (emit e.out true e.wait).length 1 true 1 e.out (emit e.out true e.wait) w1 H1 rfl (Lib.hid rfl) (by omega) (by omega) (Lib.hid rfl) (by omega) (Lib.hid rfl) (Lib.hid rfl)).mono ?_
        rintro ee w2 ⟨rfl, h2⟩
        have H2 := Lib.hid h2
        clear h2
        go_wp2_with fail
        with_reducible refine (double_n p e.low e.high 2147483648 lo hi 2147483648 w2 rfl (by omega) (by omega) HLO.out HHI.out l1 l2 (by omega) ok2 (WSm.two H2.out)).mono ?_
        rintro ee w3 ⟨rfl, rfl⟩
        have H3 := Lib.hid (WSm.setIv' H2.out lo hi)
        generalize ((w2.setCell ⟨p, 0, none⟩ (.int .u32 (lo : Int))).setCell ⟨p, 1, none⟩ (.int .u32 (hi : Int))) = w3 at H3 ⊢
        go_wp2
        go_roundg q
        case rel =>
          refine Lib.hid (WidR.step HOK.out (by rw [HK.out]; decide) HF.out HW.out HB1.out HB2.out ?_)
          rw [stepE_1 HK.out]
          have h3 := H3.out
          rw [HLO.out, HHI.out] at h3
          exact h3
        case measure => omega
    · obtain rfl : kk = 2 := by omega
      rw [excT_2]
      cases gk with
      | zero => exact absurd (widR_zero HOK.out HW.out) (by omega)
      | succ q =>
        obtain ⟨lo, hlo⟩ : ∃ lo, lo = 2 * (e.low - 1073741824) := ⟨_, rfl⟩
        obtain ⟨hi, hhi⟩ : ∃ hi, hi = 2 * (e.high - 1073741824) + 1 := ⟨_, rfl⟩
        have ok1 := HOK.out.1
        have ok2 := HOK.out.2
        have bw : e.wait ≤ 70000 := by have := HB2.out; omega
        have bo : e.out.length ≤ 140000 := by have := HB1.out; unfold len at this; omega
        have HK := Lib.hid hk
        have HLO := Lib.hid hlo
        have HHI := Lib.hid hhi
        have l1 : lo < 4294967296 := by omega
        have l2 : hi < 4294967296 := by omega
        clear hk hkk hlo hhi
        obtain ⟨c2, f2⟩ := WSm.wait_ H1.out
        go_wp2_with fail
        clear c2 f2
        have H2 := Lib.hid (WSm.setWait H1.out (e.wait + 1))
        have ew : (e.wait : Int) + 1 = ((e.wait + 1 : Nat) : Int) := by omega
        rw [ew]
        clear ew
        generalize w1.setCell ⟨p, 2, none⟩ (.int .i64 ((e.wait + 1 : Nat) : Int)) = w2 at H2 ⊢
        with_reducible refine (double_n p e.low e.high 1073741824 lo hi 1073741824 w2 rfl (by omega) (by omega) HLO.out HHI.out l1 l2 (by omega) ok2 (WSm.two H2.out)).mono ?_
        rintro ee w3 ⟨rfl, rfl⟩
        have H3 := Lib.hid (WSm.setIv' H2.out lo hi)
        generalize ((w2.setCell ⟨p, 0, none⟩ (.int .u32 (lo : Int))).setCell ⟨p, 1, none⟩ (.int .u32 (hi : Int))) = w3 at H3 ⊢
        go_wp2
        go_roundg q
        case rel =>
          refine Lib.hid (WidR.step HOK.out (by rw [HK.out]; decide) HF.out HW.out HB1.out HB2.out ?_)
          rw [stepE_2 HK.out]
          have h3 := H3.out
          rw [HLO.out, HHI.out] at h3
          exact h3
        case measure => omega
    · obtain rfl : kk = 3 := by omega
      rw [excT_3]
      have HE := Lib.hid (show e = fin from by
        have := HF.out
        cases gk with
        | zero => exact this
        | succ q => unfold widE at this; rwa [if_pos hk] at this)
      clear hk hkk
      go_wp2
      exact bodyPost_ret (v := .tuple #[]) (by simp [results, Tryz.results74, go_sem]) rfl ⟨rfl, by rw [← HE.out]; exact H1.out⟩
end Go.Proofs.YtgpdgegelipboaaGreatDoor.Cd
namespace Go.Proofs.YtgpdgegelipboaaGreatDoor.Cd
open Go.RowKit
def putC (e : En) : Int := if e.out.length ≤ 65536 ∧ e.wait ≤ 65536 then 0 else 2
theorem widR_start {w0 : Bs} {w1 : World} {p : Nat} {e : En} {a b T : Nat} (h : WSm w0 p e.low e.high e.wait e.out.length e.out w1) (hok : Ok e.low e.high) (hk : kind e.low e.high = 3) (hS : Sp a b T) (ho : e.out.length ≤ 65536) (hw : e.wait ≤ 65536) {lo hi : Nat} (hlo : lo = e.low + (e.high - e.low + 1) * a / T) (hhi : hi = e.low + (e.high - e.low + 1) * b / T - 1) :
    WidR w0 p (putE e a b T) 40 ((w1.setCell ⟨p, 1, none⟩ (.int .u32 (hi : Int))).setCell ⟨p, 0, none⟩ (.int .u32 (lo : Int))) := by
  obtain ⟨n1, _, _, _, n5⟩ := nar_ok hok hk hS
  have hs := WSm.setIv h lo hi
  subst hlo hhi
  refine ⟨nar e a b T, hs, rfl, n1, ?_, ?_, ?_⟩
  · rw [pow41]; omega
  · show e.out.length + e.wait + 40 ≤ 140000; omega
  · show e.wait + 40 ≤ 70000; omega
set_option maxHeartbeats 2000000 in
theorem put_w (w0 : Bs) (p : Nat) (e fin : En) (cd : Int) (C : Option Addr) (m d : Nat) (xs : List Int) (s : Int) (a b T : Nat) (w : World) (h : Hid (WS w0 p e w)) (hok : Hid (Ok e.low e.high)) (hk : Hid (kind e.low e.high = 3)) (ho : e.out.length ≤ 65536) (hw : e.wait ≤ 65536) (hx : Hid (Fq.RdI w C m xs)) (hm : Hid (m ≤ maxLen)) (hsym : Hid (symP xs s a b T)) (hfin : Hid (putE e a b T = fin)) (hcd : Hid (putC fin = cd)) :
    Calls Tryz.prog 41 #[.pointer (some ⟨p, 0, none⟩), .agg #[.slice C m d], .int .i64 s] w fun r w' => r = .returned (.int .i64 cd) ∧ WS w0 p fin w' := by
  obtain ⟨n1, -, n3, -, n5⟩ := nar_ok hok.out hk.out hsym.out.2.2.2
  obtain ⟨lo, hlo⟩ : ∃ lo, lo = e.low + (e.high - e.low + 1) * a / T := ⟨_, rfl⟩
  obtain ⟨hi, hhi⟩ : ∃ hi, hi = e.low + (e.high - e.low + 1) * b / T - 1 := ⟨_, rfl⟩
  have hb1 : 1 ≤ (e.high - e.low + 1) * b / T := by
    have hw := wide_wid hok.out hk.out
    have hw1 : 1073741824 ≤ e.high - e.low + 1 := hw.1
    exact Nat.lt_of_le_of_lt (Nat.zero_le _) (nar_parts hsym.out.2.2.2 (W := e.high - e.low + 1) (by omega)).1
  have l1 : lo ≤ hi := by rw [hlo, hhi]; exact n1.1
  have l2 : hi < 4294967296 := by rw [hhi]; exact n1.2
  have o1 := hok.out.1
  have o2 := hok.out.2
  have HLO := Lib.hid hlo
  have HHI := Lib.hid hhi
  have HB1 := Lib.hid hb1
  clear hlo hhi hb1 n1 n3 n5
  have HS0 := Lib.hid (nrs_start (d := d) hx.out)
  have HW0 := Lib.hid (WSm.next h.out ((Below.refl w.heap.size w).alloc (Nat.le_refl _) (.cells #[.slice C m d] 40)))
  go_enter Tryz.func41, Tryz.ntmps41
  go_wp2_with fail
  generalize w.alloc (.cells #[.slice C m d] 40) = w1 at HS0 HW0 ⊢
  obtain ⟨bf, hbf⟩ : ∃ bf, bf = w.heap.size := ⟨_, rfl⟩
  rw [← hbf] at HS0 ⊢
  clear hbf
  have c0 := Fq.blk0 HS0.out.1
  go_region_with (go_at_call 73; refine (narrow_ok p e.low e.high a b T lo hi C m d xs s _ o1 o2 (Lib.hid HS0.out.2.1.drew) hm hsym (Lib.hid (WSm.two HW0.out).drew) HLO HHI HB1 l1 l2).mono ?_; rintro r w2 ⟨rfl, w3, hb3, rfl⟩)
  have H3 := Lib.hid (WSm.next HW0.out (show Below w1.heap.size w1 w3 from ⟨hb3.os, hb3.tape, hb3.output, hb3.size, hb3.block⟩))
  have H4 := Lib.hid (widR_start H3.out hok.out hk.out hsym.out.2.2.2 ho hw HLO.out HHI.out)
  generalize (w3.setCell ⟨p, 1, none⟩ (.int .u32 (hi : Int))).setCell ⟨p, 0, none⟩ (.int .u32 (lo : Int)) = w4 at H4 ⊢
  clear hb3 c0 H3 HW0 HS0
  go_wp2_with fail
  rw [hfin.out] at H4
  with_reducible refine (widen_w w0 p 40 fin w4 H4).mono ?_
  rintro r w5 ⟨rfl, h5⟩
  have H5 := Lib.hid h5
  clear h5
  obtain ⟨c4, -⟩ := WSm.n_ H5.out
  obtain ⟨c2, -⟩ := WSm.wait_ H5.out
  by_cases q1 : fin.out.length ≤ 65536
  · have d1 : decide ((65536 : Int) < (fin.out.length : Int)) = false := by simp; omega
    by_cases q2 : fin.wait ≤ 65536
    · have d2 : decide ((65536 : Int) < (fin.wait : Int)) = false := by simp; omega
      have HC := Lib.hid (show cd = 0 by rw [← hcd.out, putC, if_pos ⟨q1, q2⟩])
      go_wp2
      go_ret
      exact ⟨by rw [HC.out]; rfl, H5.out⟩
    · have d2 : decide ((65536 : Int) < (fin.wait : Int)) = true := by simp; omega
      have HC := Lib.hid (show cd = 2 by rw [← hcd.out, putC, if_neg (fun h => q2 h.2)])
      go_wp2
      go_ret
      exact ⟨by rw [HC.out]; rfl, H5.out⟩
  · have d1 : decide ((65536 : Int) < (fin.out.length : Int)) = true := by simp; omega
    have HC := Lib.hid (show cd = 2 by rw [← hcd.out, putC, if_neg (fun h => q1 h.1)])
    go_wp2
    go_ret
    exact ⟨by rw [HC.out]; rfl, H5.out⟩
set_option maxHeartbeats 1000000 in
theorem put_no (w0 : Bs) (p low high wait N : Nat) (out : List Bool) (C : Option Addr) (m d : Nat) (xs : List Int) (s : Int) (w : World) (h : Hid (WSm w0 p low high wait N out w)) (hx : Hid (Fq.RdI w C m xs)) (hm : Hid (m ≤ maxLen)) (hsym : Hid (Fq.symB xs s = false)) :
    Calls Tryz.prog 41 #[.pointer (some ⟨p, 0, none⟩), .agg #[.slice C m d], .int .i64 s] w fun r w' => r = .returned (.int .i64 1) ∧ WSm w0 p low high wait N out w' := by
  have HS0 := Lib.hid (nrs_start (d := d) hx.out)
  have HW0 := Lib.hid (WSm.next h.out ((Below.refl w.heap.size w).alloc (Nat.le_refl _) (.cells #[.slice C m d] 40)))
  go_enter Tryz.func41, Tryz.ntmps41
  go_wp2_with fail
  generalize w.alloc (.cells #[.slice C m d] 40) = w1 at HS0 HW0 ⊢
  obtain ⟨bf, hbf⟩ : ∃ bf, bf = w.heap.size := ⟨_, rfl⟩
  rw [← hbf] at HS0 ⊢
  clear hbf
  have c0 := Fq.blk0 HS0.out.1
  go_region_with (go_at_call 73; refine (narrow_no p C m d xs s _ (Lib.hid HS0.out.2.1.drew) hm hsym).mono ?_; rintro r w3 ⟨rfl, hb3⟩)
  have H3 := Lib.hid (WSm.next HW0.out (show Below w1.heap.size w1 w3 from ⟨hb3.os, hb3.tape, hb3.output, hb3.size, hb3.block⟩))
  clear hb3 c0
  go_wp2
  go_ret
  exact ⟨rfl, H3.out⟩
end Go.Proofs.YtgpdgegelipboaaGreatDoor.Cd
namespace Go.Proofs.YtgpdgegelipboaaGreatDoor.Cd
open Go.RowKit
theorem end_join {w0 : Bs} {w : World} {p low high wait N : Nat} {out : List Bool} (h : WSm w0 p low high wait N out w) (ho : out.length ≤ 250000) :
    ∃ g k cap, w.cell? ⟨p, 3, none⟩ = some (.slice (some ⟨g, 0, none⟩) k cap) ∧ Calls Tryz.prog 76 #[.slice (some ⟨g, 0, none⟩) k cap] w (BOut w (JQ w.heap.size out)) := by
  obtain ⟨hb, g, k, cap, xs, h2⟩ := h
  refine ⟨g, k, cap, h2.blk.cell 3, ?_⟩
  have := join_out (some ⟨g, 0, none⟩) k cap xs w (by have := h2.few; omega) h2.rdL (fun x hx => (h2.rd x hx).2.1)
  rw [h2.bits] at this
  exact this
theorem JQ.far {B r : Nat} {l : List Bool} {v : Value} {er : Int} {w : World} (h : JQ B l v er w) (hr : r < B) (i : Nat) (a : Value) : JQ B l v er (w.setCell ⟨r, i, none⟩ a) := by
  rcases h with ⟨h2, h3, g, e, hg, hb, hl⟩ | h
  · exact .inl ⟨h2, h3, g, e, hg, hb.far (by simp; omega) _, hl⟩
  · exact .inr h
theorem JQ.mono {B B' : Nat} {l : List Bool} {v : Value} {er : Int} {w : World} (h : JQ B l v er w) (hb : B' ≤ B) : JQ B' l v er w := by
  rcases h with ⟨h2, h3, g, e, hg, hb2, hl⟩ | h
  · exact .inl ⟨h2, h3, g, e, by omega, hb2, hl⟩
  · exact .inr h
theorem WSm.rebase {w0 : Bs} {w : World} {p low high wait N : Nat} {out : List Bool} (h : WSm w0 p low high wait N out w) {r : Nat} (hr : r = w.heap.size) (o : Obj) : WSm ⟨w0.w, r, some o⟩ p low high wait N out (w.alloc o) := by
  subst hr
  have hn := h.next ((Below.refl w.heap.size w).alloc (Nat.le_refl _) o)
  obtain ⟨hb, g, k, cap, xs, h2⟩ := hn
  obtain ⟨_, g', k', cap', xs', h3⟩ := h
  have e : g' = g := by
    have a1 := h2.blk.cell 3
    have a2 := (World.cell?_alloc_lt w o ⟨p, 3, none⟩ h3.blk.lt).trans (h3.blk.cell 3)
    rw [a1] at a2
    have a3 : (some (Value.slice (some ⟨g, 0, none⟩) k cap)) = some (Value.slice (some ⟨g', 0, none⟩) k' cap') := a2
    injection a3 with a3; injection a3 with a3; injection a3 with a3; injection a3 with a3; exact a3.symm
  subst e
  refine ⟨hb, g', k, cap, xs, h2.blk, h2.own, h2.hp, h2.hg, h2.ne, h2.len, h2.rd, h2.bits, h2.few, ?_, ?_, ?_, ?_⟩
  · have := h3.blk.lt; show w.heap.size ≠ p; omega
  · have := (World.ownsRow.lt h3.own g' rfl).2; show w.heap.size ≠ g'; omega
  · show w.heap.size < _; simp
  · exact heap_alloc_new w o
theorem WSm.stay {w0 : Bs} {w : World} {p low high wait N : Nat} {out : List Bool} (h : WSm w0 p low high wait N out w) : w.heap[w0.r]? = w0.o := by
  obtain ⟨_, g, k, cap, xs, h2⟩ := h
  exact h2.kp.2.2.2
theorem WSm.base {w0 : Bs} {w : World} {p low high wait N : Nat} {out : List Bool} (h : WSm w0 p low high wait N out w) : Below w0.w.heap.size w0.w w := h.1
set_option maxHeartbeats 2000000 in
theorem end_w (w0 : Bs) (p : Nat) (e : En) (out2 : List Bool) (w : World) (h : Hid (WS w0 p e w)) (ho : e.out.length ≤ 65536) (hw : e.wait ≤ 65536) (ho2 : Hid (out2 = endBits e)) :
    Calls Tryz.prog 42 #[.pointer (some ⟨p, 0, none⟩)] w (BOut w0.w (JQ w0.w.heap.size out2)) := by
  have HW1 := Lib.hid (WSm.rebase (WSm.setWait h.out (e.wait + 1)) (r := w.heap.size) (by simp) (.cells #[.slice none 0 0, .int .i64 0] 49))
  have HB0 := Lib.hid (show w0.w.heap.size ≤ w.heap.size from h.out.1.size)
  have HL2 := Lib.hid (show out2.length = e.out.length + e.wait + 2 by rw [ho2.out, endBits_length]; rfl)
  obtain ⟨c2, f2⟩ := WSm.wait_ h.out
  obtain ⟨c0, -, -, -⟩ := WSm.two h.out
  have lp := WSm.lt h.out
  have ew : (e.wait : Int) + 1 = ((e.wait + 1 : Nat) : Int) := by omega
  have HEW := Lib.hid ew
  clear ew
  by_cases hl : 1073741824 ≤ e.low
  · have d1 : decide ((e.low : Int) < 1073741824) = false := by simp; omega
    have HO := Lib.hid (show out2 = emit e.out true (e.wait + 1) by rw [ho2.out]; unfold endBits; rw [decide_eq_true hl])
    clear hl
    go_enter Tryz.func42, Tryz.ntmps42
    go_wp2_with fail
    clear c0 c2 f2
    rw [HEW.out]
    obtain ⟨br, hbr⟩ : ∃ br, br = w.heap.size := ⟨_, rfl⟩
    generalize ((w.setCell ⟨p, 2, none⟩ (.int .i64 ((e.wait + 1 : Nat) : Int))).alloc (.cells #[.slice none 0 0, .int .i64 0] 49)) = w1 at HW1 ⊢
    rw [← hbr] at HW1 ⊢
    have HBR := Lib.hid (show w0.w.heap.size ≤ br by have := HB0.out; omega)
    clear hbr lp HB0
    with_reducible refine (send_n ⟨w0.w, br, some (.cells #[.slice none 0 0, .int .i64 0] 49)⟩ p e.low e.high (e.wait + 1) e.out.length out2.length 1 true 1 e.out out2 w1 HW1 rfl (Lib.hid rfl) (by omega) (by omega) (Lib.hid rfl) (by omega) (Lib.hid rfl) HO).mono ?_
    rintro ee w2 ⟨rfl, h2⟩
    have H2 := Lib.hid h2
    have HR2 := Lib.hid (show Blk w2 br 49 #[.slice none 0 0, .int .i64 0] from h2.stay)
    obtain ⟨g, k, cap, c3, hj⟩ := end_join h2 (by have := HL2.out; omega)
    have HJ := Lib.hid hj
    clear h2 hj
    go_wp2_with fail
    with_reducible refine HJ.out.mono ?_
    rintro ee w3 ⟨A, n, c, N, er, rfl, hb3, hq⟩
    have HK3 := Lib.hid (HR2.out.below hb3 HR2.out.lt)
    have HQ3 := Lib.hid hq
    have HB3 := Lib.hid (H2.out.base.trans (hb3.mono H2.out.base.size))
    have HS3 := Lib.hid (show br < w2.heap.size ∧ w0.w.heap.size ≤ w2.heap.size from ⟨HR2.out.lt, H2.out.base.size⟩)
    clear hb3 hq HJ c3
    obtain ⟨y1, y2, y3, y4⟩ := blk2 HK3.out
    go_wp2
    exact bodyPost_ret (v := .tuple #[.agg #[.slice A n c, .int .i64 N], .int .i64 er]) (by simp [results, Tryz.results42, go_sem, y1, y2]) rfl ⟨A, n, c, N, er, rfl, (HB3.out.setCell HBR.out _).setCell HBR.out _, JQ.mono (JQ.far (JQ.far HQ3.out HS3.out.1 _ _) HS3.out.1 _ _) HS3.out.2⟩
  · have d1 : decide ((e.low : Int) < 1073741824) = true := by simp; omega
    have HO := Lib.hid (show out2 = emit e.out false (e.wait + 1) by rw [ho2.out]; unfold endBits; rw [decide_eq_false hl])
    clear hl
    go_enter Tryz.func42, Tryz.ntmps42
    go_wp2_with fail
    clear c0 c2 f2
    rw [HEW.out]
    obtain ⟨br, hbr⟩ : ∃ br, br = w.heap.size := ⟨_, rfl⟩
    generalize ((w.setCell ⟨p, 2, none⟩ (.int .i64 ((e.wait + 1 : Nat) : Int))).alloc (.cells #[.slice none 0 0, .int .i64 0] 49)) = w1 at HW1 ⊢
    rw [← hbr] at HW1 ⊢
    have HBR := Lib.hid (show w0.w.heap.size ≤ br by have := HB0.out; omega)
    clear hbr lp HB0
    with_reducible refine (send_n ⟨w0.w, br, some (.cells #[.slice none 0 0, .int .i64 0] 49)⟩ p e.low e.high (e.wait + 1) e.out.length out2.length 0 false 0 e.out out2 w1 HW1 rfl (Lib.hid rfl) (by omega) (by omega) (Lib.hid rfl) (by omega) (Lib.hid rfl) HO).mono ?_
    rintro ee w2 ⟨rfl, h2⟩
    have H2 := Lib.hid h2
    have HR2 := Lib.hid (show Blk w2 br 49 #[.slice none 0 0, .int .i64 0] from h2.stay)
    obtain ⟨g, k, cap, c3, hj⟩ := end_join h2 (by have := HL2.out; omega)
    have HJ := Lib.hid hj
    clear h2 hj
    go_wp2_with fail
    with_reducible refine HJ.out.mono ?_
    rintro ee w3 ⟨A, n, c, N, er, rfl, hb3, hq⟩
    have HK3 := Lib.hid (HR2.out.below hb3 HR2.out.lt)
    have HQ3 := Lib.hid hq
    have HB3 := Lib.hid (H2.out.base.trans (hb3.mono H2.out.base.size))
    have HS3 := Lib.hid (show br < w2.heap.size ∧ w0.w.heap.size ≤ w2.heap.size from ⟨HR2.out.lt, H2.out.base.size⟩)
    clear hb3 hq HJ c3
    obtain ⟨y1, y2, y3, y4⟩ := blk2 HK3.out
    go_wp2
    exact bodyPost_ret (v := .tuple #[.agg #[.slice A n c, .int .i64 N], .int .i64 er]) (by simp [results, Tryz.results42, go_sem, y1, y2]) rfl ⟨A, n, c, N, er, rfl, (HB3.out.setCell HBR.out _).setCell HBR.out _, JQ.mono (JQ.far (JQ.far HQ3.out HS3.out.1 _ _) HS3.out.1 _ _) HS3.out.2⟩
end Go.Proofs.YtgpdgegelipboaaGreatDoor.Cd
namespace Go.Proofs.YtgpdgegelipboaaGreatDoor.Cd
open Go.RowKit
def rsC (low high : Nat) (wt : Int) (A : Option Addr) (n c : Nat) (N : Int) : Array Value := #[.int .u32 (low : Int), .int .u32 (high : Int), .int .i64 wt, .slice A n c, .int .i64 N]
def rsW (w : World) (low high : Nat) (wt : Int) (A : Option Addr) (n c : Nat) (N : Int) : World :=
  ((w.alloc (.cells (rsC low high wt A n c N) 80)).alloc (.cells #[.slice A n c, .int .i64 N] 49)).alloc (.cells #[.int .u32 (low : Int), .int .u32 (high : Int), .int .i64 wt, .slice (some ⟨w.heap.size + 1, 0, none⟩) 1 1, .int .i64 N] 119)
theorem rs_start {w : World} {low high k : Nat} {A : Option Addr} {n c : Nat} {N : Int} {l : List Bool} (h : IsB w (.agg #[.slice A n c, .int .i64 N]) l) :
    WSm ⟨w, w.heap.size, some (.cells (rsC low high (k : Int) A n c N) 80)⟩ (w.heap.size + 1 + 1) low high k l.length l (rsW w low high (k : Int) A n c N) := by
  obtain ⟨hn, hN, hr, hl⟩ := isB_parts h
  have hb : Below w.heap.size w (rsW w low high (k : Int) A n c N) := (((Below.refl w.heap.size w).alloc (Nat.le_refl _) _).alloc (by simp) _).alloc (by simp; omega) _
  have hr2 : Rd (rsW w low high (k : Int) A n c N) A n (pack l) := hr.below hb
  refine ⟨hb, w.heap.size + 1, 1, 1, [⟨A, n, c, N, pack l⟩], ?_, ?_, ?_, ?_, ?_, rfl, ?_, ?_, ?_, ?_, ?_, ?_, ?_⟩
  · rw [hN]
    exact Blk.newAt (by simp)
  · refine ⟨rfl, .inr ⟨w.heap.size + 1, 1, #[.slice A n c, .int .i64 N], rfl, by show w.heap.size ≤ _; omega, ?_, by omega, by unfold maxLen; omega, rfl, rfl⟩⟩
    have : Blk ((w.alloc (.cells (rsC low high (k : Int) A n c N) 80)).alloc (.cells #[.slice A n c, .int .i64 N] 49)) (w.heap.size + 1) 49 #[.slice A n c, .int .i64 N] := Blk.newAt (by simp)
    exact this.alloc _
  · show w.heap.size ≤ _; omega
  · show w.heap.size ≤ _; omega
  · omega
  · intro x hx
    have : x = ⟨A, n, c, N, pack l⟩ := by simpa using hx
    subst this
    refine ⟨hr2, by show okB (pack l) N = true; rw [hN]; exact okB_pack l hl, ?_, ?_⟩
    · intro ad e hn
      have := hr.lies hn ad e
      omega
    · intro ad e hn
      have := hr.lies hn ad e
      omega
  · show bitsIn (pack l) N.toNat ++ [] = l
    rw [hN, List.append_nil]
    exact bitsIn_pack l
  · omega
  · show w.heap.size ≠ _; omega
  · show w.heap.size ≠ _; omega
  · show w.heap.size < _; unfold rsW; simp; omega
  · have : Blk (w.alloc (.cells (rsC low high (k : Int) A n c N) 80)) w.heap.size 80 (rsC low high (k : Int) A n c N) := Blk.new w _ _
    exact (this.alloc _).alloc _
def RsOk (w : World) (low high k : Nat) (l : List Bool) (e : Ending) (w' : World) : Prop :=
  ∃ z p, z.w = w ∧ e = .returned (.tuple #[.pointer (some ⟨p, 0, none⟩), .int .i64 0]) ∧ WSm z p low high k l.length l w'
set_option maxHeartbeats 2000000 in
theorem resume_ok (low high k : Nat) (A : Option Addr) (n c : Nat) (N : Int) (l : List Bool) (w : World) (_hl : low < 4294967296) (_hh : high < 4294967296) (hk : k ≤ 65536) (hw : Hid (kind low high = 3)) (hib : Hid (IsB w (.agg #[.slice A n c, .int .i64 N]) l)) :
    Calls Tryz.prog 39 #[encV low high (k : Int) A n c N] w (RsOk w low high k l) := by
  unfold encV
  have HS := Lib.hid (rs_start (low := low) (high := high) (k := k) hib.out)
  unfold rsW rsC at HS
  have d1 : decide ((k : Int) < 0) = false := by simp
  have d2 : decide ((65536 : Int) < (k : Int)) = false := by simp; omega
  go_enter Tryz.func39, Tryz.ntmps39
  go_wp2_with fail
  generalize ((w.alloc (.cells #[.int .u32 (low : Int), .int .u32 (high : Int), .int .i64 (k : Int), .slice A n c, .int .i64 N] 80)).alloc (.cells #[.slice A n c, .int .i64 N] 49)).alloc (.cells #[.int .u32 (low : Int), .int .u32 (high : Int), .int .i64 (k : Int), .slice (some ⟨w.heap.size + 1, 0, none⟩) 1 1, .int .i64 N] 119) = w1 at HS ⊢
  refine (excess_any low high 3 w1 hw.out).mono ?_
  rintro e w2 ⟨rfl, hb2⟩
  have H2 := Lib.hid (WSm.next HS.out hb2)
  have HE2 := Lib.hid (show Blk w2 w.heap.size 80 #[.int .u32 (low : Int), .int .u32 (high : Int), .int .i64 (k : Int), .slice A n c, .int .i64 N] from H2.out.stay)
  clear hb2 HS
  rw [excT_3]
  obtain ⟨x1, x2, x3, x4, x5⟩ := blk5 HE2.out
  go_wp2_with fail
  have hcon := check_any A n c N (pack l) w2 ((isB_parts hib.out).2.2.1.below H2.out.base)
  rw [show okB (pack l) N = true by rw [(isB_parts hib.out).2.1]; exact okB_pack l (isB_parts hib.out).2.2.2] at hcon
  refine hcon.mono ?_
  clear hcon
  rintro e w3 ⟨rfl, hb3⟩
  have H3 := Lib.hid (WSm.next H2.out hb3)
  clear hb3
  go_wp2
  go_ret2
  exact ⟨_, _, rfl, rfl, H3.out⟩
theorem below5 {B g : Nat} {w u : World} (h : Below B w u) (hg : B ≤ g) (a b c d e : Value) : Below B w (((((u.setCell ⟨g, 0, none⟩ a).setCell ⟨g, 1, none⟩ b).setCell ⟨g, 2, none⟩ c).setCell ⟨g, 3, none⟩ d).setCell ⟨g, 4, none⟩ e) :=
  ((((h.setCell hg a).setCell hg b).setCell hg c).setCell hg d).setCell hg e
theorem below5a {g : Nat} {w u : World} (h : Below w.heap.size w u) (hg : w.heap.size ≤ g) (a b c d e : Value) (o : Obj) : Below w.heap.size w ((((((u.setCell ⟨g, 0, none⟩ a).setCell ⟨g, 1, none⟩ b).setCell ⟨g, 2, none⟩ c).setCell ⟨g, 3, none⟩ d).setCell ⟨g, 4, none⟩ e).alloc o) :=
  (below5 h hg a b c d e).alloc (below5 h hg a b c d e).size o
theorem begin_any (w : World) : Calls Tryz.prog 40 #[] w fun e w' => e = .returned (encV 0 4294967295 0 none 0 0 0) ∧ Below w.heap.size w w' := by
  have HK := Lib.hid (Blk.new w 80 #[.int .u32 0, .int .u32 0, .int .i64 0, .slice none 0 0, .int .i64 0])
  have HB := Lib.hid ((Below.refl w.heap.size w).alloc (Nat.le_refl _) (.cells #[.int .u32 0, .int .u32 0, .int .i64 0, .slice none 0 0, .int .i64 0] 80))
  go_enter Tryz.func40, Tryz.ntmps40
  go_wp2_with fail
  generalize w.alloc (.cells #[.int .u32 0, .int .u32 0, .int .i64 0, .slice none 0 0, .int .i64 0] 80) = w1 at HK HB ⊢
  refine (whole_any w1).mono ?_
  rintro e w2 ⟨rfl, hb2⟩
  have HK2 := Lib.hid (HK.out.below hb2 HK.out.lt)
  have HB2 := Lib.hid (HB.out.trans (hb2.mono HB.out.size))
  clear hb2 HB HK
  unfold ivV
  have b2 := HK2.out.lt
  obtain ⟨x1, x2, x3, x4, x5⟩ := blk5 HK2.out
  obtain ⟨f1, f2, f3, f4, f5, -⟩ := frz6 HK2.out
  go_wp2
  exact bodyPost_ret (v := encV 0 4294967295 0 none 0 0 0) (by simp [results, Tryz.results40, go_sem, encV, x1, x2, x3, x4, x5, b2]) rfl ⟨rfl, below5a HB2.out (Nat.le_refl _) _ _ _ _ _ _⟩
end Go.Proofs.YtgpdgegelipboaaGreatDoor.Cd
namespace Go.Proofs.YtgpdgegelipboaaGreatDoor.Cd
open Go.RowKit
structure Tb where
  C : Option Addr
  m : Nat
  d : Nat
  xs : List Int
def RdT (w : World) (L : Option Addr) (n : Nat) (ts : List Tb) : Prop :=
  ts.length = n ∧ (0 < n → ∃ ad, L = some ad ∧ ∀ j t, ts[j]? = some t → w.cell? (ad.add j) = some (.slice t.C t.m t.d) ∧ Fq.RdI w t.C t.m t.xs ∧ t.m ≤ maxLen)
section
variable {w w' : World} {L : Option Addr} {n : Nat} {ts : List Tb}
theorem RdT.none_ : RdT w L 0 [] := ⟨rfl, fun h => absurd h (by omega)⟩
theorem RdT.below (h : RdT w L n ts) (hb : Below w.heap.size w w') : RdT w' L n ts := by
  refine ⟨h.1, fun hn => ?_⟩
  obtain ⟨ad, e, hc⟩ := h.2 hn
  refine ⟨ad, e, fun j t ht => ?_⟩
  obtain ⟨h1, h2, h3⟩ := hc j t ht
  exact ⟨(hb.cell (World.block_lt_of_cell? _ _ h1)).trans h1, h2.below hb, h3⟩
theorem RdT.at_ (h : RdT w L n ts) {k : Nat} (hk : k < n) : ∃ ad t, L = some ad ∧ ts[k]? = some t ∧ ad.block < w.heap.size ∧ w.cell? (ad.add k) = some (.slice t.C t.m t.d) ∧ Fq.RdI w t.C t.m t.xs ∧ t.m ≤ maxLen := by
  obtain ⟨ad, e, hc⟩ := h.2 (by omega)
  have hl : k < ts.length := by have := h.1; omega
  obtain ⟨t, ht⟩ : ∃ t, ts[k]? = some t := ⟨ts[k], by simp [hl]⟩
  obtain ⟨h1, h2, h3⟩ := hc k t ht
  have hb := World.block_lt_of_cell? _ _ h1
  rw [block_of_add] at hb
  exact ⟨ad, t, e, ht, hb, h1, h2, h3⟩
end
abbrev Pr := Int × List Int
def spA (q : Pr) : Nat := (q.2.getD q.1.toNat 0).toNat
def spB (q : Pr) : Nat := (q.2.getD (q.1.toNat + 1) 0).toNat
def spT (xs : List Int) : Nat := (Fq.totF true xs).toNat
def okP (q : Pr) : Bool := Fq.symB q.2 q.1
theorem symP_of {q : Pr} (h : okP q = true) : symP q.2 q.1 (spA q) (spB q) (spT q.2) := by
  have h' := h
  unfold okP Fq.symB at h'
  simp only [Bool.and_eq_true, decide_eq_true_eq] at h'
  obtain ⟨hok, h0, h1⟩ := h'
  have hp := Fq.okF_parts hok
  have i1 : q.1.toNat + 1 < q.2.length := by omega
  have b1 := Fq.okF_bd hok (i := q.1.toNat) (by omega)
  have b2 := Fq.okF_bd hok (i := q.1.toNat + 1) i1
  have b3 := Fq.okF_bd hok (i := q.2.length - 1) (by omega)
  have m1 := Fq.okF_mono hok (i := q.1.toNat) (j := q.1.toNat + 1) (by omega) i1
  have m2 := Fq.mono_le hok (i := q.1.toNat + 1) (j := q.2.length - 1) (by omega) (by omega)
  have e1 : ((spA q : Nat) : Int) = q.2.getD q.1.toNat 0 := by unfold spA; omega
  have e2 : ((spB q : Nat) : Int) = q.2.getD (q.1.toNat + 1) 0 := by unfold spB; omega
  have e3 : ((spT q.2 : Nat) : Int) = q.2.getD (q.2.length - 1) 0 := by unfold spT Fq.totF; simp only [if_true]; omega
  refine ⟨?_, hok, ?_, ?_, ?_, ?_⟩
  · unfold Fq.spanV
    unfold okP at h
    rw [h, e1, e2]
    rfl
  · rw [e3]; rfl
  · omega
  · omega
  · omega
def put1 (e : En) (q : Pr) : En := putE e (spA q) (spB q) (spT q.2)
def stE (e : En) (ps : List Pr) : En := ps.foldl put1 e
theorem stE_cons (e : En) (q : Pr) (ps : List Pr) : stE e (q :: ps) = stE (put1 e q) ps := rfl
theorem stE_snoc (e : En) (ps : List Pr) (q : Pr) : stE e (ps ++ [q]) = put1 (stE e ps) q := by simp [stE]
theorem putC_cases (e : En) : (putC e = 0 ∧ e.out.length ≤ 65536 ∧ e.wait ≤ 65536) ∨ putC e = 2 := by
  unfold putC
  split
  · rename_i h; exact .inl ⟨rfl, h⟩
  · exact .inr rfl
def allErr (e : En) : List Pr → Int
  | [] => 0
  | q :: r => if okP q = true then (if putC (put1 e q) = 0 then allErr (put1 e q) r else 2) else 1
theorem allErr_no {e : En} {q : Pr} {r : List Pr} (h : okP q = false) : allErr e (q :: r) = 1 := by unfold allErr; rw [h]; rfl
theorem allErr_long {e : En} {q : Pr} {r : List Pr} (h : okP q = true) (h2 : putC (put1 e q) = 2) : allErr e (q :: r) = 2 := by unfold allErr; rw [if_pos h, if_neg (by rw [h2]; decide)]
theorem allErr_ok {e : En} {q : Pr} {r : List Pr} (h : okP q = true) (h2 : putC (put1 e q) = 0) : allErr e (q :: r) = allErr (put1 e q) r := by rw [allErr, if_pos h, if_pos h2]
def Fine (e : En) : Prop := Ok e.low e.high ∧ kind e.low e.high = 3 ∧ e.out.length ≤ 65536 ∧ e.wait ≤ 65536
theorem Fine.put {e : En} {q : Pr} (h : Fine e) (hq : okP q = true) (hc : putC (put1 e q) = 0) : Fine (put1 e q) := by
  obtain ⟨a, b, _⟩ := put_facts h.1 h.2.1 (symP_of hq).2.2.2
  rcases putC_cases (put1 e q) with ⟨_, c, d⟩ | c
  · exact ⟨a, b, c, d⟩
  · rw [c] at hc; cases hc
theorem fine0 : Fine e0 := ⟨e0_ok.1, e0_ok.2, by decide, by decide⟩
theorem allErr_zero {ps : List Pr} : ∀ {e : En}, Fine e → allErr e ps = 0 → Fine (stE e ps) ∧ ∀ q ∈ ps, okP q = true := by
  induction ps with
  | nil => intro e h _; exact ⟨h, by simp⟩
  | cons q r ih =>
    intro e h h0
    cases hq : okP q with
    | false => rw [allErr_no hq] at h0; cases h0
    | true =>
      rcases putC_cases (put1 e q) with ⟨c, _, _⟩ | c
      · rw [allErr_ok hq c] at h0
        obtain ⟨a, b⟩ := ih (h.put hq c) h0
        rw [stE_cons]
        refine ⟨a, fun q' hq' => ?_⟩
        rcases List.mem_cons.1 hq' with e | e
        · rw [e]; exact hq
        · exact b q' e
      · rw [allErr_long hq c] at h0; cases h0
def AllOut (w : World) (ps : List Pr) (e : Ending) (w' : World) : Prop :=
  (allErr e0 ps = 0 ∧ BOut w (JQ w.heap.size (endBits (stE e0 ps))) e w') ∨ (allErr e0 ps ≠ 0 ∧ BBad w (allErr e0 ps) e w')
end Go.Proofs.YtgpdgegelipboaaGreatDoor.Cd
namespace Go.Proofs.YtgpdgegelipboaaGreatDoor.Cd
open Go.RowKit
def prs (ss : List Int) (ts : List Tb) : List Pr := ss.zip (ts.map (·.xs))
theorem prs_get {ss : List Int} {ts : List Tb} {k : Nat} {t : Tb} (h1 : k < ss.length) (h2 : ts[k]? = some t) : (prs ss ts).drop k = (ss.getD k 0, t.xs) :: (prs ss ts).drop (k + 1) ∧ (prs ss ts).take (k + 1) = (prs ss ts).take k ++ [(ss.getD k 0, t.xs)] := by
  obtain ⟨hk, e⟩ := List.getElem?_eq_some_iff.1 h2
  have hl : k < (prs ss ts).length := by unfold prs; rw [List.length_zip, List.length_map]; omega
  have hg : (prs ss ts)[k] = (ss.getD k 0, t.xs) := by
    have : (prs ss ts)[k]? = some (ss.getD k 0, t.xs) := by
      unfold prs
      rw [List.getElem?_zip_eq_some]
      exact ⟨Fq.get_of_lt h1, by rw [List.getElem?_map, h2]; rfl⟩
    rw [List.getElem?_eq_getElem hl] at this
    injection this
  exact ⟨by rw [List.drop_eq_getElem_cons hl, hg], by rw [List.take_succ_eq_append_getElem hl, hg]⟩
def AllR (w : World) (z : Bs) (p br : Nat) (ps : List Pr) (k : Nat) (wr : World) : Prop :=
  WS z p (stE e0 (ps.take k)) wr ∧ Fine (stE e0 (ps.take k)) ∧ allErr e0 ps = allErr (stE e0 (ps.take k)) (ps.drop k) ∧ Blk z.w br 49 #[.slice none 0 0, .int .i64 0] ∧ Below w.heap.size w z.w ∧ w.heap.size ≤ br
theorem AllR.below {w : World} {z : Bs} {p br : Nat} {ps : List Pr} {k : Nat} {wr : World} (h : AllR w z p br ps k wr) : Below w.heap.size w wr := h.2.2.2.2.1.trans (h.1.1.mono h.2.2.2.2.1.size)
theorem BOut.store {w w1 w2 : World} {br : Nat} {l : List Bool} {A : Option Addr} {n c : Nat} {N er : Int} (hb : Below w.heap.size w w1) (hbr : w.heap.size ≤ br) (hlt : br < w1.heap.size) (h2 : Below w1.heap.size w1 w2) (hq : JQ w1.heap.size l (.agg #[.slice A n c, .int .i64 N]) er w2) (a b : Value) :
    BOut w (JQ w.heap.size l) (.returned (.tuple #[.agg #[.slice A n c, .int .i64 N], .int .i64 er])) ((w2.setCell ⟨br, 0, none⟩ a).setCell ⟨br, 1, none⟩ b) :=
  ⟨A, n, c, N, er, rfl, ((hb.trans (h2.mono hb.size)).setCell hbr _).setCell hbr _, JQ.mono (JQ.far (JQ.far hq hlt _ _) hlt _ _) hb.size⟩
set_option maxHeartbeats 4000000 in
theorem all_walk (A : Option Addr) (n c : Nat) (L : Option Addr) (d : Nat) (ss : List Int) (ts : List Tb) (w : World) (hn : Hid (n ≤ maxLen)) (hs : Hid (Fq.RdI w A n ss)) (ht : Hid (RdT w L n ts)) :
    Calls Tryz.prog 20 #[.slice A n c, .slice L n d] w (AllOut w (prs ss ts)) := by
  obtain ⟨ps, hps⟩ : ∃ ps, ps = prs ss ts := ⟨_, rfl⟩
  rw [← hps]
  have HPS := Lib.hid hps
  clear hps
  have d1 : ((n : Int) != (n : Int)) = false := by simp
  have b1 : n ≤ 9223372036854775807 := by have := hn.out; unfold maxLen at this; omega
  have HK := Lib.hid (Blk.new w 49 #[.slice none 0 0, .int .i64 0])
  have HB := Lib.hid ((Below.refl w.heap.size w).alloc (Nat.le_refl _) (.cells #[.slice none 0 0, .int .i64 0] 49))
  go_enter Tryz.func20, Tryz.ntmps20
  go_wp2_with fail
  generalize w.alloc (.cells #[.slice none 0 0, .int .i64 0] 49) = w1 at HK HB ⊢
  obtain ⟨br, hbr⟩ : ∃ br, br = w.heap.size := ⟨_, rfl⟩
  have HBR := Lib.hid (show w.heap.size ≤ br by omega)
  rw [← hbr] at HK ⊢
  clear hbr
  refine (begin_any w1).mono ?_
  rintro e w2 ⟨rfl, hb2⟩
  have HK2 := Lib.hid (HK.out.below hb2 HK.out.lt)
  have HB2 := Lib.hid (HB.out.trans (hb2.mono HB.out.size))
  clear hb2 HB HK
  have hcon := resume_ok 0 4294967295 0 none 0 0 0 [] w2 (by omega) (by omega) (by omega) (Lib.hid e0_ok.2) (Lib.hid (IsB.nil_ w2))
  unfold encV at hcon ⊢
  go_wp2_with fail
  refine hcon.mono ?_
  clear hcon
  rintro e w3 ⟨z, p, hz, rfl, h3⟩
  have HR0 := Lib.hid (show AllR w z p br ps 0 w3 from ⟨h3, fine0, rfl, by rw [hz]; exact HK2.out, by rw [hz]; exact HB2.out, HBR.out⟩)
  clear hz h3 HK2 HB2
  go_wp2
  go_loopw [28] (fun v wr => ∃ k : Nat, v = .int .i64 (k : Int) ∧ k ≤ n ∧ Hid (AllR w z p br ps k wr)) (fun v _ => n - (intOf v).toNat)
  case atStart => exact ⟨0, rfl, by omega, HR0⟩
  case round =>
    obtain ⟨k, rfl, hk, HZ⟩ := hrel
    clear HR0
    by_cases hlt : k < n
    · obtain ⟨ad, rfl, had, x1⟩ := (hs.out.below HZ.out.below).at_ hlt
      obtain ⟨ad2, t, rfl, hget, had2, x2, hx, hm⟩ := (ht.out.below HZ.out.below).at_ hlt
      obtain ⟨g1, g2⟩ := prs_get (ss := ss) (by have := hs.out.1; omega) hget
      rw [← HPS.out] at g1 g2
      obtain ⟨s, hs'⟩ : ∃ s, s = ss.getD k 0 := ⟨_, rfl⟩
      rw [← hs'] at x1 g1 g2
      have HG1 := Lib.hid g1
      have HG2 := Lib.hid g2
      have HX := Lib.hid hx
      have HM := Lib.hid hm
      obtain ⟨C, m, dd, xs⟩ := t
      dsimp only at x2 HX HM HG1 HG2
      clear hs' g1 g2 hget hx hm
      cases hq : okP (s, xs) with
      | false =>
        have HQ := Lib.hid hq
        clear hq
        go_wp2_with fail
        refine (put_no z p _ _ _ _ _ C m dd xs s _ (Lib.hid HZ.out.1) HX HM HQ).mono ?_
        rintro e w5 ⟨rfl, h5⟩
        have HE := Lib.hid (show allErr e0 ps = 1 by rw [HZ.out.2.2.1, HG1.out, allErr_no HQ.out])
        have HK5 := Lib.hid (HZ.out.2.2.2.1.below h5.base HZ.out.2.2.2.1.lt)
        have HB5 := Lib.hid (HZ.out.2.2.2.2.1.trans (h5.base.mono HZ.out.2.2.2.2.1.size))
        clear h5 x1 x2
        obtain ⟨y1, y2, y3, y4⟩ := blk2 HK5.out
        go_wp2
        exact bodyPost_ret (v := .tuple #[zeroB, .int .i64 1]) (by simp [results, Tryz.results20, go_sem, zeroB, y1, y2]) rfl (.inr ⟨by rw [HE.out]; decide, by rw [HE.out], (HB5.out.setCell HBR.out _).setCell HBR.out _⟩)
      | true =>
        have HQ := Lib.hid hq
        clear hq
        have HF := Lib.hid HZ.out.2.1
        obtain ⟨E, hE⟩ : ∃ E, E = stE e0 (ps.take k) := ⟨_, rfl⟩
        have HWS := Lib.hid (show WS z p E wr by rw [hE]; exact HZ.out.1)
        rw [← hE] at HF
        have HEE := Lib.hid hE
        clear hE
        have f3 : E.out.length ≤ 65536 := HF.out.2.2.1
        have f4 : E.wait ≤ 65536 := HF.out.2.2.2
        rcases putC_cases (put1 E (s, xs)) with ⟨hc, -, -⟩ | hc
        · have HC := Lib.hid hc
          clear hc
          go_wp2_with fail
          refine (put_w z p E (put1 E (s, xs)) 0 C m dd xs s _ _ _ _ HWS (Lib.hid HF.out.1) (Lib.hid HF.out.2.1) f3 f4 HX HM (Lib.hid (symP_of HQ.out)) (Lib.hid rfl) HC).mono ?_
          rintro e w5 ⟨rfl, h5⟩
          have HR5 := Lib.hid (show AllR w z p br ps (k + 1) w5 from by
            refine ⟨?_, ?_, ?_, HZ.out.2.2.2⟩
            · rw [HG2.out, stE_snoc, ← HEE.out]; exact h5
            · rw [HG2.out, stE_snoc, ← HEE.out]; exact HF.out.put HQ.out HC.out
            · rw [HG2.out, stE_snoc, ← HEE.out, HZ.out.2.2.1, HG1.out, ← HEE.out, allErr_ok HQ.out HC.out])
          clear h5 x1 x2
          go_wp2
          go_roundw
          case rel => exact ⟨k + 1, by go_num, by omega, HR5⟩
          case measure => simp [intOf]; omega
        · have HC := Lib.hid hc
          clear hc
          go_wp2_with fail
          refine (put_w z p E (put1 E (s, xs)) 2 C m dd xs s _ _ _ _ HWS (Lib.hid HF.out.1) (Lib.hid HF.out.2.1) f3 f4 HX HM (Lib.hid (symP_of HQ.out)) (Lib.hid rfl) HC).mono ?_
          rintro e w5 ⟨rfl, h5⟩
          have HE := Lib.hid (show allErr e0 ps = 2 by rw [HZ.out.2.2.1, HG1.out, ← HEE.out, allErr_long HQ.out HC.out])
          have HK5 := Lib.hid (HZ.out.2.2.2.1.below (WSm.base h5) HZ.out.2.2.2.1.lt)
          have HB5 := Lib.hid (HZ.out.2.2.2.2.1.trans ((WSm.base h5).mono HZ.out.2.2.2.2.1.size))
          clear h5 x1 x2
          obtain ⟨y1, y2, y3, y4⟩ := blk2 HK5.out
          go_wp2
          exact bodyPost_ret (v := .tuple #[zeroB, .int .i64 2]) (by simp [results, Tryz.results20, go_sem, zeroB, y1, y2]) rfl (.inr ⟨by rw [HE.out]; decide, by rw [HE.out], (HB5.out.setCell HBR.out _).setCell HBR.out _⟩)
    · obtain rfl : k = n := by omega
      have hpl : ps.length = k := by rw [HPS.out]; unfold prs; rw [List.length_zip, List.length_map, hs.out.1, ht.out.1]; omega
      obtain ⟨E, hE⟩ : ∃ E, E = stE e0 ps := ⟨_, rfl⟩
      obtain ⟨q1, q2, q3, q4, q5, -⟩ := HZ.out
      rw [List.take_of_length_le (by omega), ← hE] at q1 q2 q3
      rw [List.drop_of_length_le (by omega)] at q3
      have Q1 := Lib.hid q1
      have Q2 := Lib.hid q2
      have Q3 := Lib.hid (show allErr e0 ps = 0 from q3)
      have Q4 := Lib.hid q4
      have Q5 := Lib.hid q5
      have HE := Lib.hid hE
      have f3 : E.out.length ≤ 65536 := q2.2.2.1
      have f4 : E.wait ≤ 65536 := q2.2.2.2
      clear q1 q2 q3 q4 q5 hE hpl HZ
      go_wp2_with fail
      refine (end_w z p E (endBits E) _ Q1 f3 f4 (Lib.hid rfl)).mono ?_
      rintro e w5 ⟨A5, n5, c5, N5, er5, rfl, hb5, hq5⟩
      have HK5 := Lib.hid (Q4.out.below hb5 Q4.out.lt)
      have HB5 := Lib.hid hb5
      have HQ5 := Lib.hid hq5
      clear hb5 hq5
      obtain ⟨y1, y2, y3, y4⟩ := blk2 HK5.out
      go_wp2
      refine bodyPost_ret (v := .tuple #[.agg #[.slice A5 n5 c5, .int .i64 N5], .int .i64 er5]) (by simp [results, Tryz.results20, go_sem, y1, y2]) rfl (.inl ⟨Q3.out, ?_⟩)
      rw [← HE.out]
      exact BOut.store Q5.out HBR.out Q4.out.lt HB5.out HQ5.out _ _
end Go.Proofs.YtgpdgegelipboaaGreatDoor.Cd
namespace Go.Proofs.YtgpdgegelipboaaGreatDoor.Fq
open Go.RowKit
def ncells (xs : List Nat) : Array Value := icells (xs.map fun x : Nat => (x : Int))
def CmpOk (w : World) (B C : Nat) (ls : List Int) : Prop :=
  C ≠ B ∧ ∃ A m c, w.cell? ⟨C, 0, none⟩ = some (.slice A m c) ∧ RdI w A m ls ∧ ∀ ad, A = some ad → 0 < m → ad.block ≠ B
theorem CmpOk.only {w w' : World} {B C : Nat} {ls : List Int} (h : CmpOk w B C ls) (hg : w.grownBy w' (some B)) : CmpOk w' B C ls := by
  obtain ⟨h1, A, m, c, h2, h3, h4⟩ := h
  refine ⟨h1, A, m, c, ?_, h3.only hg h4, h4⟩
  exact (World.cell?_of_block (hg.block C (World.block_lt_of_cell? _ _ h2) (fun e => h1 (by injection e)))).trans h2
theorem CmpOk.drewN {w : World} {B C : Nat} {ls : List Int} (h : CmpOk w B C ls) (n : Nat) : CmpOk (w.drewN n) B C ls := h
end Go.Proofs.YtgpdgegelipboaaGreatDoor.Fq
namespace Go.Proofs.YtgpdgegelipboaaGreatDoor.Fq
open Go.RowKit
def St (w wr : World) (B : Nat) (xs : List Nat) : Prop := w.grownBy wr (some B) ∧ Blk wr B 3 (ncells xs)
theorem St.drewN {w wr : World} {B : Nat} {xs : List Nat} (h : St w wr B xs) (n : Nat) : St w (wr.drewN n) B xs := ⟨only_drewN h.1 n, h.2⟩
theorem St.drew {w wr : World} {B : Nat} {xs : List Nat} (h : St w wr B xs) : St w wr.drew B xs := ⟨only_drew h.1, h.2⟩
theorem St.trans {w wr wr' : World} {B : Nat} {xs ys : List Nat} (h : St w wr B xs) (h' : St wr wr' B ys) : St w wr' B ys :=
  ⟨World.grownBy.trans h.1 h'.1, h'.2⟩
def StP (w : World) (B : Nat) (xs : List Nat) (e : Ending) (w' : World) : Prop := e = .returned (.tuple #[]) ∧ St w w' B xs
def Ins (xs : List Nat) (n : Nat) : Prop := ∀ x ∈ xs, x < n
theorem Ins.at_ {xs : List Nat} {n i : Nat} (h : Ins xs n) (hi : i < xs.length) : xs.getD i 0 < n := by
  have e : xs.getD i 0 = xs[i] := by simp [List.getD_eq_getElem?_getD, hi]
  rw [e]; exact h _ (List.getElem_mem hi)
end Go.Proofs.YtgpdgegelipboaaGreatDoor.Fq
namespace Go.Proofs.YtgpdgegelipboaaGreatDoor.Fq
open Go.RowKit
def PmP (w : World) (B : Nat) (xs : List Nat) (e : Ending) (w' : World) : Prop := e = .returned (.tuple #[]) ∧ ∃ ys : List Nat, ys.Perm xs ∧ St w w' B ys
theorem PmP.next {w w1 w2 : World} {B : Nat} {xs ys zs : List Nat} (hp : ys.Perm xs) (h : St w w1 B ys) (hp2 : zs.Perm ys) (h2 : St w1 w2 B zs) : ∃ zs : List Nat, zs.Perm xs ∧ St w w2 B zs :=
  ⟨zs, hp2.trans hp, h.trans h2⟩
end Go.Proofs.YtgpdgegelipboaaGreatDoor.Fq
namespace Go.Proofs.YtgpdgegelipboaaGreatDoor.Fq
open Go.RowKit
def CSt (w wr : World) (B : Nat) (xs : List Nat) : Prop := ∃ ys : List Nat, ys.Perm xs ∧ St w wr B ys
theorem CSt.drewN {w wr : World} {B : Nat} {xs : List Nat} (h : CSt w wr B xs) (n : Nat) : CSt w (wr.drewN n) B xs := by
  obtain ⟨ys, h1, h2⟩ := h
  exact ⟨ys, h1, h2.drewN n⟩
end Go.Proofs.YtgpdgegelipboaaGreatDoor.Fq
namespace Go.Proofs.YtgpdgegelipboaaGreatDoor.Fq
open Go.RowKit
end Go.Proofs.YtgpdgegelipboaaGreatDoor.Fq
namespace Go.Proofs.YtgpdgegelipboaaGreatDoor.Fq
open Go.RowKit
end Go.Proofs.YtgpdgegelipboaaGreatDoor.Fq
namespace Go.Proofs.YtgpdgegelipboaaGreatDoor.Fq
open Go.RowKit
theorem and_low (n : Nat) (h : n ≤ 1000000) : bits BinOp.and IntKind.u64 (n : Int) 4294967295 = (n : Int) := by
  rw [show (4294967295 : Int) = ((4294967295 : Nat) : Int) from rfl, u64_and_nat _ _ (by omega) (by omega)]
  have h : n &&& 4294967295 = n := by
    have := Nat.and_two_pow_sub_one_of_lt_two_pow (x := n) (n := 32) (by omega)
    simpa using this
  rw [h]
set_option maxHeartbeats 1000000 in
theorem mul64_one (n : Nat) (w : World) (hn : n ≤ 1000000) :
    Calls Tryz.prog 145 #[.int .u64 1, .int .u64 (n : Int)] w fun e w' => e = .returned (.tuple #[.int .u64 0, .int .u64 (n : Int)]) ∧ w = w' := by
  have a1 : bits BinOp.and IntKind.u64 1 4294967295 = 1 := by decide +kernel
  have a2 := and_low n hn
  have a3 : (n : Int) / 4294967296 = 0 := by omega
  have a4 : bits BinOp.and IntKind.u64 0 4294967295 = 0 := by decide +kernel
  go_enter Tryz.func145, Tryz.ntmps145
  go_wp2
  exact bodyPost_ret (v := .tuple #[.int .u64 0, .int .u64 (n : Int)]) (by simp [results, Tryz.results145, go_sem]) rfl ⟨rfl, rfl⟩
set_option maxHeartbeats 1000000 in
theorem mul_one (n : Nat) (w : World) (hn : n ≤ 1000000) :
    Calls Tryz.prog 141 #[.int .u64 1, .int .u64 (n : Int)] w fun e w' => e = .returned (.tuple #[.int .u64 0, .int .u64 (n : Int)]) ∧ w = w' := by
  go_enter Tryz.func141, Tryz.ntmps141
  go_wp2_with fail
  refine (mul64_one n _ hn).mono ?_
  rintro e w' ⟨rfl, rfl⟩
  go_wp2
  exact bodyPost_ret (v := .tuple #[.int .u64 0, .int .u64 (n : Int)]) (by simp [results, Tryz.results141, go_sem]) rfl ⟨rfl, rfl⟩
end Go.Proofs.YtgpdgegelipboaaGreatDoor.Fq
namespace Go.Proofs.YtgpdgegelipboaaGreatDoor.Fq
open Go.RowKit
theorem size_int : (Tryz.prog.info? 3).map (·.size) = some 1 := by kernel_rfl
def ones (k n : Nat) : List Int := List.replicate k 1 ++ List.replicate (n - k) 0
theorem ones_length (k n : Nat) (h : k ≤ n) : (ones k n).length = n := by simp [ones]; omega
theorem ones_all (n : Nat) : ones n n = List.replicate n 1 := by simp [ones]
theorem ones_copy (k t n : Nat) (k1 : Nat) (hk1 : k1 = k + t) : ((icells (ones k n)).toList.take k ++ List.replicate t (Value.int .i64 1) ++ (icells (ones k n)).toList.drop (k + (List.replicate t (Value.int .i64 1)).length)).toArray = icells (ones k1 n) := by
  subst hk1
  rw [List.length_replicate]
  have e : (icells (ones k n)).toList = List.replicate k (Value.int .i64 1) ++ List.replicate (n - k) (Value.int .i64 0) := by simp [icells, ones]
  rw [e]
  have e1 : (List.replicate k (Value.int .i64 1) ++ List.replicate (n - k) (Value.int .i64 0)).take k = List.replicate k (Value.int .i64 1) := List.take_left' (by simp)
  have e2 : (List.replicate k (Value.int .i64 1) ++ List.replicate (n - k) (Value.int .i64 0)).drop (k + t) = List.replicate (n - (k + t)) (Value.int .i64 0) := by
    rw [List.drop_append, List.drop_of_length_le (by simp), List.drop_replicate]
    simp; omega
  rw [e1, e2]
  simp only [icells, ones, List.map_append, List.map_replicate]
  rw [List.replicate_append_replicate]
theorem one_rep (t : Nat) : ∀ v ∈ List.replicate t (Value.int .i64 1), v.oneCell' = true := by
  intro v hv
  rw [(List.mem_replicate.1 hv).2]
  rfl
theorem ones_src {w : World} {g : Nat} {t : TypeId} {k n m : Nat} (h : Blk w g t (icells (ones k n))) (hm : m ≤ k) (hk : k ≤ n) : ∀ j v, (List.replicate m (Value.int .i64 1))[j]? = some v → w.cell? ((⟨g, 0, none⟩ : Addr).add j) = some v := by
  intro j v hv
  obtain ⟨hj, rfl⟩ := List.getElem?_eq_some_iff.1 hv
  rw [List.length_replicate] at hj
  rw [add_own, blk_at h (by rw [ones_length _ _ hk]; omega)]
  simp [ones, List.getD_eq_getElem?_getD, List.getElem?_append, show j < k by omega]
def RepP (w : World) (n : Nat) (e : Ending) (w' : World) : Prop :=
  ∃ g, e = .returned (.slice (some ⟨g, 0, none⟩) n n) ∧ w.heap.size ≤ g ∧ Blk w' g 3 (icells (List.replicate n 1)) ∧ Below w.heap.size w w'
set_option maxHeartbeats 2000000 in
theorem repeat_one (G n c : Nat) (w : World) (hg : Hid (Blk w G 3 (icells [1]))) (h1 : 1 ≤ n) (hn : n ≤ 1000) :
    Calls Tryz.prog 134 #[.slice (some ⟨G, 0, none⟩) 1 c, .int .i64 (n : Int)] w (RepP w n) := by
  have hmk : ∀ u : World, (Instr.makeSlice 33 (.int .i64 (n : Int)) (.int .i64 (n : Int))).run Tryz.prog u = .ok (.slice (some ⟨u.heap.size, 0, none⟩) n n) (u.alloc (.cells (madeCells #[.int .i64 0] n) 3)) := fun u => 
    run_make_row' (P := Tryz.prog) 33 3 (.int .i64 0) 8 Tryz.underlying33 info_int rfl .i64 .i64 n (by omega) (by omega) u
  have HB0 := Lib.hid (show Blk (w.alloc (.cells (madeCells #[.int .i64 0] n) 3)) w.heap.size 3 (icells (ones 0 n)) by
    rw [icells_zero]
    have : ones 0 n = List.replicate n 0 := by simp [ones]
    rw [this]
    exact Blk.new w _ _)
  have hcp := run_copy_row (P := Tryz.prog) (w.alloc (.cells (madeCells #[.int .i64 0] n) 3)) 33 33 3 3 w.heap.size 0 n n ⟨G, 0, none⟩ 1 c (icells (ones 0 n)) 3 (List.replicate 1 (Value.int .i64 1)) Tryz.underlying33 size_int HB0.out
    (by rw [List.length_replicate]; exact (Nat.min_eq_left h1).symm) (by
      intro j v hv
      obtain ⟨hj, rfl⟩ := List.getElem?_eq_some_iff.1 hv
      rw [List.length_replicate] at hj
      have : j = 0 := by omega
      subst this
      rw [add_own]
      exact (hg.out.alloc _).cell 0) (by rw [icells_size, ones_length _ _ (by omega)]; simp; omega) (one_rep 1)
  rw [ones_copy 0 1 n 1 rfl, List.length_replicate] at hcp
  go_enter Tryz.func134, Tryz.ntmps134
  go_wp2_with fail
  refine (mul_one n _ (by omega)).mono ?_
  rintro e w' ⟨rfl, rfl⟩
  go_wp2
  clear hcp hmk
  have HW := Lib.hid (show Below w.heap.size w ((w.alloc (.cells (madeCells #[.int .i64 0] n) 3)).setRow w.heap.size (icells (ones 1 n))) from below_setRow ((Below.refl _ w).alloc (Nat.le_refl _) _) (Nat.le_refl _) _)
  have HB := Lib.hid (show Blk ((w.alloc (.cells (madeCells #[.int .i64 0] n) 3)).setRow w.heap.size (icells (ones 1 n))) w.heap.size 3 (icells (ones 1 n)) from setRow_heap _ _ _ _ _ _ HB0.out)
  generalize (w.alloc (.cells (madeCells #[.int .i64 0] n) 3)).setRow w.heap.size (icells (ones 1 n)) = w1 at HW HB ⊢
  clear HB0
  go_loopw [8] (fun vk wr => ∃ k : Nat, vk = .int .i64 (k : Int) ∧ 1 ≤ k ∧ k ≤ n ∧ Hid (Blk wr w.heap.size 3 (icells (ones k n)) ∧ Below w.heap.size w wr)) (fun vk _ => n - (intOf vk).toNat)
  case atStart => exact ⟨1, rfl, by omega, by omega, Lib.hid ⟨HB.out, HW.out⟩⟩
  case round =>
    obtain ⟨k, rfl, hk1, hkn, HZ⟩ := hrel
    clear HB HW
    by_cases hlt : k < n
    · have hlt' : (k : Int) < (n : Int) := by omega
      obtain ⟨t, ht⟩ : ∃ t, t = Nat.min k (n - k) := ⟨_, rfl⟩
      have ht1 : 1 ≤ t := by rw [ht]; exact Nat.le_min.2 ⟨hk1, by omega⟩
      have ht2 : k + t ≤ n := by have : t ≤ n - k := by rw [ht]; exact Nat.min_le_right _ _
                                 omega
      have ht3 : t ≤ k := by rw [ht]; exact Nat.min_le_left _ _
      have hcp := run_copy_row (P := Tryz.prog) wr.drew 33 33 3 3 w.heap.size k (n - k) (n - k) ⟨w.heap.size, 0, none⟩ k n (icells (ones k n)) 3 (List.replicate t (Value.int .i64 1)) Tryz.underlying33 size_int HZ.out.1
        (by rw [List.length_replicate]; exact ht) (ones_src (w := wr.drew) HZ.out.1 ht3 hkn) (by rw [icells_size, ones_length _ _ hkn, List.length_replicate]; exact ht2) (one_rep t)
      clear ht
      obtain ⟨k2, hk2⟩ : ∃ k2, k2 = k + t := ⟨_, rfl⟩
      rw [ones_copy k t n k2 hk2, List.length_replicate] at hcp
      have e1 : (k : Int) + (t : Int) = (k2 : Int) := by omega
      have b0 : (0 : Int) ≤ (k : Int) := by omega
      have b1 : (k : Int) ≤ (n : Int) := by omega
      have b2 : ¬ n = k := by omega
      have HK2 := Lib.hid hk2
      clear hk2
      go_wp2_with fail
      go_region
      all_goals
        clear hcp
        go_wp2
        go_roundw
        case rel =>
          refine ⟨k2, rfl, by have := HK2.out; omega, by have := HK2.out; omega, Lib.hid ⟨?_, ?_⟩⟩
          · exact setRow_heap _ _ _ _ _ _ HZ.out.1
          · exact below_setRow (Below.drew HZ.out.2) (Nat.le_refl _) _
        case measure => have := HK2.out; simp [intOf]; omega
    · have hlt' : ¬ (k : Int) < (n : Int) := by omega
      obtain rfl : k = n := by omega
      go_wp2
      go_ret
      exact ⟨w.heap.size, rfl, Nat.le_refl _, by rw [← ones_all]; exact HZ.out.1, HZ.out.2⟩
end Go.Proofs.YtgpdgegelipboaaGreatDoor.Fq
namespace Go.Proofs.YtgpdgegelipboaaGreatDoor.Fq
open Go.RowKit
theorem tot_rep (n : Nat) : tot (List.replicate n 1) = (n : Int) := by
  induction n with
  | zero => rfl
  | succ n ih => rw [List.replicate_succ, tot_cons, ih]; omega
theorem okN_rep (n : Nat) (h1 : 1 ≤ n) (h2 : n ≤ 256) : okN (List.replicate n 1) = true := by
  unfold okN
  refine decide_eq_true ⟨by simpa using h1, by simpa using h2, fun x hx => ?_, by rw [tot_rep]; omega⟩
  rw [(List.mem_replicate.1 hx).2]; omega
set_option maxHeartbeats 1000000 in
theorem even_ok (n : Nat) (w : World) (h1 : 1 ≤ n) (h2 : n ≤ 256) :
    Calls Tryz.prog 123 #[.int .i64 (n : Int)] w (NewP w (acc (List.replicate n 1))) := by
  go_enter Tryz.func123, Tryz.ntmps123
  go_wp2_with fail
  refine (isSize_yes _ _ (by omega) (by omega)).mono ?_
  rintro e w' ⟨rfl, rfl⟩
  go_wp2_with fail
  have HK0 := Lib.hid (show Blk ((w.alloc (.cells #[.slice none 0 0] 40)).alloc (.cells #[.int .i64 1] 3)) w.heap.size 40 #[.slice none 0 0] from (Blk.new w _ _).alloc _)
  have HG0 := Lib.hid (show Blk ((w.alloc (.cells #[.slice none 0 0] 40)).alloc (.cells #[.int .i64 1] 3)) (w.heap.size + 1) 3 (icells [1]) from Blk.newAt (by simp))
  have HW0 := Lib.hid (show Below w.heap.size w ((w.alloc (.cells #[.slice none 0 0] 40)).alloc (.cells #[.int .i64 1] 3)) from ((Below.refl w.heap.size w).alloc (Nat.le_refl _) _).alloc (by simp) _)
  generalize (w.alloc (.cells #[.slice none 0 0] 40)).alloc (.cells #[.int .i64 1] 3) = w0 at HK0 HG0 HW0 ⊢
  refine (repeat_one _ n _ w0 HG0 h1 (by omega)).mono ?_
  rintro e w1 ⟨g, rfl, hg, hB, hb⟩
  have HK1 := Lib.hid (HK0.out.below hb HK0.out.lt)
  have HW1 := Lib.hid (HW0.out.trans (hb.mono HW0.out.size))
  have HR1 := Lib.hid (RdI.of_blk hB (n := n) (by simp))
  clear hg hB hb
  go_wp2_with fail
  refine (new_ok _ n n _ w1 HR1 (okN_rep n h1 h2)).mono ?_
  rintro e w2 ⟨g2, rfl, hg, hB, hb⟩
  have HK2 := Lib.hid (HK1.out.below hb HK1.out.lt)
  have HW2 := Lib.hid (HW1.out.trans (hb.mono HW1.out.size))
  have HB2 := Lib.hid hB
  have HG2 := Lib.hid (Nat.le_trans HW1.out.size hg)
  have HNE := Lib.hid (show g2 ≠ w.heap.size by have := HK1.out.lt; omega)
  clear hg hB hb
  have c0 := HK2.out.cell 0
  have f0 := HK2.out.frozen 0
  simp at c0
  obtain ⟨m, hm⟩ : ∃ m, (acc (List.replicate n 1)).length = m := ⟨_, rfl⟩
  rw [hm]
  have HM := Lib.hid hm
  clear hm
  unfold freqV
  go_wp2
  exact bodyPost_ret (v := .tuple #[freqV g2 m, .int .i64 0]) (by simp [results, Tryz.results123, go_sem, c0, freqV]) rfl ⟨g2, by rw [HM.out], HG2.out, Blk.far HB2.out HNE.out _, HW2.out.setCell (Nat.le_refl _) _⟩
end Go.Proofs.YtgpdgegelipboaaGreatDoor.Fq
namespace Go.Proofs.YtgpdgegelipboaaGreatDoor.Fq
end Go.Proofs.YtgpdgegelipboaaGreatDoor.Fq
