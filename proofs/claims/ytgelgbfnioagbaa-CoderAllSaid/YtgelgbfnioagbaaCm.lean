/-
  Own texts, laid together: Cm, Cn.
-/
import Derived.Test.YtgelgbfnioagbaaBa
/- Cm -/
namespace Go.Proofs.Ytgelgbfnioagbaa.Cd
/-- which way an interval is widened; 3: it needs none -/
def kind (low high : Nat) : Nat := if high < 2147483648 then 0 else if 2147483648 ≤ low then 1 else if 1073741824 ≤ low ∧ high < 3221225472 then 2 else 3
def takeK (k : Nat) : Nat := if k = 1 then 2147483648 else if k = 2 then 1073741824 else 0
theorem takeK_0 : takeK 0 = 0 := by decide
theorem takeK_1 : takeK 1 = 2147483648 := by decide
theorem takeK_2 : takeK 2 = 1073741824 := by decide
theorem pow32 : (2 : Nat) ^ 32 = 4294967296 := by decide
/-- an encoder's state -/
structure En where
  low : Nat
  high : Nat
  wait : Nat
  out : List Bool
/-- a bit, and those that wait -/
def emit (out : List Bool) (x : Bool) (wait : Nat) : List Bool := out ++ (x :: List.replicate wait (!x))
def stepE (e : En) : En :=
  if kind e.low e.high = 0 then ⟨2 * e.low, 2 * e.high + 1, 0, emit e.out false e.wait⟩
  else if kind e.low e.high = 1 then ⟨2 * (e.low - 2147483648), 2 * (e.high - 2147483648) + 1, 0, emit e.out true e.wait⟩
  else if kind e.low e.high = 2 then ⟨2 * (e.low - 1073741824), 2 * (e.high - 1073741824) + 1, e.wait + 1, e.out⟩
  else e
def widE : Nat → En → En
  | 0, e => e
  | n + 1, e => if kind e.low e.high = 3 then e else widE n (stepE e)
/-- an interval of 32 bits -/
def Ok (low high : Nat) : Prop := low ≤ high ∧ high < 4294967296
theorem kind_cases (low high : Nat) : (kind low high = 0 ∧ high < 2147483648) ∨ (kind low high = 1 ∧ 2147483648 ≤ high ∧ 2147483648 ≤ low) ∨ (kind low high = 2 ∧ 2147483648 ≤ high ∧ low < 2147483648 ∧ 1073741824 ≤ low ∧ high < 3221225472) ∨ (kind low high = 3 ∧ 2147483648 ≤ high ∧ low < 2147483648 ∧ (low < 1073741824 ∨ 3221225472 ≤ high)) := by
  unfold kind
  split
  · exact .inl ⟨rfl, by assumption⟩
  · split
    · exact .inr (.inl ⟨rfl, by omega, by assumption⟩)
    · split
      · exact .inr (.inr (.inl ⟨rfl, by omega, by omega, by omega, by omega⟩))
      · exact .inr (.inr (.inr ⟨rfl, by omega, by omega, by omega⟩))
/-- what the bits that went out, and those that wait, are worth at the interval's scale -/
def off (e : En) : Nat := num e.out * 2 ^ (e.wait + 32) + (2 ^ e.wait - 1) * 2147483648
def len (e : En) : Nat := e.out.length + e.wait
def RL (e : En) : Nat := off e + e.low
def RH (e : En) : Nat := off e + e.high
theorem emit_length (o : List Bool) (x : Bool) (n : Nat) : (emit o x n).length = o.length + n + 1 := by simp [emit]; omega
theorem num_rep_true (n : Nat) : num (List.replicate n true) = 2 ^ n - 1 := by
  induction n with
  | zero => rfl
  | succ n ih =>
    rw [List.replicate_succ, num_cons, ih, List.length_replicate]
    have : 0 < 2 ^ n := Nat.pow_pos (by omega)
    simp [Nat.pow_succ]; omega
theorem num_rep_false (n : Nat) : num (List.replicate n false) = 0 := by
  induction n with
  | zero => rfl
  | succ n ih => rw [List.replicate_succ, num_cons, ih]; simp
theorem num_emit_false (o : List Bool) (n : Nat) : num (emit o false n) = num o * 2 ^ (n + 1) + (2 ^ n - 1) := by
  unfold emit
  rw [num_append, num_cons]
  simp [num_rep_true]
theorem num_emit_true (o : List Bool) (n : Nat) : num (emit o true n) = num o * 2 ^ (n + 1) + 2 ^ n := by
  unfold emit
  rw [num_append, num_cons]
  simp [num_rep_false]
theorem stepE_0 {e : En} (h : kind e.low e.high = 0) : stepE e = ⟨2 * e.low, 2 * e.high + 1, 0, emit e.out false e.wait⟩ := by unfold stepE; rw [if_pos h]
theorem stepE_1 {e : En} (h : kind e.low e.high = 1) : stepE e = ⟨2 * (e.low - 2147483648), 2 * (e.high - 2147483648) + 1, 0, emit e.out true e.wait⟩ := by unfold stepE; rw [if_neg (by omega), if_pos h]
theorem stepE_2 {e : En} (h : kind e.low e.high = 2) : stepE e = ⟨2 * (e.low - 1073741824), 2 * (e.high - 1073741824) + 1, e.wait + 1, e.out⟩ := by unfold stepE; rw [if_neg (by omega), if_neg (by omega), if_pos h]
theorem off_zero (l h : Nat) (o : List Bool) : off ⟨l, h, 0, o⟩ = num o * 4294967296 := by
  unfold off
  simp only [Nat.zero_add, Nat.pow_zero, pow32, Nat.sub_self, Nat.zero_mul, Nat.add_zero]
theorem off_is (e : En) (q : Nat) (hq : 2 ^ e.wait = q + 1) : off e = num e.out * (q + 1) * 4294967296 + q * 2147483648 := by
  unfold off
  rw [Nat.pow_add, pow32, hq, Nat.add_sub_cancel, Nat.mul_assoc]
theorem stepE_off {e : En} (h : kind e.low e.high ≠ 3) : off (stepE e) = 2 * off e + 2 * takeK (kind e.low e.high) ∧ len (stepE e) = len e + 1 := by
  have hp : 0 < 2 ^ e.wait := Nat.pow_pos (by omega)
  obtain ⟨q, hq⟩ : ∃ q, 2 ^ e.wait = q + 1 := ⟨2 ^ e.wait - 1, by omega⟩
  rw [off_is e q hq]
  rcases kind_cases e.low e.high with ⟨hk, _⟩ | ⟨hk, _⟩ | ⟨hk, _⟩ | ⟨hk, _⟩
  · rw [stepE_0 hk, hk, takeK_0, off_zero, num_emit_false, Nat.pow_succ, hq, Nat.add_sub_cancel]
    refine ⟨?_, by simp only [len, emit_length] <;> omega⟩
    have : num e.out * ((q + 1) * 2) = num e.out * (q + 1) * 2 := by rw [Nat.mul_assoc]
    rw [this]
    generalize num e.out * (q + 1) = z
    omega
  · rw [stepE_1 hk, hk, takeK_1, off_zero, num_emit_true, Nat.pow_succ, hq]
    refine ⟨?_, by simp only [len, emit_length] <;> omega⟩
    have : num e.out * ((q + 1) * 2) = num e.out * (q + 1) * 2 := by rw [Nat.mul_assoc]
    rw [this]
    generalize num e.out * (q + 1) = z
    omega
  · rw [stepE_2 hk, hk, takeK_2]
    have hq2 : 2 ^ (e.wait + 1) = (2 * q + 1) + 1 := by rw [Nat.pow_succ, hq]; omega
    rw [off_is ⟨2 * (e.low - 1073741824), 2 * (e.high - 1073741824) + 1, e.wait + 1, e.out⟩ (2 * q + 1) hq2]
    refine ⟨?_, by simp only [len]; omega⟩
    have : num e.out * (2 * q + 1 + 1) = num e.out * (q + 1) * 2 := by rw [Nat.mul_assoc]; congr 1; omega
    show num e.out * (2 * q + 1 + 1) * 4294967296 + (2 * q + 1) * 2147483648 = _
    rw [this]
    generalize num e.out * (q + 1) = z
    omega
  · exact absurd hk h
theorem stepE_low {e : En} (hok : Ok e.low e.high) (h : kind e.low e.high ≠ 3) : (stepE e).low + 2 * takeK (kind e.low e.high) = 2 * e.low ∧ (stepE e).high + 2 * takeK (kind e.low e.high) = 2 * e.high + 1 ∧ Ok (stepE e).low (stepE e).high := by
  obtain ⟨h1, h2⟩ := hok
  rcases kind_cases e.low e.high with ⟨hk, _⟩ | ⟨hk, _⟩ | ⟨hk, _⟩ | ⟨hk, _⟩
  · rw [stepE_0 hk, hk, takeK_0]; unfold Ok; dsimp only; refine ⟨?_, ?_, ?_, ?_⟩ <;> omega
  · rw [stepE_1 hk, hk, takeK_1]; unfold Ok; dsimp only; refine ⟨?_, ?_, ?_, ?_⟩ <;> omega
  · rw [stepE_2 hk, hk, takeK_2]; unfold Ok; dsimp only; refine ⟨?_, ?_, ?_, ?_⟩ <;> omega
  · exact absurd hk h
theorem stepE_R {e : En} (hok : Ok e.low e.high) (h : kind e.low e.high ≠ 3) : RL (stepE e) = 2 * RL e ∧ RH (stepE e) = 2 * RH e + 1 := by
  obtain ⟨a1, _⟩ := stepE_off h
  obtain ⟨b1, b2, _⟩ := stepE_low hok h
  unfold RL RH
  omega
/-- how wide -/
def wid (e : En) : Nat := e.high - e.low + 1
theorem stepE_wid {e : En} (hok : Ok e.low e.high) (h : kind e.low e.high ≠ 3) : wid (stepE e) = 2 * wid e := by
  obtain ⟨b1, b2, b3⟩ := stepE_low hok h
  obtain ⟨h1, h2⟩ := hok
  obtain ⟨h3, h4⟩ := b3
  unfold wid
  omega
theorem wid_small {e : En} (hok : Ok e.low e.high) (h : kind e.low e.high ≠ 3) : wid e ≤ 2147483648 := by
  obtain ⟨h1, h2⟩ := hok
  unfold wid
  rcases kind_cases e.low e.high with ⟨hk, _⟩ | ⟨hk, _⟩ | ⟨hk, _⟩ | ⟨hk, _⟩
  · omega
  · omega
  · omega
  · exact absurd hk h
/-- what widening does: k steps of it -/
theorem widE_facts (n : Nat) : ∀ (e : En), Ok e.low e.high → ∃ k, k ≤ n ∧ len (widE n e) = len e + k ∧ RL (widE n e) = RL e * 2 ^ k ∧ RH (widE n e) + 1 = (RH e + 1) * 2 ^ k ∧ wid (widE n e) = wid e * 2 ^ k ∧ Ok (widE n e).low (widE n e).high ∧ (4294967296 < wid e * 2 ^ (n + 1) → kind (widE n e).low (widE n e).high = 3) := by
  induction n with
  | zero =>
    intro e hok
    refine ⟨0, by omega, by simp [widE], by simp [widE], by simp [widE], by simp [widE], hok, fun hw => ?_⟩
    by_cases h : kind e.low e.high = 3
    · exact h
    · have := wid_small hok h
      simp at hw
      omega
  | succ n ih =>
    intro e hok
    unfold widE
    by_cases h : kind e.low e.high = 3
    · rw [if_pos h]
      exact ⟨0, by omega, by simp, by simp, by simp, by simp, hok, fun _ => h⟩
    · rw [if_neg h]
      obtain ⟨k, hk, a1, a2, a3, a4, a5, a6⟩ := ih (stepE e) (stepE_low hok h).2.2
      obtain ⟨r1, r2⟩ := stepE_R hok h
      refine ⟨k + 1, by omega, by rw [a1, (stepE_off h).2]; omega, ?_, ?_, ?_, a5, fun hw => a6 ?_⟩
      · rw [a2, r1, Nat.pow_succ, Nat.mul_comm 2 (RL e), Nat.mul_assoc, Nat.mul_comm 2]
      · rw [a3, r2, show 2 * RH e + 1 + 1 = (RH e + 1) * 2 by omega, Nat.pow_succ, Nat.mul_assoc, Nat.mul_comm 2]
      · rw [a4, stepE_wid hok h, Nat.pow_succ, Nat.mul_comm 2 (wid e), Nat.mul_assoc, Nat.mul_comm 2]
      · rw [stepE_wid hok h]
        rw [Nat.pow_succ 2 (n + 1)] at hw
        rw [Nat.mul_comm 2 (wid e), Nat.mul_assoc, Nat.mul_comm 2]
        exact hw
end Go.Proofs.Ytgelgbfnioagbaa.Cd
/- Cn -/
namespace Go.Proofs.Ytgelgbfnioagbaa.Cd
/-- the number of the first m bits, zeros behind the end -/
def val (inp : List Bool) : Nat → Nat
  | 0 => 0
  | m + 1 => 2 * val inp m + (bitF inp m).toNat
theorem val_succ (inp : List Bool) (m : Nat) : val inp (m + 1) = 2 * val inp m + (bitF inp m).toNat := rfl
theorem toNat_le (b : Bool) : b.toNat ≤ 1 := by cases b <;> decide
theorem val_add (inp : List Bool) (m k : Nat) : val inp m * 2 ^ k ≤ val inp (m + k) ∧ val inp (m + k) < (val inp m + 1) * 2 ^ k := by
  induction k with
  | zero => simp
  | succ k ih =>
    have hb := toNat_le (bitF inp (m + k))
    rw [← Nat.add_assoc, val_succ inp (m + k), Nat.pow_succ, ← Nat.mul_assoc, ← Nat.mul_assoc]
    generalize val inp m * 2 ^ k = a at ih
    generalize (val inp m + 1) * 2 ^ k = b at ih
    omega
theorem val_pre (b tail : List Bool) (m : Nat) (h : m ≤ b.length) : val (b ++ tail) m = num (b.take m) := by
  induction m with
  | zero => rfl
  | succ m ih =>
    have hm : m < b.length := by omega
    rw [List.take_succ_eq_append_getElem hm, num_snoc, ← ih (by omega)]
    show 2 * val (b ++ tail) m + (bitF (b ++ tail) m).toNat = _
    rw [bitF_append, if_pos hm]
    simp [bitF, List.getD_eq_getElem?_getD, hm]
/-- a decoder's state -/
structure De where
  low : Nat
  high : Nat
  code : Nat
  at_ : Nat
def stepD (inp : List Bool) (d : De) : De :=
  ⟨2 * (d.low - takeK (kind d.low d.high)), 2 * (d.high - takeK (kind d.low d.high)) + 1, 2 * (d.code - takeK (kind d.low d.high)) + (bitF inp d.at_).toNat, d.at_ + 1⟩
def widD : Nat → List Bool → De → De
  | 0, _, d => d
  | n + 1, inp, d => if kind d.low d.high = 3 then d else widD n inp (stepD inp d)
/-- the interval narrowed -/
def nar (e : En) (a b T : Nat) : En := ⟨e.low + wid e * a / T, e.low + wid e * b / T - 1, e.wait, e.out⟩
def putE (e : En) (a b T : Nat) : En := widE 40 (nar e a b T)
/-- the bits' number is in the interval -/
def In (inp : List Bool) (e : En) : Prop := RL e ≤ val inp (len e + 32) ∧ val inp (len e + 32) ≤ RH e
/-- the reader goes with the writer -/
def Sync (inp : List Bool) (e : En) (d : De) : Prop := d.low = e.low ∧ d.high = e.high ∧ d.at_ = len e + 32 ∧ d.code + off e = val inp (len e + 32)
theorem wide_wid {e : En} (hok : Ok e.low e.high) (h : kind e.low e.high = 3) : 1073741824 ≤ wid e ∧ wid e ≤ 4294967296 := by
  obtain ⟨h1, h2⟩ := hok
  unfold wid
  rcases kind_cases e.low e.high with ⟨hk, _⟩ | ⟨hk, _⟩ | ⟨hk, _⟩ | ⟨hk, h3, h4, h5⟩
  · omega
  · omega
  · omega
  · omega
/-- a symbol's numbers in a table's total -/
def Sp (a b T : Nat) : Prop := a < b ∧ b ≤ T ∧ T ≤ 16384
theorem nar_parts {W a b T : Nat} (h : Sp a b T) (hW : 16384 ≤ W) : W * a / T < W * b / T ∧ W * b / T ≤ W ∧ W * (b - a) / T ≤ W * b / T - W * a / T := by
  obtain ⟨h1, h2, h3⟩ := h
  have hT : 0 < T := by omega
  have e : W * b = W * a + W * (b - a) := by rw [← Nat.mul_add]; congr 1; omega
  have hle : W ≤ W * (b - a) := Nat.le_mul_of_pos_right _ (by omega)
  have h4 : W * a / T + W * (b - a) / T ≤ W * b / T := by
    rw [Nat.le_div_iff_mul_le hT, Nat.add_mul, e]
    have x1 := Nat.div_mul_le_self (W * a) T
    have x2 := Nat.div_mul_le_self (W * (b - a)) T
    omega
  have h5 : 1 ≤ W * (b - a) / T := by rw [Nat.le_div_iff_mul_le hT]; omega
  have h6 : W * b / T ≤ W := by
    refine Nat.div_le_of_le_mul ?_
    rw [Nat.mul_comm T W]
    exact Nat.mul_le_mul_left _ h2
  omega
theorem nar_ok {e : En} {a b T : Nat} (hok : Ok e.low e.high) (hk : kind e.low e.high = 3) (h : Sp a b T) :
    Ok (nar e a b T).low (nar e a b T).high ∧ e.low ≤ (nar e a b T).low ∧ (nar e a b T).high ≤ e.high ∧ wid (nar e a b T) = wid e * b / T - wid e * a / T ∧ 1 ≤ wid (nar e a b T) := by
  obtain ⟨w1, w2⟩ := wide_wid hok hk
  obtain ⟨n1, n2, n3⟩ := nar_parts h (show 16384 ≤ wid e by omega)
  obtain ⟨h1, h2⟩ := hok
  have hw : wid e = e.high - e.low + 1 := rfl
  unfold Ok
  have e1 : (nar e a b T).low = e.low + wid e * a / T := rfl
  have e2 : (nar e a b T).high = e.low + wid e * b / T - 1 := rfl
  have e3 : wid (nar e a b T) = (nar e a b T).high - (nar e a b T).low + 1 := rfl
  rw [e1, e2] at e3
  rw [e1, e2, e3]
  generalize wid e * a / T = p at n1 n2 n3
  generalize wid e * b / T = q at n1 n2 n3
  omega
theorem pow41 : (2 : Nat) ^ (40 + 1) = 2199023255552 := by decide
theorem put_facts {e : En} {a b T : Nat} (hok : Ok e.low e.high) (hk : kind e.low e.high = 3) (h : Sp a b T) :
    Ok (putE e a b T).low (putE e a b T).high ∧ kind (putE e a b T).low (putE e a b T).high = 3 ∧ ∃ k, len (putE e a b T) = len e + k ∧ wid (putE e a b T) = wid (nar e a b T) * 2 ^ k := by
  obtain ⟨n1, _, _, _, n5⟩ := nar_ok hok hk h
  obtain ⟨k, _, a1, _, _, a4, a5, a6⟩ := widE_facts 40 (nar e a b T) n1
  refine ⟨a5, a6 ?_, k, a1, a4⟩
  rw [pow41]
  omega
theorem In.back {inp : List Bool} {e : En} (hok : Ok e.low e.high) (h : kind e.low e.high ≠ 3) (hi : In inp (stepE e)) : In inp e := by
  obtain ⟨r1, r2⟩ := stepE_R hok h
  obtain ⟨i1, i2⟩ := hi
  rw [(stepE_off h).2, r1, show len e + 1 + 32 = (len e + 32) + 1 by omega] at i1
  rw [(stepE_off h).2, r2, show len e + 1 + 32 = (len e + 32) + 1 by omega] at i2
  have hb := toNat_le (bitF inp (len e + 32))
  rw [val_succ inp (len e + 32)] at i1 i2
  unfold In
  omega
theorem In.backs {inp : List Bool} (n : Nat) : ∀ {e : En}, Ok e.low e.high → In inp (widE n e) → In inp e := by
  induction n with
  | zero => intro e _ hi; exact hi
  | succ n ih =>
    intro e hok hi
    unfold widE at hi
    by_cases h : kind e.low e.high = 3
    · rw [if_pos h] at hi; exact hi
    · rw [if_neg h] at hi
      exact (ih (stepE_low hok h).2.2 hi).back hok h
theorem In.narrow {inp : List Bool} {e : En} {a b T : Nat} (hok : Ok e.low e.high) (hk : kind e.low e.high = 3) (h : Sp a b T) (hi : In inp (nar e a b T)) : In inp e := by
  obtain ⟨_, n2, n3, _, _⟩ := nar_ok hok hk h
  obtain ⟨i1, i2⟩ := hi
  have e1 : off (nar e a b T) = off e := rfl
  have e2 : len (nar e a b T) = len e := rfl
  unfold RL at i1
  unfold RH at i2
  rw [e1, e2] at i1 i2
  unfold In RL RH
  omega
theorem In.put {inp : List Bool} {e : En} {a b T : Nat} (hok : Ok e.low e.high) (hk : kind e.low e.high = 3) (h : Sp a b T) (hi : In inp (putE e a b T)) : In inp (nar e a b T) ∧ In inp e := by
  have h1 := In.backs 40 (nar_ok hok hk h).1 hi
  exact ⟨h1, h1.narrow hok hk h⟩
theorem sync_step {inp : List Bool} {e : En} {d : De} (hok : Ok e.low e.high) (h : kind e.low e.high ≠ 3) (hi : In inp e) (hs : Sync inp e d) : Sync inp (stepE e) (stepD inp d) := by
  obtain ⟨s1, s2, s3, s4⟩ := hs
  obtain ⟨o1, o2⟩ := stepE_off h
  obtain ⟨l1, l2, _⟩ := stepE_low hok h
  obtain ⟨i1, i2⟩ := hi
  unfold RL at i1
  have ht : takeK (kind e.low e.high) ≤ e.low := by omega
  have hh : takeK (kind e.low e.high) ≤ e.high := by have := hok.1; omega
  refine ⟨?_, ?_, ?_, ?_⟩
  · show 2 * (d.low - takeK (kind d.low d.high)) = _
    rw [s1, s2]; omega
  · show 2 * (d.high - takeK (kind d.low d.high)) + 1 = _
    rw [s1, s2]; omega
  · show d.at_ + 1 = _
    rw [s3, o2] <;> omega
  · show 2 * (d.code - takeK (kind d.low d.high)) + (bitF inp d.at_).toNat + _ = _
    rw [o2, show len e + 1 + 32 = (len e + 32) + 1 by omega, o1, s1, s2, s3]
    rw [val_succ inp (len e + 32)]
    omega
theorem sync_wid {inp : List Bool} (n : Nat) : ∀ {e : En} {d : De}, Ok e.low e.high → In inp (widE n e) → Sync inp e d → Sync inp (widE n e) (widD n inp d) := by
  induction n with
  | zero => intro e d _ _ hs; exact hs
  | succ n ih =>
    intro e d hok hi hs
    have hi0 := In.backs (n + 1) hok hi
    unfold widE at hi ⊢
    unfold widD
    rw [hs.1, hs.2.1]
    by_cases h : kind e.low e.high = 3
    · rw [if_pos h, if_pos h]; exact hs
    · rw [if_neg h] at hi ⊢
      rw [if_neg h]
      exact ih (stepE_low hok h).2.2 hi (sync_step hok h hi0 hs)
/-- the number that is looked up -/
def symX (d : De) (T : Nat) : Nat := ((d.code - d.low + 1) * T - 1) / (d.high - d.low + 1)
theorem next_sync {inp : List Bool} {e : En} {d : De} {a b T : Nat} (hok : Ok e.low e.high) (hk : kind e.low e.high = 3) (h : Sp a b T) (hi : In inp (putE e a b T)) (hs : Sync inp e d) :
    a ≤ symX d T ∧ symX d T < b ∧ d.low ≤ d.code ∧ d.code ≤ d.high ∧ Sync inp (putE e a b T) (widD 40 inp ⟨(nar e a b T).low, (nar e a b T).high, d.code, d.at_⟩) := by
  obtain ⟨hn, hi0⟩ := hi.put hok hk h
  obtain ⟨w1, w2⟩ := wide_wid hok hk
  have hT : 0 < T := by have := h.1; have := h.2.1; omega
  obtain ⟨s1, s2, s3, s4⟩ := hs
  have e1 : off (nar e a b T) = off e := rfl
  have e2 : len (nar e a b T) = len e := rfl
  obtain ⟨i1, i2⟩ := hn
  unfold RL at i1
  unfold RH at i2
  rw [e1, e2, ← s4] at i1 i2
  have c1 : (nar e a b T).low ≤ d.code := by omega
  have c2 : d.code ≤ (nar e a b T).high := by omega
  have hsync : Sync inp (nar e a b T) ⟨(nar e a b T).low, (nar e a b T).high, d.code, d.at_⟩ := ⟨rfl, rfl, by rw [e2]; exact s3, by rw [e1, e2]; exact s4⟩
  have hw : d.high - d.low + 1 = wid e := by rw [s1, s2]; rfl
  obtain ⟨_, m2, m3, _, _⟩ := nar_ok hok hk h
  have hlow : (nar e a b T).low = e.low + wid e * a / T := rfl
  have hhigh : (nar e a b T).high = e.low + wid e * b / T - 1 := rfl
  obtain ⟨p1, p2, _⟩ := nar_parts h (show 16384 ≤ wid e by omega)
  rw [hlow] at c1
  rw [hhigh] at c2
  refine ⟨?_, ?_, by omega, by omega, sync_wid 40 (nar_ok hok hk h).1 hi hsync⟩
  · unfold symX
    rw [hw, Nat.le_div_iff_mul_le (by omega)]
    have k1 : wid e * a / T < d.code - d.low + 1 := by omega
    have k2 := (Nat.div_lt_iff_lt_mul hT).1 k1
    rw [Nat.mul_comm a]
    omega
  · unfold symX
    rw [hw, Nat.div_lt_iff_lt_mul (by omega)]
    have k1 : d.code - d.low + 1 ≤ wid e * b / T := by omega
    have k2 := (Nat.le_div_iff_mul_le hT).1 k1
    rw [Nat.mul_comm b]
    have k3 : 0 < (d.code - d.low + 1) * T := Nat.mul_pos (by omega) hT
    omega
/-- what End lets go out -/
def endBits (e : En) : List Bool := emit e.out (decide (1073741824 ≤ e.low)) (e.wait + 1)
theorem endBits_length (e : En) : (endBits e).length = len e + 2 := by unfold endBits len; rw [emit_length]; omega
theorem pow30 : (2 : Nat) ^ 30 = 1073741824 := by decide
theorem end_in {e : En} (hok : Ok e.low e.high) (hk : kind e.low e.high = 3) (tail : List Bool) : In (endBits e ++ tail) e := by
  have hp : 0 < 2 ^ e.wait := Nat.pow_pos (by omega)
  obtain ⟨q, hq⟩ : ∃ q, 2 ^ e.wait = q + 1 := ⟨2 ^ e.wait - 1, by omega⟩
  obtain ⟨v1, v2⟩ := val_add (endBits e ++ tail) (len e + 2) 30
  have hvp : val (endBits e ++ tail) (len e + 2) = num (endBits e) := by
    rw [val_pre _ _ _ (by rw [endBits_length]; exact Nat.le_refl _), List.take_of_length_le (by rw [endBits_length]; exact Nat.le_refl _)]
  rw [hvp, pow30, show len e + 2 + 30 = len e + 32 by omega] at v1 v2
  have ho := off_is e q hq
  have hq2 : 2 ^ (e.wait + 1) = 2 * q + 2 := by rw [Nat.pow_succ, hq]; omega
  have hq3 : 2 ^ (e.wait + 1 + 1) = 4 * (q + 1) := by rw [Nat.pow_succ, hq2]; omega
  unfold In RL RH
  rw [ho]
  obtain ⟨h1, h2⟩ := hok
  rcases kind_cases e.low e.high with ⟨hk', _⟩ | ⟨hk', _⟩ | ⟨hk', _⟩ | ⟨_, h3, h4, h5⟩
  · omega
  · omega
  · omega
  · by_cases hl : 1073741824 ≤ e.low
    · have en : num (endBits e) = num e.out * (q + 1) * 4 + (2 * q + 2) := by
        unfold endBits
        rw [decide_eq_true hl, num_emit_true, hq2, hq3, Nat.mul_comm 4, ← Nat.mul_assoc]
      rw [en] at v1 v2
      generalize num e.out * (q + 1) = z at v1 v2
      omega
    · have en : num (endBits e) = num e.out * (q + 1) * 4 + (2 * q + 1) := by
        unfold endBits
        rw [decide_eq_false hl, num_emit_false, hq2, hq3, Nat.mul_comm 4, ← Nat.mul_assoc]
        omega
      rw [en] at v1 v2
      generalize num e.out * (q + 1) = z at v1 v2
      omega
/-- the state at first -/
def e0 : En := ⟨0, 4294967295, 0, []⟩
theorem e0_ok : Ok e0.low e0.high ∧ kind e0.low e0.high = 3 := ⟨⟨by decide, by decide⟩, by decide⟩
theorem e0_sync (inp : List Bool) : Sync inp e0 ⟨0, 4294967295, val inp 32, 32⟩ := ⟨rfl, rfl, rfl, by simp [off, e0, len, num_nil]⟩
/-- how far a symbol's bits go -/
theorem put_long {e : En} {a b T n : Nat} (hok : Ok e.low e.high) (hk : kind e.low e.high = 3) (h : Sp a b T) (hn : T ≤ (b - a) * 2 ^ n) (M : Nat) (hM : 4294967296 * 2 ^ len e ≤ wid e * 2 ^ M) :
    4294967296 * 2 ^ len (putE e a b T) ≤ wid (putE e a b T) * 2 ^ (M + (n + 1)) := by
  obtain ⟨_, _, k, hk1, hk2⟩ := put_facts hok hk h
  obtain ⟨_, _, _, hw, _⟩ := nar_ok hok hk h
  obtain ⟨w1, w2⟩ := wide_wid hok hk
  obtain ⟨n1, n2, n3⟩ := nar_parts h (show 16384 ≤ wid e by omega)
  have hT : 0 < T := by have := h.1; have := h.2.1; omega
  obtain ⟨g, hg⟩ : ∃ g, g = wid e * (b - a) / T := ⟨_, rfl⟩
  have hg1 : 1 ≤ g := by
    rw [hg, Nat.le_div_iff_mul_le hT]
    have : wid e ≤ wid e * (b - a) := Nat.le_mul_of_pos_right _ (by have := h.1; omega)
    have := h.2.2
    omega
  have hg2 : wid e * (b - a) < (g + 1) * T := by
    rw [← Nat.div_lt_iff_lt_mul hT, ← hg]; omega
  have key : wid e ≤ g * 2 ^ (n + 1) := by
    have s1 : wid e * T ≤ wid e * (b - a) * 2 ^ n := by rw [Nat.mul_assoc]; exact Nat.mul_le_mul_left _ hn
    have s2 : wid e * (b - a) * 2 ^ n ≤ (g + 1) * T * 2 ^ n := Nat.mul_le_mul_right _ (by omega)
    have s3 : wid e * T ≤ ((g + 1) * 2 ^ n) * T := by
      refine Nat.le_trans s1 (Nat.le_trans s2 ?_)
      rw [Nat.mul_assoc, Nat.mul_comm T, ← Nat.mul_assoc]
      exact Nat.le_refl _
    have s4 := Nat.le_of_mul_le_mul_right s3 hT
    refine Nat.le_trans s4 ?_
    rw [Nat.pow_succ, Nat.mul_comm (2 ^ n) 2, ← Nat.mul_assoc]
    exact Nat.mul_le_mul_right _ (by omega)
  have hgw : g ≤ wid (nar e a b T) := by rw [hw, hg]; exact n3
  rw [hk1, hk2, Nat.pow_add, ← Nat.mul_assoc, Nat.pow_add 2 M, Nat.mul_assoc (wid (nar e a b T)), Nat.mul_comm (2 ^ k), ← Nat.mul_assoc]
  refine Nat.mul_le_mul_right _ (Nat.le_trans hM ?_)
  rw [Nat.mul_comm (2 ^ M), ← Nat.mul_assoc]
  refine Nat.mul_le_mul_right _ (Nat.le_trans key (Nat.mul_le_mul_right _ hgw))
theorem long_end {e : En} {M : Nat} (hok : Ok e.low e.high) (hk : kind e.low e.high = 3) (hM : 4294967296 * 2 ^ len e ≤ wid e * 2 ^ M) : len e ≤ M := by
  obtain ⟨_, w2⟩ := wide_wid hok hk
  have h1 : 4294967296 * 2 ^ len e ≤ 4294967296 * 2 ^ M := Nat.le_trans hM (Nat.mul_le_mul_right _ w2)
  have h2 := Nat.le_of_mul_le_mul_left h1 (by omega)
  exact (Nat.pow_le_pow_iff_right (by omega)).1 h2
/-- even tables: the symbol's bits go out as they are -/
theorem even_wid (j : Nat) : ∀ (n r : Nat) (o : List Bool), j ≤ n → j ≤ 8 → r < 2 ^ j → widE n ⟨r * 2 ^ (32 - j), (r + 1) * 2 ^ (32 - j) - 1, 0, o⟩ = ⟨0, 4294967295, 0, o ++ bitsOf j r⟩ := by
  induction j with
  | zero =>
    intro n r o _ _ hr
    have : r = 0 := by simpa using hr
    subst this
    have e : (⟨0 * 2 ^ (32 - 0), (0 + 1) * 2 ^ (32 - 0) - 1, 0, o⟩ : En) = ⟨0, 4294967295, 0, o⟩ := by simp
    rw [e]
    have hb : bitsOf 0 0 = [] := rfl
    rw [hb, List.append_nil]
    cases n with
    | zero => rfl
    | succ n => unfold widE; rw [if_pos (show kind 0 4294967295 = 3 by decide)]
  | succ j ih =>
    intro n r o hn h8 hr
    cases n with
    | zero => omega
    | succ n =>
      obtain ⟨P, hP⟩ : ∃ P, P = 2 ^ (32 - (j + 1)) := ⟨_, rfl⟩
      have hPp : 0 < P := by rw [hP]; exact Nat.pow_pos (by omega)
      have hP2 : 2 ^ (32 - j) = 2 * P := by rw [hP, show 32 - j = (32 - (j + 1)) + 1 by omega, Nat.pow_succ, Nat.mul_comm]
      have hPj : 2 ^ j * P = 2147483648 := by
        rw [hP, ← Nat.pow_add, show j + (32 - (j + 1)) = 31 by omega]
      rw [← hP]
      rw [Nat.pow_succ] at hr
      by_cases hb : r < 2 ^ j
      · have hle : (r + 1) * P ≤ 2147483648 := by rw [← hPj]; exact Nat.mul_le_mul_right _ (by omega)
        have hpos : P ≤ (r + 1) * P := Nat.le_mul_of_pos_left _ (by omega)
        have hk : kind (r * P) ((r + 1) * P - 1) = 0 := by unfold kind; rw [if_pos (by omega)]
        unfold widE
        rw [if_neg (by rw [hk]; decide), stepE_0 hk]
        have := ih n r (emit o false 0) (by omega) (by omega) hb
        rw [hP2] at this
        have e1 : r * (2 * P) = 2 * (r * P) := by rw [← Nat.mul_assoc, Nat.mul_comm r 2, Nat.mul_assoc]
        have e2 : (r + 1) * (2 * P) - 1 = 2 * ((r + 1) * P - 1) + 1 := by
          have : (r + 1) * (2 * P) = 2 * ((r + 1) * P) := by rw [← Nat.mul_assoc, Nat.mul_comm (r + 1) 2, Nat.mul_assoc]
          omega
        rw [e1, e2] at this
        rw [this, bitsOf_succ, Nat.testBit_lt_two_pow hb]
        simp [emit]
      · obtain ⟨r', hr'⟩ : ∃ r', r = r' + 2 ^ j := ⟨r - 2 ^ j, by omega⟩
        have hlt : r' < 2 ^ j := by omega
        have hrP : r * P = r' * P + 2147483648 := by rw [hr', Nat.add_mul, hPj]
        have hrP2 : (r + 1) * P = (r' + 1) * P + 2147483648 := by rw [hr', show r' + 2 ^ j + 1 = (r' + 1) + 2 ^ j by omega, Nat.add_mul, hPj]
        have hpos : P ≤ (r' + 1) * P := Nat.le_mul_of_pos_left _ (by omega)
        have hk : kind (r * P) ((r + 1) * P - 1) = 1 := by unfold kind; rw [if_neg (by omega), if_pos (by omega)]
        unfold widE
        rw [if_neg (by rw [hk]; decide), stepE_1 hk]
        have := ih n r' (emit o true 0) (by omega) (by omega) hlt
        rw [hP2] at this
        have e1 : r' * (2 * P) = 2 * (r * P - 2147483648) := by
          have : r' * (2 * P) = 2 * (r' * P) := by rw [← Nat.mul_assoc, Nat.mul_comm r' 2, Nat.mul_assoc]
          omega
        have e2 : (r' + 1) * (2 * P) - 1 = 2 * ((r + 1) * P - 1 - 2147483648) + 1 := by
          have : (r' + 1) * (2 * P) = 2 * ((r' + 1) * P) := by rw [← Nat.mul_assoc, Nat.mul_comm (r' + 1) 2, Nat.mul_assoc]
          omega
        rw [e1, e2] at this
        rw [this, bitsOf_succ]
        have ht : r.testBit j = true := by rw [hr', Nat.add_comm, Nat.testBit_two_pow_add_eq, Nat.testBit_lt_two_pow hlt]; rfl
        have hm : bitsOf j r = bitsOf j r' := by
          rw [← bitsOf_mod j r, hr', Nat.add_mod_right, bitsOf_mod]
        rw [ht, hm]
        simp [emit]
theorem pow24 : (2 : Nat) ^ (32 - 8) = 16777216 := by decide
theorem even_put (o : List Bool) (s : Nat) (hs : s < 256) : putE ⟨0, 4294967295, 0, o⟩ s (s + 1) 256 = ⟨0, 4294967295, 0, o ++ bitsOf 8 s⟩ := by
  have h := even_wid 8 40 s o (by omega) (by omega) (by simpa using hs)
  rw [pow24] at h
  unfold putE nar
  have e1 : 0 + wid ⟨0, 4294967295, 0, o⟩ * s / 256 = s * 16777216 := by
    show 0 + (4294967295 - 0 + 1) * s / 256 = _
    omega
  have e2 : 0 + wid ⟨0, 4294967295, 0, o⟩ * (s + 1) / 256 - 1 = (s + 1) * 16777216 - 1 := by
    show 0 + (4294967295 - 0 + 1) * (s + 1) / 256 - 1 = _
    omega
  show widE 40 ⟨0 + wid ⟨0, 4294967295, 0, o⟩ * s / 256, 0 + wid ⟨0, 4294967295, 0, o⟩ * (s + 1) / 256 - 1, 0, o⟩ = _
  rw [e1, e2]
  exact h
end Go.Proofs.Ytgelgbfnioagbaa.Cd
