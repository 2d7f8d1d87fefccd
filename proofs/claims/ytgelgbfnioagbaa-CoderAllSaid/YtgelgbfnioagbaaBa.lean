/-
  Own texts, laid together: Math, Mem, Wa, Wb, Wc, Wd, We, Wf, Wg.
-/
import Derived.Lib.BitFns
import Derived.Below
import Derived.Laws.OwnMore
import Derived.Deep.Draws
import Derived.Laws.Rows
import Derived.Deep.AppendLies
import Derived.Test.YtgelgbfnioagbaaChecked
import Derived.WalkKit
import Derived.WalkSpells
import Derived.WalkLawsBesides
import Derived.Lib.Strings
import Derived.Lib.Small
import Derived.Lib.Walk
import Derived.Lib.Hide
import Derived.Laws.ShiftsVar
import Derived.Deep.QuietTactic
import Derived.BigQuiet
import Derived.Test.YtgelgbfnioagbaaLen
import Derived.Deep.OwnRows
import Derived.Laws.CopyOwn
import Derived.Deep.Light
import Derived.Deep.RegionWith
import Derived.Deep.RegionHeld3
/- Math -/
namespace Go.Proofs.Ytgelgbfnioagbaa
/-- the number that bits are, the first one the highest -/
def num (l : List Bool) : Nat := l.foldl (fun a b => 2 * a + b.toNat) 0
/-- the byte at place j of the bits that F tells -/
def byteF (F : Nat → Bool) (j : Nat) : Nat :=
  128 * (F (8 * j)).toNat + 64 * (F (8 * j + 1)).toNat + 32 * (F (8 * j + 2)).toNat + 16 * (F (8 * j + 3)).toNat + 8 * (F (8 * j + 4)).toNat + 4 * (F (8 * j + 5)).toNat + 2 * (F (8 * j + 6)).toNat + (F (8 * j + 7)).toNat
def packF (m : Nat) (F : Nat → Bool) : List Nat := (List.range m).map (byteF F)
def bitF (l : List Bool) (i : Nat) : Bool := l.getD i false
def pack (l : List Bool) : List Nat := packF ((l.length + 7) / 8) (bitF l)
/-- the bits of a number, width of them -/
def bitsOf (width v : Nat) : List Bool := (List.range width).map fun i => v.testBit (width - 1 - i)
/-- the first n bits of bytes -/
def bitsIn (bs : List Nat) (n : Nat) : List Bool := (List.range n).map fun i => (bs.getD (i / 8) 0).testBit (7 - i % 8)
theorem byte8 : ∀ a b c d e f g h : Bool, ∀ k : Fin 8,
    (128 * a.toNat + 64 * b.toNat + 32 * c.toNat + 16 * d.toNat + 8 * e.toNat + 4 * f.toNat + 2 * g.toNat + h.toNat).testBit k.val = [h, g, f, e, d, c, b, a].getD k.val false := by
  decide +kernel
theorem byteF_lt (F : Nat → Bool) (j : Nat) : byteF F j < 256 := by
  have t : ∀ b : Bool, b.toNat ≤ 1 := by decide
  unfold byteF
  have := t (F (8 * j)); have := t (F (8 * j + 1)); have := t (F (8 * j + 2)); have := t (F (8 * j + 3)); have := t (F (8 * j + 4)); have := t (F (8 * j + 5)); have := t (F (8 * j + 6)); have := t (F (8 * j + 7))
  omega
theorem byteF_testBit (F : Nat → Bool) (j b : Nat) : (byteF F j).testBit b = (decide (b < 8) && F (8 * j + (7 - b))) := by
  by_cases hb : b < 8
  · have := byte8 (F (8 * j)) (F (8 * j + 1)) (F (8 * j + 2)) (F (8 * j + 3)) (F (8 * j + 4)) (F (8 * j + 5)) (F (8 * j + 6)) (F (8 * j + 7)) ⟨b, hb⟩
    unfold byteF
    rw [this]
    match b, hb with
    | 0, _ => rfl
    | 1, _ => rfl
    | 2, _ => rfl
    | 3, _ => rfl
    | 4, _ => rfl
    | 5, _ => rfl
    | 6, _ => rfl
    | 7, _ => rfl
  · have h : byteF F j < 2 ^ b := Nat.lt_of_lt_of_le (byteF_lt F j) (Nat.pow_le_pow_right (n := 2) (i := 8) (j := b) (by omega) (by omega))
    rw [Nat.testBit_lt_two_pow h]
    simp [hb]
theorem byteF_eq {F G : Nat → Bool} {j : Nat} (h : ∀ i, 8 * j ≤ i → i < 8 * j + 8 → F i = G i) : byteF F j = byteF G j := by
  unfold byteF
  rw [h (8 * j) (by omega) (by omega), h (8 * j + 1) (by omega) (by omega), h (8 * j + 2) (by omega) (by omega), h (8 * j + 3) (by omega) (by omega), h (8 * j + 4) (by omega) (by omega), h (8 * j + 5) (by omega) (by omega), h (8 * j + 6) (by omega) (by omega), h (8 * j + 7) (by omega) (by omega)]
/-- a byte is known by its bits -/
theorem byteF_of_bits {F : Nat → Bool} {j c : Nat} (hc : c < 256) (h : ∀ b, b < 8 → c.testBit b = F (8 * j + (7 - b))) : c = byteF F j := by
  refine Nat.eq_of_testBit_eq fun b => ?_
  rw [byteF_testBit]
  by_cases hb : b < 8
  · simp [hb, h b hb]
  · have h : c < 2 ^ b := Nat.lt_of_lt_of_le hc (Nat.pow_le_pow_right (n := 2) (i := 8) (j := b) (by omega) (by omega))
    rw [Nat.testBit_lt_two_pow h]
    simp [hb]
/-- the bit at a place, as the program reads it -/
theorem byteF_bit (F : Nat → Bool) (i : Nat) : byteF F (i / 8) / 2 ^ (7 - i % 8) % 2 = (F i).toNat := by
  have h := byteF_testBit F (i / 8) (7 - i % 8)
  rw [Nat.testBit_eq_decide_div_mod_eq] at h
  have e : 8 * (i / 8) + (7 - (7 - i % 8)) = i := by omega
  have l : 7 - i % 8 < 8 := by omega
  rw [e] at h
  simp only [l, decide_true, Bool.true_and] at h
  have := Nat.mod_lt (byteF F (i / 8) / 2 ^ (7 - i % 8)) (show 0 < 2 by omega)
  cases hF : F i
  · rw [hF] at h; simp at h; simp; omega
  · rw [hF] at h; simp at h; simp; omega
theorem packF_length (m : Nat) (F : Nat → Bool) : (packF m F).length = m := by simp [packF]
theorem packF_getD (m : Nat) (F : Nat → Bool) (j : Nat) (h : j < m) : (packF m F).getD j 0 = byteF F j := by
  simp [packF, List.getD_eq_getElem?_getD, h]
theorem packF_get? (m : Nat) (F : Nat → Bool) (j : Nat) (h : j < m) : (packF m F)[j]? = some (byteF F j) := by simp [packF, h]
theorem packF_lt (m : Nat) (F : Nat → Bool) : ∀ x ∈ packF m F, x < 256 := by
  intro x hx
  simp only [packF, List.mem_map] at hx
  obtain ⟨j, _, rfl⟩ := hx
  exact byteF_lt F j
theorem packF_congr {m : Nat} {F G : Nat → Bool} (h : ∀ i, i < 8 * m → F i = G i) : packF m F = packF m G := by
  unfold packF
  refine List.map_congr_left fun j hj => ?_
  have := List.mem_range.1 hj
  exact byteF_eq fun i _ h2 => h i (by omega)
theorem pack_length (l : List Bool) : (pack l).length = (l.length + 7) / 8 := packF_length _ _
theorem pack_lt (l : List Bool) : ∀ x ∈ pack l, x < 256 := packF_lt _ _
theorem bitF_of_ge {l : List Bool} {i : Nat} (h : l.length ≤ i) : bitF l i = false := by simp [bitF, List.getD_eq_getElem?_getD, h]
theorem bitF_append (l m : List Bool) (i : Nat) : bitF (l ++ m) i = if i < l.length then bitF l i else bitF m (i - l.length) := by
  unfold bitF
  simp only [List.getD_eq_getElem?_getD, List.getElem?_append]
  split <;> rfl
theorem bitF_drop (l : List Bool) (k i : Nat) : bitF (l.drop k) i = bitF l (k + i) := by simp [bitF, List.getD_eq_getElem?_getD]
theorem bitF_take (l : List Bool) (k i : Nat) : bitF (l.take k) i = if i < k then bitF l i else false := by
  unfold bitF
  simp only [List.getD_eq_getElem?_getD, List.getElem?_take]
  split <;> simp
theorem bitF_ext {l m : List Bool} (hl : l.length = m.length) (h : ∀ i, i < l.length → bitF l i = bitF m i) : l = m := by
  refine List.ext_getElem hl fun i h1 h2 => ?_
  have := h i h1
  simpa [bitF, List.getD_eq_getElem?_getD, h1, h2] using this
theorem bitsOf_length (w v : Nat) : (bitsOf w v).length = w := by simp [bitsOf]
theorem bitF_bitsOf (w v i : Nat) : bitF (bitsOf w v) i = (decide (i < w) && v.testBit (w - 1 - i)) := by
  unfold bitF bitsOf
  by_cases h : i < w <;> simp [List.getD_eq_getElem?_getD, h]
theorem bitsIn_length (bs : List Nat) (n : Nat) : (bitsIn bs n).length = n := by simp [bitsIn]
theorem bitF_bitsIn (bs : List Nat) (n i : Nat) : bitF (bitsIn bs n) i = (decide (i < n) && (bs.getD (i / 8) 0).testBit (7 - i % 8)) := by
  unfold bitF bitsIn
  by_cases h : i < n <;> simp [List.getD_eq_getElem?_getD, h]
/-- bytes that may be are the bytes of their bits -/
theorem pack_bitsIn (bs : List Nat) (n : Nat) (hlen : bs.length = (n + 7) / 8) (hlt : ∀ x ∈ bs, x < 256) (hlast : n % 8 ≠ 0 → bs.getD (bs.length - 1) 0 * 2 ^ (n % 8) % 256 = 0) :
    pack (bitsIn bs n) = bs := by
  refine List.ext_getElem (by rw [pack_length, bitsIn_length, hlen]) fun j h1 h2 => ?_
  have hj : j < (n + 7) / 8 := by omega
  have e1 : (pack (bitsIn bs n))[j] = byteF (bitF (bitsIn bs n)) j := by simp [pack, packF]
  rw [e1]
  symm
  have hb : bs[j] < 256 := hlt _ (List.getElem_mem h2)
  refine byteF_of_bits hb fun b hb8 => ?_
  rw [bitF_bitsIn]
  have e2 : (8 * j + (7 - b)) / 8 = j := by omega
  have e3 : 7 - (8 * j + (7 - b)) % 8 = b := by omega
  rw [e2, e3]
  have e4 : bs.getD j 0 = bs[j] := by simp [List.getD_eq_getElem?_getD, h2]
  rw [e4]
  by_cases hlt' : 8 * j + (7 - b) < n
  · simp [hlt']
  · simp only [hlt', decide_false, Bool.false_and]
    have hn : n % 8 ≠ 0 := by omega
    have hj' : j = bs.length - 1 := by omega
    have := hlast hn
    rw [← hj', e4] at this
    have hd : bs[j] % 2 ^ (8 - n % 8) = 0 := by
      have e : (256 : Nat) = 2 ^ (8 - n % 8) * 2 ^ (n % 8) := by rw [← Nat.pow_add, show 8 - n % 8 + n % 8 = 8 by omega]
      rw [e, Nat.mul_mod_mul_right] at this
      have p : 0 < 2 ^ (n % 8) := Nat.pow_pos (by omega)
      rcases Nat.mul_eq_zero.1 this with h | h
      · exact h
      · omega
    have t := Nat.testBit_mod_two_pow bs[j] (8 - n % 8) b
    rw [hd] at t
    have hlt2 : b < 8 - n % 8 := by omega
    simpa [hlt2] using t.symm
/-- the last byte of bits has zeros behind them -/
theorem pack_last (l : List Bool) (h : l.length % 8 ≠ 0) : (pack l).getD ((pack l).length - 1) 0 * 2 ^ (l.length % 8) % 256 = 0 := by
  have hm : (l.length + 7) / 8 - 1 < (l.length + 7) / 8 := by omega
  rw [pack_length]
  unfold pack
  rw [packF_getD _ _ _ hm]
  refine Nat.eq_of_testBit_eq fun b => ?_
  rw [show (256 : Nat) = 2 ^ 8 from rfl, Nat.testBit_mod_two_pow, Nat.testBit_mul_two_pow, byteF_testBit]
  simp only [Nat.zero_testBit]
  by_cases h1 : b < 8
  · by_cases h2 : l.length % 8 ≤ b
    · rw [bitF_of_ge (by omega)]; simp
    · simp [h2]
  · simp [h1]
theorem bitsIn_pack (l : List Bool) : bitsIn (pack l) l.length = l := by
  refine bitF_ext (bitsIn_length _ _) fun i hi => ?_
  rw [bitsIn_length] at hi
  rw [bitF_bitsIn]
  simp only [hi, decide_true, Bool.true_and]
  unfold pack
  rw [packF_getD _ _ _ (by omega), byteF_testBit]
  have e : 8 * (i / 8) + (7 - (7 - i % 8)) = i := by omega
  have l' : 7 - i % 8 < 8 := by omega
  simp [e, l']
theorem pack_inj {l m : List Bool} (hl : l.length = m.length) (h : pack l = pack m) : l = m := by
  rw [← bitsIn_pack l, ← bitsIn_pack m, h, hl]
/-- whole bytes -/
theorem pack_bitsIn_whole (bs : List Nat) (hlt : ∀ x ∈ bs, x < 256) : pack (bitsIn bs (8 * bs.length)) = bs :=
  pack_bitsIn bs _ (by omega) hlt (fun h => by omega)
theorem num_nil : num [] = 0 := rfl
theorem num_snoc (l : List Bool) (b : Bool) : num (l ++ [b]) = 2 * num l + b.toNat := by simp [num]
theorem num_from (l : List Bool) : ∀ a, l.foldl (fun a b => 2 * a + b.toNat) a = a * 2 ^ l.length + num l := by
  induction l with
  | nil => intro a; simp [num]
  | cons b l ih =>
    intro a
    have h1 := ih (2 * a + b.toNat)
    have h2 := ih (2 * 0 + b.toNat)
    simp only [List.foldl_cons, num, List.length_cons, Nat.pow_succ] at h1 h2 ⊢
    rw [h1, h2, Nat.add_mul, Nat.mul_comm (2 ^ l.length) 2, ← Nat.mul_assoc, Nat.mul_comm a 2]
    simp only [Nat.mul_zero, Nat.zero_add]
    omega
theorem num_cons (b : Bool) (l : List Bool) : num (b :: l) = 2 ^ l.length * b.toNat + num l := by
  have := num_from l (2 * 0 + b.toNat)
  unfold num at this ⊢
  rw [List.foldl_cons, this, Nat.mul_comm]
  simp
theorem num_lt (l : List Bool) : num l < 2 ^ l.length := by
  induction l with
  | nil => simp [num]
  | cons b l ih =>
    rw [num_cons, List.length_cons, Nat.pow_succ]
    cases b <;> simp <;> omega
theorem num_append (l m : List Bool) : num (l ++ m) = num l * 2 ^ m.length + num m := by
  have := num_from m (num l)
  unfold num at this ⊢
  rw [List.foldl_append, this]
theorem bitsOf_succ (w v : Nat) : bitsOf (w + 1) v = v.testBit w :: bitsOf w v := by
  unfold bitsOf
  rw [List.range_succ_eq_map, List.map_cons, List.map_map]
  congr 1
  refine List.map_congr_left fun i hi => ?_
  have := List.mem_range.1 hi
  simp only [Function.comp]
  congr 1
  omega
theorem num_bitsOf (w v : Nat) : num (bitsOf w v) = v % 2 ^ w := by
  induction w with
  | zero => simp [bitsOf, num, Nat.mod_one]
  | succ w ih =>
    rw [bitsOf_succ, num_cons, bitsOf_length, ih, Nat.mod_pow_succ, Nat.toNat_testBit]
    omega
theorem num_testBit (l : List Bool) (i : Nat) : (num l).testBit i = (decide (i < l.length) && bitF l (l.length - 1 - i)) := by
  induction l with
  | nil => simp [num]
  | cons b l ih =>
    rw [num_cons, Nat.testBit_two_pow_mul_add _ (num_lt l), ih]
    by_cases h : i < l.length
    · have h2 : i < l.length + 1 := by omega
      have e : l.length + 1 - 1 - i = (l.length - 1 - i) + 1 := by omega
      simp only [h, h2, List.length_cons, decide_true, Bool.true_and, if_true, e]
      simp [bitF]
    · by_cases h3 : i = l.length
      · subst h3
        cases b <;> simp [bitF]
      · have h4 : ¬ i < l.length + 1 := by omega
        have h5 : i - l.length ≠ 0 := by omega
        simp only [h, h4, List.length_cons, decide_false, Bool.false_and, if_false]
        cases b
        · simp
        · simp only [Bool.toNat_true]
          exact Nat.testBit_lt_two_pow (Nat.lt_of_lt_of_le (show 1 < 2 ^ 1 by omega) (Nat.pow_le_pow_right (by omega) (by omega)))
theorem bitsOf_num (l : List Bool) : bitsOf l.length (num l) = l := by
  refine bitF_ext (bitsOf_length _ _) fun i hi => ?_
  rw [bitsOf_length] at hi
  rw [bitF_bitsOf, num_testBit]
  have h1 : l.length - 1 - i < l.length := by omega
  have e : l.length - 1 - (l.length - 1 - i) = i := by omega
  simp [hi, h1, e]
theorem bitsOf_mod (w v : Nat) : bitsOf w (v % 2 ^ w) = bitsOf w v := by
  have := bitsOf_num (bitsOf w v)
  rw [bitsOf_length, num_bitsOf] at this
  exact this
theorem num_inj {l m : List Bool} (hl : l.length = m.length) (h : num l = num m) : l = m := by
  rw [← bitsOf_num l, ← bitsOf_num m, h, hl]
/-- a number's bits in two parts -/
theorem bitsOf_split (w c v : Nat) (hc : c ≤ w) : bitsOf (w - c) (v / 2 ^ c) ++ bitsOf c v = bitsOf w v := by
  refine bitF_ext (by simp only [List.length_append, bitsOf_length]; omega) fun i hi => ?_
  simp only [List.length_append, bitsOf_length] at hi
  rw [bitF_append, bitsOf_length, bitF_bitsOf, bitF_bitsOf, bitF_bitsOf, Nat.testBit_div_two_pow]
  by_cases h : i < w - c
  · have e : w - c - 1 - i + c = w - 1 - i := by omega
    have h2 : i < w := by omega
    simp only [h, h2, e, if_true]
  · have e : c - 1 - (i - (w - c)) = w - 1 - i := by omega
    have h2 : i < w := by omega
    have h3 : i - (w - c) < c := by omega
    simp only [h, h2, h3, e, if_false]
/-- one byte of a number that is shifted to the top of 64 bits -/
theorem byte_of_number (width v j : Nat) (hw : width ≤ 64) (hj : 8 * j < width) :
    v * 2 ^ (64 - width) / 2 ^ (56 - 8 * j) % 256 = byteF (bitF (bitsOf width v)) j := by
  refine byteF_of_bits (Nat.mod_lt _ (by omega)) fun b hb => ?_
  rw [show (256 : Nat) = 2 ^ 8 from rfl, Nat.testBit_mod_two_pow, Nat.testBit_div_two_pow, Nat.testBit_mul_two_pow, bitF_bitsOf]
  simp only [hb, decide_true, Bool.true_and]
  by_cases h : 8 * j + (7 - b) < width
  · have e1 : 64 - width ≤ b + (56 - 8 * j) := by omega
    have e2 : b + (56 - 8 * j) - (64 - width) = width - 1 - (8 * j + (7 - b)) := by omega
    simp only [h, e1, e2, decide_true, Bool.true_and]
  · have e1 : ¬ 64 - width ≤ b + (56 - 8 * j) := by omega
    simp only [h, e1, decide_false, Bool.false_and]
/-- the first byte that a byte of bits is laid over -/
theorem lay_first (l1 l2 : List Bool) (k : Nat) :
    byteF (bitF (l1 ++ l2.take (8 * k))) (l1.length / 8 + k) ||| byteF (bitF l2) k / 2 ^ (l1.length % 8) = byteF (bitF (l1 ++ l2.take (8 * (k + 1)))) (l1.length / 8 + k) := by
  have hd : byteF (bitF l2) k / 2 ^ (l1.length % 8) < 256 := Nat.lt_of_le_of_lt (Nat.div_le_self _ _) (byteF_lt _ _)
  refine byteF_of_bits (Nat.or_lt_two_pow (n := 8) (byteF_lt _ _) hd) fun b hb => ?_
  rw [Nat.testBit_or, Nat.testBit_div_two_pow, byteF_testBit, byteF_testBit, bitF_append, bitF_append, bitF_take, bitF_take]
  simp only [hb, decide_true, Bool.true_and]
  by_cases h1 : 8 * (l1.length / 8 + k) + (7 - b) < l1.length
  · have h2 : ¬ b + l1.length % 8 < 8 := by omega
    simp [h1, h2]
  · have h4 : 8 * (l1.length / 8 + k) + (7 - b) - l1.length < 8 * (k + 1) := by omega
    by_cases h5 : 8 * (l1.length / 8 + k) + (7 - b) - l1.length < 8 * k
    · have h2 : ¬ b + l1.length % 8 < 8 := by omega
      simp [h1, h2, h4, h5]
    · have h2 : b + l1.length % 8 < 8 := by omega
      have e : 8 * k + (7 - (b + l1.length % 8)) = 8 * (l1.length / 8 + k) + (7 - b) - l1.length := by omega
      simp [h1, h2, h4, h5, e]
/-- the second one -/
theorem lay_second (l1 l2 : List Bool) (k : Nat) :
    byteF (bitF (l1 ++ l2.take (8 * k))) (l1.length / 8 + k + 1) ||| byteF (bitF l2) k * 2 ^ (8 - l1.length % 8) % 256 = byteF (bitF (l1 ++ l2.take (8 * (k + 1)))) (l1.length / 8 + k + 1) := by
  refine byteF_of_bits (Nat.or_lt_two_pow (n := 8) (byteF_lt _ _) (Nat.mod_lt _ (by omega))) fun b hb => ?_
  rw [Nat.testBit_or, show (256 : Nat) = 2 ^ 8 from rfl, Nat.testBit_mod_two_pow, Nat.testBit_mul_two_pow, byteF_testBit, byteF_testBit, bitF_append, bitF_append, bitF_take, bitF_take]
  have h1 : ¬ 8 * (l1.length / 8 + k + 1) + (7 - b) < l1.length := by omega
  have h2 : ¬ 8 * (l1.length / 8 + k + 1) + (7 - b) - l1.length < 8 * k := by omega
  simp only [hb, h1, h2, decide_true, Bool.true_and, if_false, Bool.false_or]
  by_cases h3 : 8 - l1.length % 8 ≤ b
  · have h4 : b - (8 - l1.length % 8) < 8 := by omega
    have h5 : 8 * (l1.length / 8 + k + 1) + (7 - b) - l1.length < 8 * (k + 1) := by omega
    have e : 8 * k + (7 - (b - (8 - l1.length % 8))) = 8 * (l1.length / 8 + k + 1) + (7 - b) - l1.length := by omega
    simp [h3, h4, h5, e]
  · have h5 : ¬ 8 * (l1.length / 8 + k + 1) + (7 - b) - l1.length < 8 * (k + 1) := by omega
    simp [h3, h5]
/-- the others -/
theorem lay_other (l1 l2 : List Bool) (k j : Nat) (h1 : j ≠ l1.length / 8 + k) (h2 : j ≠ l1.length / 8 + k + 1) :
    byteF (bitF (l1 ++ l2.take (8 * k))) j = byteF (bitF (l1 ++ l2.take (8 * (k + 1)))) j := by
  refine byteF_eq fun i hi1 hi2 => ?_
  rw [bitF_append, bitF_append, bitF_take, bitF_take]
  by_cases h : i < l1.length
  · simp [h]
  · by_cases h3 : i - l1.length < 8 * k
    · have h4 : i - l1.length < 8 * (k + 1) := by omega
      simp [h, h3, h4]
    · have h4 : ¬ i - l1.length < 8 * (k + 1) := by omega
      simp [h, h3, h4]
/-- where the second part is not nothing there is a byte for it -/
theorem lay_room (l1 l2 : List Bool) (k m : Nat) (hm : l1.length + l2.length ≤ 8 * m) (hr : byteF (bitF l2) k * 2 ^ (8 - l1.length % 8) % 256 ≠ 0) : l1.length / 8 + k + 1 < m := by
  rcases Nat.lt_or_ge (l1.length / 8 + k + 1) m with h | h
  · exact h
  · refine absurd (Nat.eq_of_testBit_eq fun b => ?_) hr
    rw [show (256 : Nat) = 2 ^ 8 from rfl, Nat.testBit_mod_two_pow, Nat.testBit_mul_two_pow, byteF_testBit, Nat.zero_testBit]
    by_cases h1 : b < 8
    · by_cases h2 : 8 - l1.length % 8 ≤ b
      · rw [bitF_of_ge (by omega)]; simp
      · simp [h2]
    · simp [h1]
theorem lay_step (l1 l2 : List Bool) (k m : Nat)
    (hr : byteF (bitF l2) k * 2 ^ (8 - l1.length % 8) % 256 = 0) :
    (packF m (bitF (l1 ++ l2.take (8 * k)))).set (l1.length / 8 + k) (byteF (bitF (l1 ++ l2.take (8 * k))) (l1.length / 8 + k) ||| byteF (bitF l2) k / 2 ^ (l1.length % 8)) = packF m (bitF (l1 ++ l2.take (8 * (k + 1)))) := by
  have h2 := lay_second l1 l2 k
  rw [hr, Nat.or_zero] at h2
  rw [lay_first]
  refine List.ext_getElem (by simp [packF_length]) fun j h3 h4 => ?_
  rw [List.getElem_set]
  split
  · rename_i e; subst e; simp [packF]
  · rename_i e
    simp only [packF, List.getElem_map, List.getElem_range]
    by_cases e2 : j = l1.length / 8 + k + 1
    · subst e2; exact h2
    · exact lay_other l1 l2 k j (by omega) e2
theorem lay_step2 (l1 l2 : List Bool) (k m : Nat) :
    ((packF m (bitF (l1 ++ l2.take (8 * k)))).set (l1.length / 8 + k) (byteF (bitF (l1 ++ l2.take (8 * k))) (l1.length / 8 + k) ||| byteF (bitF l2) k / 2 ^ (l1.length % 8))).set (l1.length / 8 + k + 1) (byteF (bitF (l1 ++ l2.take (8 * k))) (l1.length / 8 + k + 1) ||| byteF (bitF l2) k * 2 ^ (8 - l1.length % 8) % 256) = packF m (bitF (l1 ++ l2.take (8 * (k + 1)))) := by
  rw [lay_first, lay_second l1 l2 k]
  refine List.ext_getElem (by simp [packF_length]) fun j h3 h4 => ?_
  rw [List.getElem_set, List.getElem_set]
  split
  · rename_i e; subst e; simp [packF]
  · rename_i e
    split
    · rename_i e'; subst e'; simp [packF]
    · rename_i e'
      simp only [packF, List.getElem_map, List.getElem_range]
      exact lay_other l1 l2 k j (by omega) (by omega)
/-- whole bytes behind whole bytes -/
theorem lay_whole (l1 l2 : List Bool) (m : Nat) (hm : l1.length + l2.length ≤ 8 * m) (hs : l1.length % 8 = 0) :
    (packF m (bitF l1)).take (l1.length / 8) ++ (pack l2 ++ (packF m (bitF l1)).drop (l1.length / 8 + (pack l2).length)) = packF m (bitF (l1 ++ l2)) := by
  have hp := pack_length l2
  refine List.ext_getElem? fun j => ?_
  rw [List.getElem?_append, List.length_take, packF_length]
  have hmin : min (l1.length / 8) m = l1.length / 8 := by omega
  rw [hmin]
  split
  · rename_i h
    rw [List.getElem?_take_of_lt h]
    have hj : j < m := by omega
    rw [packF_get? _ _ _ hj, packF_get? _ _ _ hj]
    congr 1
    refine byteF_eq fun i _ hi2 => ?_
    rw [bitF_append, if_pos (by omega)]
  · rename_i h
    rw [List.getElem?_append, hp]
    split
    · rename_i h2
      have hj : j < m := by omega
      unfold pack
      rw [packF_get? _ _ _ h2, packF_get? _ _ _ hj]
      congr 1
      refine byteF_of_bits (byteF_lt _ _) fun b hb => ?_
      rw [byteF_testBit, bitF_append, if_neg (by omega)]
      have e : 8 * j + (7 - b) - l1.length = 8 * (j - l1.length / 8) + (7 - b) := by omega
      simp [hb, e]
    · rename_i h2
      rw [List.getElem?_drop]
      have e : l1.length / 8 + (l2.length + 7) / 8 + (j - l1.length / 8 - (l2.length + 7) / 8) = j := by omega
      rw [e]
      by_cases hj : j < m
      · rw [packF_get? _ _ _ hj, packF_get? _ _ _ hj]
        congr 1
        refine byteF_eq fun i hi1 _ => ?_
        rw [bitF_append, if_neg (by omega), bitF_of_ge (by omega), bitF_of_ge (by omega)]
      · rw [List.getElem?_eq_none (by rw [packF_length]; omega), List.getElem?_eq_none (by rw [packF_length]; omega)]
end Go.Proofs.Ytgelgbfnioagbaa
/- Mem -/
namespace Go.Proofs.Ytgelgbfnioagbaa
open Go.RowKit
theorem block_of_add (a : Addr) (n : Nat) : (a.add n).block = a.block := by unfold Addr.add; split <;> rfl
theorem add_of_add (a : Addr) (i j : Nat) : (a.add i).add j = a.add (i + j) := by
  unfold Addr.add
  by_cases hi : i = 0 <;> by_cases hj : j = 0 <;> simp [hi, hj, Nat.add_assoc]
theorem add_own (g j : Nat) : (⟨g, 0, none⟩ : Addr).add j = ⟨g, j, none⟩ := by
  unfold Addr.add
  split
  · rename_i h; subst h; rfl
  · simp
theorem below_drewN {B : Nat} {a w : World} (h : Below B a w) (n : Nat) : Below B a (w.drewN n) := ⟨h.os, h.tape, h.output, h.size, h.block⟩
theorem only_drewN {a w : World} {row : Option Nat} (h : a.grownBy w row) (n : Nat) : a.grownBy (w.drewN n) row := ⟨h.os, h.tape, h.output, h.size, h.block⟩
theorem only_drew {a w : World} {row : Option Nat} (h : a.grownBy w row) : a.grownBy w.drew row := ⟨h.os, h.tape, h.output, h.size, h.block⟩
theorem only_alloc {a w : World} {row : Option Nat} (h : a.grownBy w row) (o : Obj) : a.grownBy (w.alloc o) row :=
  ⟨h.os, h.tape, h.output, Nat.le_trans h.size (by simp), fun i hi hne => (Below.heap_alloc w o i (Nat.lt_of_lt_of_le hi h.size)).trans (h.block i hi hne)⟩
theorem only_setCell {a w : World} {g : Nat} (h : a.grownBy w (some g)) {p : Addr} (hp : p.block = g ∨ a.heap.size ≤ p.block) (u : Value) : a.grownBy (w.setCell p u) (some g) :=
  ⟨h.os, h.tape, h.output, by simpa [World.setCell] using h.size, fun i hi hne => (Below.heap_setCell w p u i (by
    rintro rfl
    rcases hp with hp | hp
    · exact hne (by rw [hp])
    · omega)).trans (h.block i hi hne)⟩
theorem only_of_below {a w : World} (h : Below a.heap.size a w) (row : Option Nat) : a.grownBy w row := ⟨h.os, h.tape, h.output, h.size, fun i hi _ => h.block i hi⟩
/-- a byte as a cell -/
def byteV (n : Nat) : Value := .int .u8 (n : Int)
/-- the slice value '.slice A n c' reads as the bytes bs -/
def Rd (w : World) (A : Option Addr) (n : Nat) (bs : List Nat) : Prop :=
  bs.length = n ∧ (∀ x ∈ bs, x < 256) ∧ (0 < n → ∃ ad, A = some ad ∧ ∀ j x, bs[j]? = some x → w.cell? (ad.add j) = some (byteV x))
section
variable {w w' : World} {A : Option Addr} {n : Nat} {bs : List Nat}
theorem Rd.none_ : Rd w A 0 [] := ⟨rfl, by simp, fun h => absurd h (by omega)⟩
theorem Rd.at_ {k : Nat} (h : Rd w A n bs) (hk : k < n) : ∃ ad, A = some ad ∧ ad.block < w.heap.size ∧ bs.getD k 0 < 256 ∧ w.cell? (ad.add k) = some (.int .u8 ((bs.getD k 0 : Nat) : Int)) := by
  obtain ⟨ad, e, hc⟩ := h.2.2 (by omega)
  have hl : k < bs.length := by have := h.1; omega
  have hg : bs[k]? = some (bs.getD k 0) := by simp [List.getD_eq_getElem?_getD, hl]
  have hcell := hc k _ hg
  have hb := World.block_lt_of_cell? _ _ hcell
  rw [block_of_add] at hb
  refine ⟨ad, e, hb, h.2.1 _ ?_, hcell⟩
  have : bs.getD k 0 = bs[k] := by simp [List.getD_eq_getElem?_getD, hl]
  rw [this]
  exact List.getElem_mem hl
theorem Rd.keep (h : Rd w A n bs) (hk : ∀ p : Addr, p.block < w.heap.size → w'.cell? p = w.cell? p) : Rd w' A n bs :=
  ⟨h.1, h.2.1, fun hn => by
    obtain ⟨ad, e, hc⟩ := h.2.2 hn
    refine ⟨ad, e, fun j x hx => ?_⟩
    have hcell := hc j x hx
    exact (hk _ (World.block_lt_of_cell? _ _ hcell)).trans hcell⟩
theorem Rd.below (h : Rd w A n bs) (hb : Below w.heap.size w w') : Rd w' A n bs := h.keep fun _ hp => hb.cell hp
theorem Rd.only {row : Nat} (h : Rd w A n bs) (hb : w.grownBy w' (some row)) (hA : ∀ ad, A = some ad → 0 < n → ad.block ≠ row) : Rd w' A n bs :=
  ⟨h.1, h.2.1, fun hn => by
    obtain ⟨ad, e, hc⟩ := h.2.2 hn
    refine ⟨ad, e, fun j x hx => ?_⟩
    have hcell := hc j x hx
    have hlt := World.block_lt_of_cell? _ _ hcell
    exact (World.cell?_of_block (hb.block _ hlt (fun e' => hA ad e hn (by rw [block_of_add] at e'; injection e')))).trans hcell⟩
theorem Rd.alloc (h : Rd w A n bs) (o : Obj) : Rd (w.alloc o) A n bs := h.keep fun p hp => World.cell?_alloc_lt w o p (by omega)
theorem Rd.drew (h : Rd w A n bs) : Rd w.drew A n bs := h
theorem Rd.drewN (h : Rd w A n bs) (k : Nat) : Rd (w.drewN k) A n bs := h
end
/-- block g is just the cells cs, none frozen -/
def Blk (w : World) (g : Nat) (t : TypeId) (cs : Array Value) : Prop := w.heap[g]? = some (.cells cs t (0, 0))
section
variable {w w' : World} {g : Nat} {t : TypeId} {cs : Array Value}
theorem Blk.lt (h : Blk w g t cs) : g < w.heap.size := by
  rcases Nat.lt_or_ge g w.heap.size with hlt | hge
  · exact hlt
  · unfold Blk at h; rw [Array.getElem?_eq_none hge] at h; cases h
theorem Blk.cell (h : Blk w g t cs) (i : Nat) : w.cell? ⟨g, i, none⟩ = cs[i]? := cell_of_row w g i cs t (0, 0) h
theorem Blk.frozen (h : Blk w g t cs) (i : Nat) : w.frozen? ⟨g, i, none⟩ = false := by
  unfold Blk at h
  simp [World.frozen?, h]
theorem Blk.new (w : World) (t : TypeId) (cs : Array Value) : Blk (w.alloc (.cells cs t)) w.heap.size t cs := heap_alloc_new w _
theorem Blk.newAt {w : World} {g : Nat} {t : TypeId} {cs : Array Value} (hg : g = w.heap.size) : Blk (w.alloc (.cells cs t)) g t cs := by subst hg; exact Blk.new w t cs
theorem Blk.drew (h : Blk w g t cs) : Blk w.drew g t cs := h
theorem Blk.drewN (h : Blk w g t cs) (n : Nat) : Blk (w.drewN n) g t cs := h
theorem Blk.alloc (h : Blk w g t cs) (o : Obj) : Blk (w.alloc o) g t cs := (Below.heap_alloc w o g h.lt).trans h
theorem Blk.set_ (h : Blk w g t cs) (i : Nat) (u : Value) : Blk (w.setCell ⟨g, i, none⟩ u) g t (cs.setIfInBounds i u) := by
  unfold Blk at h ⊢
  simp [World.setCell, Array.getElem?_modify, h]
theorem Blk.far (h : Blk w g t cs) {p : Addr} (hp : g ≠ p.block) (u : Value) : Blk (w.setCell p u) g t cs := (Below.heap_setCell w p u g hp).trans h
theorem Blk.only {row : Nat} (h : Blk w g t cs) (hb : w.grownBy w' (some row)) (hg : g ≠ row) : Blk w' g t cs := (hb.block g h.lt (fun e => hg (by injection e))).trans h
theorem Blk.below {B : Nat} (h : Blk w g t cs) (hb : Below B w w') (hg : g < B) : Blk w' g t cs := (hb.block g hg).trans h
end
/-- bytes as a block's cells -/
def bcells (bs : List Nat) : Array Value := (bs.map byteV).toArray
theorem bcells_size (bs : List Nat) : (bcells bs).size = bs.length := by simp [bcells]
theorem bcells_get {bs : List Nat} {i : Nat} (h : i < bs.length) : (bcells bs)[i]? = some (.int .u8 ((bs.getD i 0 : Nat) : Int)) := by
  simp [bcells, byteV, List.getD_eq_getElem?_getD, h]
theorem bcells_set (bs : List Nat) (i x : Nat) : (bcells bs).setIfInBounds i (.int .u8 (x : Int)) = bcells (bs.set i x) := by
  simp [bcells, byteV, List.map_set]
theorem bcells_zero (m : Nat) : madeCells (Value.int .u8 0).cells m = bcells (packF m (bitF [])) := by
  refine Array.ext (by simp [madeCells, bcells_size, packF_length]) fun i h1 h2 => ?_
  have hi : i < m := by simpa [madeCells] using h1
  have e : byteF (bitF []) i = 0 := by simp [byteF, bitF]
  simp [madeCells, bcells, packF, byteV, e, Value.cells, Nat.mod_one]
theorem Rd.of_blk {w : World} {g : Nat} {t : TypeId} {bs : List Nat} (h : Blk w g t (bcells bs)) (hlt : ∀ x ∈ bs, x < 256) : Rd w (some ⟨g, 0, none⟩) bs.length bs := by
  refine ⟨rfl, hlt, fun _ => ⟨_, rfl, fun j x hx => ?_⟩⟩
  rw [add_own, h.cell]
  simp [bcells, hx]
/-- the value v is bits that may be, and they are l -/
def IsB (w : World) (v : Value) (l : List Bool) : Prop :=
  ∃ A c, v = .agg #[.slice A (pack l).length c, .int .i64 (l.length : Int)] ∧ Rd w A (pack l).length (pack l) ∧ l.length ≤ 65536
section
variable {w w' : World} {v : Value} {l : List Bool}
theorem IsB.below (h : IsB w v l) (hb : Below w.heap.size w w') : IsB w' v l := by
  obtain ⟨A, c, rfl, hr, hl⟩ := h
  exact ⟨A, c, rfl, hr.below hb, hl⟩
theorem IsB.alloc (h : IsB w v l) (o : Obj) : IsB (w.alloc o) v l := by
  obtain ⟨A, c, rfl, hr, hl⟩ := h
  exact ⟨A, c, rfl, hr.alloc o, hl⟩
theorem IsB.nil_ (w : World) : IsB w (.agg #[.slice none 0 0, .int .i64 0]) [] := ⟨none, 0, rfl, Rd.none_, by simp⟩
end
/-- whether bytes and a number of bits may be -/
def okB (bs : List Nat) (N : Int) : Bool :=
  decide (0 ≤ N ∧ N ≤ 65536 ∧ (bs.length : Int) = (N + 7) / 8 ∧ (N % 8 ≠ 0 → bs.getD (bs.length - 1) 0 * 2 ^ (N % 8).toNat % 256 = 0))
theorem okB_pack (l : List Bool) (h : l.length ≤ 65536) : okB (pack l) (l.length : Int) = true := by
  unfold okB
  have e : ((l.length : Int) % 8).toNat = l.length % 8 := by omega
  have hp := pack_length l
  refine decide_eq_true ⟨by omega, by omega, by omega, fun h8 => ?_⟩
  rw [e]
  exact pack_last l (by omega)
theorem okB_some {bs : List Nat} {N : Int} (h : okB bs N = true) (hlt : ∀ x ∈ bs, x < 256) : ∃ l : List Bool, l.length ≤ 65536 ∧ bs = pack l ∧ N = (l.length : Int) := by
  unfold okB at h
  obtain ⟨h0, h1, h2, h3⟩ := of_decide_eq_true h
  refine ⟨bitsIn bs N.toNat, by rw [bitsIn_length]; omega, (pack_bitsIn bs N.toNat (by omega) hlt fun h8 => ?_).symm, by rw [bitsIn_length]; omega⟩
  have e : (N % 8).toNat = N.toNat % 8 := by omega
  have := h3 (by omega)
  rw [e] at this
  exact this
theorem IsB.of_ok {w : World} {A : Option Addr} {n c : Nat} {N : Int} {bs : List Nat} (h : okB bs N = true) (hr : Rd w A n bs) : ∃ l, IsB w (.agg #[.slice A n c, .int .i64 N]) l ∧ bs = pack l ∧ N = (l.length : Int) := by
  obtain ⟨l, hl, rfl, rfl⟩ := okB_some h hr.2.1
  obtain ⟨rfl, h2⟩ := hr
  exact ⟨l, ⟨A, c, rfl, ⟨rfl, h2⟩, hl⟩, rfl, rfl⟩
end Go.Proofs.Ytgelgbfnioagbaa
/- Wa -/
namespace Go.Proofs.Ytgelgbfnioagbaa
open Go.RowKit
set_option maxHeartbeats 400000 in
theorem bytesFor_any (n : Int) (w : World) (h0 : 0 ≤ n) (h1 : n ≤ 65536) :
    Calls Try.prog 57 #[.int .i64 n] w fun e w' => e = .returned (.int .i64 ((n + 7) / 8)) ∧ w = w' := by
  go_enter Try.func57, Try.ntmps57
  go_wp2
  go_ret
  exact ⟨rfl, rfl⟩
set_option maxHeartbeats 400000 in
theorem isWidth_any (n : Int) (w : World) :
    Calls Try.prog 85 #[.int .i64 n] w fun e w' => e = .returned (.bool (decide (0 ≤ n ∧ n ≤ 64))) ∧ w = w' := by
  by_cases h0 : 0 ≤ n <;> by_cases h1 : n ≤ 64
  all_goals
    go_enter Try.func85, Try.ntmps85
    go_wp2
    go_ret
    exact ⟨by simp [h0, h1], rfl⟩
/-- what is left of a byte, shifted -/
theorem shr_byte (c k : Nat) (hc : c < 256) : bits BinOp.and IntKind.u64 (IntKind.u64.wrap ((c : Int) / 2 ^ k)) 1 = ((c / 2 ^ k % 2 : Nat) : Int) := by
  have e : ((c : Int) / 2 ^ k) = ((c / 2 ^ k : Nat) : Int) := by simp
  have hl : c / 2 ^ k ≤ c := Nat.div_le_self _ _
  rw [e]
  generalize c / 2 ^ k = x at hl
  rw [IntKind.wrap_u64, show (1 : Int) = ((1 : Nat) : Int) from rfl]
  have e2 : ((x : Int) % 18446744073709551616) = (x : Int) := by omega
  rw [e2, u64_and_nat _ _ (by omega) (by omega), nat_mask1]
set_option maxHeartbeats 400000 in
theorem bit_core (A : Addr) (len cap : Nat) (N : Int) (c : Int) (i : Nat) (w : World) (_hi : i / 8 < len) (_hlen : len ≤ 65536) (_h0 : 0 ≤ c) (_h1 : c ≤ 255)
    (hlt : (A.add (i / 8)).block < w.heap.size)
    (hc : w.cell? (A.add (i / 8)) = some (.int .u8 c)) :
    Calls Try.prog 86 #[.agg #[.slice (some A) len cap, .int .i64 N], .int .i64 (i : Int)] w fun e w' => e = .returned (.int .u64 (bits BinOp.and IntKind.u64 (IntKind.u64.wrap (c / 2 ^ (7 - i % 8))) 1)) ∧ Below w.heap.size w w' := by
  go_enter Try.func86, Try.ntmps86
  go_wp2
  go_ret
  exact ⟨rfl, (Below.refl _ _).alloc (Nat.le_refl _) _⟩
theorem bit_any (v : Value) (l : List Bool) (i : Nat) (w : World) (h : IsB w v l) (hi : i < l.length) :
    Calls Try.prog 86 #[v, .int .i64 (i : Int)] w fun e w' => e = .returned (.int .u64 (((bitF l i).toNat : Nat) : Int)) ∧ Below w.heap.size w w' := by
  obtain ⟨A, c, rfl, hr, hl⟩ := h
  have hp := pack_length l
  obtain ⟨ad, rfl, hb, h256, hc⟩ := hr.at_ (k := i / 8) (by omega)
  refine (bit_core ad _ c _ _ i w (by omega) (by omega) (by omega) (by omega) (by rw [block_of_add]; exact hb) hc).mono ?_
  rintro e w' ⟨rfl, hbl⟩
  refine ⟨?_, hbl⟩
  rw [shr_byte _ _ h256]
  have hg : (pack l).getD (i / 8) 0 = byteF (bitF l) (i / 8) := packF_getD _ _ _ (by omega)
  rw [hg, byteF_bit]
/- Check, way by way -/
set_option maxHeartbeats 400000 in
theorem check_low (A : Option Addr) (len cap : Nat) (N : Int) (w : World) (h0 : N < 0 ∨ 65536 < N) :
    Calls Try.prog 31 #[.agg #[.slice A len cap, .int .i64 N]] w fun e w' => e = .returned (.int .i64 1) ∧ Below w.heap.size w w' := by
  rcases h0 with h0 | h0
  · have d1 : decide (N < 0) = true := by simpa using h0
    go_enter Try.func31, Try.ntmps31
    go_wp2
    go_quiet (fail)
    go_wp2
    go_ret
    exact ⟨rfl, below_drewN ((Below.refl _ _).alloc (Nat.le_refl _) _) _⟩
  · have d1 : decide (N < 0) = false := by simp; omega
    have d2 : decide (65536 < N) = true := by simpa using h0
    go_enter Try.func31, Try.ntmps31
    go_wp2
    go_quiet (fail)
    go_wp2
    go_ret
    exact ⟨rfl, below_drewN ((Below.refl _ _).alloc (Nat.le_refl _) _) _⟩
set_option maxHeartbeats 400000 in
theorem check_len (A : Option Addr) (len cap : Nat) (N : Int) (w : World)
    (h0 : 0 ≤ N) (h1 : N ≤ 65536) (h2 : ((len : Int) != (N + 7) / 8) = true) :
    Calls Try.prog 31 #[.agg #[.slice A len cap, .int .i64 N]] w fun e w' => e = .returned (.int .i64 1) ∧ Below w.heap.size w w' := by
  have d1 : decide (N < 0) = false := by simpa using h0
  have d2 : decide (65536 < N) = false := by simpa using h1
  go_enter Try.func31, Try.ntmps31
  go_wp2
  go_quiet ((go_at_call 57; exact Calls.quiet_of_same ((bytesFor_any _ _ (by omega) (by omega)).mono fun _ _ h => ⟨h.1, h.2.symm⟩)))
  go_wp2
  go_ret
  exact ⟨rfl, below_drewN ((Below.refl _ _).alloc (Nat.le_refl _) _) _⟩
set_option maxHeartbeats 400000 in
theorem check_whole (A : Option Addr) (len cap : Nat) (N : Int) (w : World)
    (h0 : 0 ≤ N) (h1 : N ≤ 65536) (h2 : ((len : Int) != (N + 7) / 8) = false) (h3 : (N % 8 != 0) = false) :
    Calls Try.prog 31 #[.agg #[.slice A len cap, .int .i64 N]] w fun e w' => e = .returned (.int .i64 0) ∧ Below w.heap.size w w' := by
  have d1 : decide (N < 0) = false := by simpa using h0
  have d2 : decide (65536 < N) = false := by simpa using h1
  go_enter Try.func31, Try.ntmps31
  go_wp2
  go_quiet ((go_at_call 57; exact Calls.quiet_of_same ((bytesFor_any _ _ (by omega) (by omega)).mono fun _ _ h => ⟨h.1, h.2.symm⟩)))
  go_wp2
  go_ret
  exact ⟨rfl, below_drewN ((Below.refl _ _).alloc (Nat.le_refl _) _) _⟩
set_option maxHeartbeats 400000 in
theorem check_tail (ad : Addr) (len cap : Nat) (N c : Int) (t : Bool) (w : World) (_hlen : len ≤ 65536) (_hlen1 : 1 ≤ len)
    (h0 : 0 ≤ N) (h1 : N ≤ 65536) (h2 : ((len : Int) != (N + 7) / 8) = false)
    (h3 : (N % 8 != 0) = true) (hlt : (ad.add (len - 1)).block < w.heap.size) (hc : w.cell? (ad.add (len - 1)) = some (.int .u8 c))
    (ht : (c * 2 ^ (N % 8).toNat % 256 != 0) = t) :
    Calls Try.prog 31 #[.agg #[.slice (some ad) len cap, .int .i64 N]] w fun e w' => e = .returned (.int .i64 (if t then 1 else 0)) ∧ Below w.heap.size w w' := by
  have d1 : decide (N < 0) = false := by simpa using h0
  have d2 : decide (65536 < N) = false := by simpa using h1
  cases t
  all_goals
    go_enter Try.func31, Try.ntmps31
    go_wp2
    go_quiet ((go_at_call 57; exact Calls.quiet_of_same ((bytesFor_any _ _ (by omega) (by omega)).mono fun _ _ h => ⟨h.1, h.2.symm⟩)))
    go_wp2
    go_ret
    exact ⟨rfl, below_drewN ((Below.refl _ _).alloc (Nat.le_refl _) _) _⟩
/-- Check tells what okB tells -/
theorem check_any (A : Option Addr) (len cap : Nat) (N : Int) (bs : List Nat) (w : World) (hr : Rd w A len bs) :
    Calls Try.prog 31 #[.agg #[.slice A len cap, .int .i64 N]] w fun e w' => e = .returned (.int .i64 (if okB bs N then 0 else 1)) ∧ Below w.heap.size w w' := by
  have hbs := hr.1
  by_cases h0 : N < 0 ∨ 65536 < N
  · have : okB bs N = false := decide_eq_false (by omega)
    rw [this]
    exact check_low A len cap N w h0
  · by_cases h2 : ((len : Int) = (N + 7) / 8)
    · by_cases h3 : N % 8 = 0
      · have : okB bs N = true := decide_eq_true ⟨by omega, by omega, by omega, fun h => absurd h3 h⟩
        rw [this]
        exact check_whole A len cap N w (by omega) (by omega) (by simpa using h2) (by simpa using h3)
      · obtain ⟨ad, rfl, hb, h256, hc⟩ := hr.at_ (k := len - 1) (by omega)
        have hb' : (ad.add (len - 1)).block < w.heap.size := by rw [block_of_add]; exact hb
        have e : ((bs.getD (len - 1) 0 : Nat) : Int) * 2 ^ (N % 8).toNat % 256 = ((bs.getD (len - 1) 0 * 2 ^ (N % 8).toNat % 256 : Nat) : Int) := by simp
        by_cases h4 : bs.getD (len - 1) 0 * 2 ^ (N % 8).toNat % 256 = 0
        · have : okB bs N = true := decide_eq_true ⟨by omega, by omega, by omega, fun _ => by rw [hbs]; exact h4⟩
          rw [this]
          exact check_tail ad len cap N _ false w (by omega) (by omega) (by omega) (by omega) (by simpa using h2) (by simpa using h3) hb' hc (by rw [e, h4]; rfl)
        · have : okB bs N = false := decide_eq_false (fun h => h4 (by have := h.2.2.2 h3; rw [hbs] at this; exact this))
          rw [this]
          exact check_tail ad len cap N _ true w (by omega) (by omega) (by omega) (by omega) (by simpa using h2) (by simpa using h3) hb' hc (by rw [e]; simp only [bne_iff_ne]; omega)
    · have : okB bs N = false := decide_eq_false (by omega)
      rw [this]
      exact check_len A len cap N w (by omega) (by omega) (by simpa using h2)
theorem check_yes (A : Option Addr) (len cap : Nat) (N : Int) (bs : List Nat) (w : World) (hr : Rd w A len bs) (h : okB bs N = true) :
    Calls Try.prog 31 #[.agg #[.slice A len cap, .int .i64 N]] w fun e w' => e = .returned (.int .i64 0) ∧ Below w.heap.size w w' := by
  have := check_any A len cap N bs w hr
  rw [h] at this
  exact this
theorem check_no (A : Option Addr) (len cap : Nat) (N : Int) (bs : List Nat) (w : World) (hr : Rd w A len bs) (h : okB bs N = false) :
    Calls Try.prog 31 #[.agg #[.slice A len cap, .int .i64 N]] w fun e w' => e = .returned (.int .i64 1) ∧ Below w.heap.size w w' := by
  have := check_any A len cap N bs w hr
  rw [h] at this
  exact this
theorem check_ok (v : Value) (l : List Bool) (w : World) (h : IsB w v l) :
    Calls Try.prog 31 #[v] w fun e w' => e = .returned (.int .i64 0) ∧ Below w.heap.size w w' := by
  obtain ⟨A, c, rfl, hr, hl⟩ := h
  have := check_any A _ c (l.length : Int) _ w hr
  rw [okB_pack l hl] at this
  exact this
end Go.Proofs.Ytgelgbfnioagbaa
/- Wb -/
namespace Go.Proofs.Ytgelgbfnioagbaa
open Go.RowKit
theorem info_u8 : (Try.prog.info? 5).map (fun i => (i.zero, i.size, i.bytes)) = some (some (.int .u8 0), 1, 1) := by kernel_rfl
theorem bytesFor_nat (n m : Nat) (w : World) (h : m = (n + 7) / 8) (h1 : n ≤ 65536) :
    Calls Try.prog 57 #[.int .i64 (n : Int)] w fun e w' => e = .returned (.int .i64 (m : Int)) ∧ w = w' := by
  refine (bytesFor_any (n : Int) w (by omega) (by omega)).mono ?_
  rintro e w' ⟨rfl, rfl⟩
  exact ⟨by rw [h]; simp, rfl⟩
theorem madeZero (m : Nat) : madeCells #[Value.int .u8 0] m = bcells (packF m (bitF [])) := by rw [← bcells_zero]; rfl
theorem number_set (L : List Bool) (m k : Nat) : (packF m (bitF (L.take (8 * k)))).set k (byteF (bitF L) k) = packF m (bitF (L.take (8 * (k + 1)))) := by
  refine List.ext_getElem (by simp [packF_length]) fun j h1 h2 => ?_
  rw [List.getElem_set]
  split
  · rename_i e
    subst e
    simp only [packF, List.getElem_map, List.getElem_range]
    refine byteF_eq fun i hi1 hi2 => ?_
    rw [bitF_take, if_pos (by omega)]
  · rename_i e
    simp only [packF, List.getElem_map, List.getElem_range]
    refine byteF_eq fun i hi1 hi2 => ?_
    rw [bitF_take, bitF_take]
    by_cases h : i < 8 * k
    · rw [if_pos h, if_pos (by omega)]
    · rw [if_neg h, if_neg (by omega)]
set_option maxHeartbeats 400000 in
theorem number_core (v : Int) (H width m : Nat) (L : List Bool) (w : World) (hw : width ≤ 64) (_h0 : 0 ≤ v) (hm : Hid (m = (width + 7) / 8)) (hm8 : m ≤ 8)
    (hH : IntKind.u64.wrap (v * 2 ^ (64 - width)) = (H : Int)) (hL : Hid (∀ j, j < m → H / 2 ^ (56 - 8 * j) % 256 = byteF (bitF L) j)) :
    Calls Try.prog 93 #[.int .u64 v, .int .i64 (width : Int)] w fun e w' => ∃ g, e = .returned (.agg #[.slice (some ⟨g, 0, none⟩) m m, .int .i64 (width : Int)]) ∧ Blk w' g 5 (bcells (packF m (bitF (L.take (8 * m))))) ∧ Below w.heap.size w w' := by
  have hmk := run_make_row' (P := Try.prog) 23 5 (.int .u8 0) 1 Try.underlying23 info_u8 rfl .i64 .i64 m (by omega) (by omega)
  have hw' : (width : Int) ≤ 64 := by omega
  go_enter Try.func93, Try.ntmps93
  go_wp2_with (go_at_call 57; refine (bytesFor_nat _ m _ hm.out (by omega)).mono ?_; rintro e w' ⟨rfl, rfl⟩)
  have HH := Lib.hid hH
  clear hH hmk
  go_loopw [17] (fun i wr => ∃ k : Nat, k ≤ m ∧ i = .int .i64 k ∧ Blk wr (w.heap.size + 1) 5 (bcells (packF m (bitF (L.take (8 * k))))) ∧ Blk wr w.heap.size 25 #[.slice none 0 0, .int .i64 0] ∧ Below w.heap.size w wr)
    (fun i _ => m - (intOf i).toNat)
  case atStart =>
    refine ⟨0, Nat.zero_le _, rfl, ?_, ?_, ?_⟩
    · rw [madeZero, Nat.mul_zero, List.take_zero]
      exact Blk.newAt (by simp)
    · exact (Blk.new _ _ _).alloc _
    · exact ((Below.refl _ _).alloc (Nat.le_refl _) _).alloc (by simp) _
  case round =>
    obtain ⟨k, hk, rfl, hb, hr, hbl⟩ := hrel
    by_cases hlt : k < m
    · have hcell := (hb.cell k).trans (bcells_get (by rw [packF_length]; exact hlt))
      have hfr := hb.frozen k
      have HB := Lib.hid hb
      have HR := Lib.hid hr
      have HBL := Lib.hid hbl
      clear hb hr hbl
      go_wp2
      go_roundw
      case rel =>
        have hx : ((H : Int) / 2 ^ (56 - 8 * k) % 256) = ((byteF (bitF L) k : Nat) : Int) := by rw [← hL.out k hlt]; simp
        refine ⟨k + 1, by omega, by go_num, ?_, HR.out.far (by simp) _, HBL.out.setCell (by simp) _⟩
        have := HB.out.set_ k (.int .u8 ((H : Int) / 2 ^ (56 - 8 * k) % 256))
        rw [hx, bcells_set, number_set] at this
        rw [hx]
        exact this
      case measure => simp [intOf]; omega
    · obtain rfl : k = m := by omega
      have c0 : wr.cell? ⟨w.heap.size, 0, none⟩ = some (.slice none 0 0) := hr.cell 0
      have c1 : wr.cell? ⟨w.heap.size, 1, none⟩ = some (.int .i64 0) := hr.cell 1
      have f0 := hr.frozen 0
      have f1 := hr.frozen 1
      have HB := Lib.hid hb
      have HR := Lib.hid hr
      have HBL := Lib.hid hbl
      clear hb hr hbl
      go_wp2
      refine bodyPost_ret (v := .agg #[.slice (some ⟨w.heap.size + 1, 0, none⟩) k k, .int .i64 (width : Int)]) (by simp [results, Try.results93, go_sem, c0, c1]) rfl ⟨w.heap.size + 1, rfl, ?_, ?_⟩
      · exact (HB.out.far (by simp) _).far (by simp) _
      · exact (HBL.out.setCell (by simp) _).setCell (by simp) _
/-- number answers a number's bits alone -/
theorem number_any (v width : Nat) (w : World) (hw : width ≤ 64) (hv : v < 2 ^ width) :
    Calls Try.prog 93 #[.int .u64 (v : Int), .int .i64 (width : Int)] w fun e w' => ∃ x, e = .returned x ∧ IsB w' x (bitsOf width v) ∧ Below w.heap.size w w' := by
  have hlen := bitsOf_length width v
  have hlt : v * 2 ^ (64 - width) < 2 ^ 64 := by
    have h : v * 2 ^ (64 - width) < 2 ^ width * 2 ^ (64 - width) := Nat.mul_lt_mul_of_pos_right hv (Nat.pow_pos (by omega))
    rwa [← Nat.pow_add, show width + (64 - width) = 64 by omega] at h
  have hH : IntKind.u64.wrap ((v : Int) * 2 ^ (64 - width)) = ((v * 2 ^ (64 - width) : Nat) : Int) := by
    have e : (v : Int) * 2 ^ (64 - width) = ((v * 2 ^ (64 - width) : Nat) : Int) := by simp
    rw [e]
    generalize v * 2 ^ (64 - width) = x at hlt
    rw [IntKind.wrap_u64]
    omega
  refine (number_core v _ width ((width + 7) / 8) (bitsOf width v) w hw (by omega) (Lib.hid rfl) (by omega) hH (Lib.hid fun j hj => byte_of_number width v j hw (by omega))).mono ?_
  rintro e w' ⟨g, rfl, hb, hbl⟩
  have et : (bitsOf width v).take (8 * ((width + 7) / 8)) = bitsOf width v := List.take_of_length_le (by omega)
  have hp : packF ((width + 7) / 8) (bitF (bitsOf width v)) = pack (bitsOf width v) := by unfold pack; rw [hlen]
  rw [et, hp] at hb
  have hpl := pack_length (bitsOf width v)
  rw [hlen] at hpl
  refine ⟨_, rfl, ⟨some ⟨g, 0, none⟩, (width + 7) / 8, by rw [hpl, hlen], Rd.of_blk hb (pack_lt _), by omega⟩, hbl⟩
end Go.Proofs.Ytgelgbfnioagbaa
/- Wc -/
namespace Go.Proofs.Ytgelgbfnioagbaa
open Go.RowKit
theorem size_u8 : (Try.prog.info? 5).map (·.size) = some 1 := by kernel_rfl
set_option maxHeartbeats 400000 in
theorem lay_nothing (g m at_ c : Nat) (A : Option Addr) (w : World) (_hm : m ≤ 8192) (h8 : (((at_ : Int) % 8) == 0) = true) (_hat : at_ / 8 ≤ m) (_hat2 : at_ ≤ 65536) :
    Calls Try.prog 58 #[.slice (some ⟨g, 0, none⟩) m m, .int .i64 (at_ : Int), .slice A 0 c] w fun e w' => e = .returned (.tuple #[]) ∧ w = w' := by
  have hr := fun dp dl dc => run_copy_none (P := Try.prog) w 23 23 3 5 dp A dl dc 0 c Try.underlying23 size_u8 (Nat.zero_min _)
  go_enter Try.func58, Try.ntmps58
  go_wp2
  all_goals exact bodyPost_ret (results_none rfl _ _ _) rfl ⟨rfl, rfl⟩
set_option maxHeartbeats 400000 in
theorem lay_copy (g m at_ n c : Nat) (ad : Addr) (w : World) (cur : Array Value) (cs : List Value) (_hm : m ≤ 8192) (h8 : (((at_ : Int) % 8) == 0) = true) (_hat : at_ / 8 < m) (_hat2 : at_ ≤ 65536)
    (hb : Hid (Blk w g 5 cur)) (hn : Hid (cs.length = Nat.min n (m - at_ / 8))) (hsrc : Hid (∀ j v, cs[j]? = some v → w.cell? (ad.add j) = some v)) (hfit : Hid (at_ / 8 + cs.length ≤ cur.size)) (h1 : Hid (∀ v ∈ cs, v.oneCell' = true)) :
    Calls Try.prog 58 #[.slice (some ⟨g, 0, none⟩) m m, .int .i64 (at_ : Int), .slice (some ad) n c] w fun e w' => e = .returned (.tuple #[]) ∧ w.setRow g (cur.toList.take (at_ / 8) ++ (cs ++ cur.toList.drop (at_ / 8 + cs.length))).toArray = w' := by
  have hr := run_copy_row (P := Try.prog) w 23 23 3 5 g (at_ / 8) (m - at_ / 8) (m - at_ / 8) ad n c cur 5 cs Try.underlying23 size_u8 hb.out hn.out hsrc.out hfit.out h1.out
  go_enter Try.func58, Try.ntmps58
  go_wp2
  exact bodyPost_ret (results_none rfl _ _ _) rfl ⟨rfl, by simp⟩
theorem lay_or1 (x y k : Nat) (hx : x < 256) (hy : y < 256) : bits BinOp.or IntKind.u8 (y : Int) ((x : Int) / 2 ^ k) = ((y ||| x / 2 ^ k : Nat) : Int) := by
  have e : ((x : Int) / 2 ^ k) = ((x / 2 ^ k : Nat) : Int) := by simp
  have hl : x / 2 ^ k ≤ x := Nat.div_le_self _ _
  rw [e, u8_or_nat _ _ hy (by omega)]
theorem lay_or2 (x y k : Nat) (hy : y < 256) : bits BinOp.or IntKind.u8 (y : Int) ((x : Int) * 2 ^ k % 256) = ((y ||| x * 2 ^ k % 256 : Nat) : Int) := by
  have e : ((x : Int) * 2 ^ k % 256) = ((x * 2 ^ k % 256 : Nat) : Int) := by simp
  rw [e, u8_or_nat _ _ hy (Nat.mod_lt _ (by omega))]
set_option maxHeartbeats 400000 in
theorem lay_shift (g m at_ n c : Nat) (A : Option Addr) (l1 l2 : List Bool) (w : World) (_hm : m ≤ 8192) (h8 : (((at_ : Int) % 8) == 0) = false) (_hat2 : at_ ≤ 65536)
    (hl1 : Hid (at_ = l1.length)) (hroom : Hid (at_ + l2.length ≤ 8 * m)) (hn : Hid (n = (l2.length + 7) / 8)) (hn' : n ≤ 8192)
    (hb : Hid (Blk w g 5 (bcells (packF m (bitF l1))))) (hr : Hid (Rd w A n (pack l2))) (hA : Hid (∀ ad, A = some ad → 0 < n → ad.block ≠ g)) :
    Calls Try.prog 58 #[.slice (some ⟨g, 0, none⟩) m m, .int .i64 (at_ : Int), .slice A n c] w fun e w' => e = .returned (.tuple #[]) ∧ Blk w' g 5 (bcells (packF m (bitF (l1 ++ l2)))) ∧ w.grownBy w' (some g) := by
  go_enter Try.func58, Try.ntmps58
  go_wp2
  go_loopw [6, 24] (fun i j wr => ∃ k p : Nat, p = at_ / 8 + k ∧ k ≤ n ∧ j = .int .i64 k ∧ i = .int .i64 p ∧ Blk wr g 5 (bcells (packF m (bitF (l1 ++ l2.take (8 * k))))) ∧ w.grownBy wr (some g))
    (fun _ j _ => n - (intOf j).toNat)
  case atStart =>
    refine ⟨0, at_ / 8, rfl, Nat.zero_le _, rfl, by simp, ?_, World.grownBy.refl _ _⟩
    simpa using hb.out
  case round =>
    obtain ⟨k, p, hp, hk, rfl, rfl, hbk, hgk⟩ := hrel
    have hpm : k < n → p < m := fun h => by have := hroom.out; have := hn.out; omega
    by_cases hlt : k < n
    · have hpm' : p < m := hpm hlt
      clear hpm
      have hrk := hr.out.only hgk hA.out
      obtain ⟨ad, had, hadb, h256, hcs⟩ := hrk.at_ hlt
      obtain ⟨x, hx⟩ : ∃ x, x = (pack l2).getD k 0 := ⟨_, rfl⟩
      rw [← hx] at h256 hcs
      have hlt' : p < (packF m (bitF (l1 ++ l2.take (8 * k)))).length := by rw [packF_length]; exact hpm'
      have hco := (hbk.cell p).trans (bcells_get hlt')
      obtain ⟨y, hy⟩ : ∃ y, y = (packF m (bitF (l1 ++ l2.take (8 * k)))).getD p 0 := ⟨_, rfl⟩
      rw [← hy] at hco
      have hfr := hbk.frozen p
      subst had
      have hx255 : (x : Int) ≤ 255 := by omega
      have hy256 : y < 256 := by rw [hy]; rw [packF_getD _ _ _ hpm']; exact byteF_lt _ _
      have hx' : x = byteF (bitF l2) k := by rw [hx]; exact packF_getD _ _ _ (by have := hn.out; omega)
      have hy' : y = byteF (bitF (l1 ++ l2.take (8 * k))) (l1.length / 8 + k) := by rw [hy, packF_getD _ _ _ hpm', hp, hl1.out]
      by_cases ht : ((x : Int) * 2 ^ (8 - at_ % 8) % 256 != 0) = true
      · have hne : x * 2 ^ (8 - at_ % 8) % 256 ≠ 0 := by
          intro h
          have e : ((x : Int) * 2 ^ (8 - at_ % 8) % 256) = ((x * 2 ^ (8 - at_ % 8) % 256 : Nat) : Int) := by simp
          rw [e, h] at ht
          simp at ht
        have hpm2 : p + 1 < m := by
          have := lay_room l1 l2 k m (by have := hroom.out; have := hl1.out; omega) (by rw [← hx', ← hl1.out]; exact hne)
          have := hl1.out
          omega
        have hco2 := (hbk.cell (p + 1)).trans (bcells_get (by rw [packF_length]; exact hpm2))
        obtain ⟨z, hz⟩ : ∃ z, z = (packF m (bitF (l1 ++ l2.take (8 * k)))).getD (p + 1) 0 := ⟨_, rfl⟩
        rw [← hz] at hco2
        have hfr2 := hbk.frozen (p + 1)
        have hz256 : z < 256 := by rw [hz]; rw [packF_getD _ _ _ hpm2]; exact byteF_lt _ _
        have hz' : z = byteF (bitF (l1 ++ l2.take (8 * k))) (l1.length / 8 + k + 1) := by rw [hz, packF_getD _ _ _ hpm2, hp, hl1.out]
        have HX := Lib.hid hx'
        have HY := Lib.hid hy'
        have HZ := Lib.hid hz'
        have HP := Lib.hid hp
        have HB := Lib.hid hbk
        have HG := Lib.hid hgk
        have hneH := Lib.hid hne
        clear hx hx' hy hy' hz hz' hp hbk hgk hrk hlt' hne hr hA
        go_wp2
        go_region
        all_goals
          go_wp2
          go_roundw
          case rel =>
            go_light
            refine ⟨k + 1, p + 1, by have := HP.out; omega, by omega, by go_num, by go_num, ?_, ?_⟩
            · have := (HB.out.set_ p (.int .u8 ((y ||| x / 2 ^ (at_ % 8) : Nat) : Int))).set_ (p + 1) (.int .u8 ((z ||| x * 2 ^ (8 - at_ % 8) % 256 : Nat) : Int))
              rw [bcells_set, bcells_set] at this
              rw [lay_or1 _ _ _ h256 hy256, lay_or2 _ _ _ hz256]
              rw [HP.out, HX.out, HY.out, HZ.out, hl1.out] at this ⊢
              rw [lay_step2] at this
              exact this
            · exact only_drew (only_setCell (only_setCell HG.out (.inl rfl) _) (.inl rfl) _)
          case measure => simp [intOf]; omega
      · have ht0 : ((x : Int) * 2 ^ (8 - at_ % 8) % 256 != 0) = false := by simpa using ht
        clear ht
        have h0 : x * 2 ^ (8 - at_ % 8) % 256 = 0 := by
          have e : ((x : Int) * 2 ^ (8 - at_ % 8) % 256) = ((x * 2 ^ (8 - at_ % 8) % 256 : Nat) : Int) := by simp
          rw [e] at ht0
          have h := bne_eq_false_iff_eq.1 ht0
          omega
        have HX := Lib.hid hx'
        have HY := Lib.hid hy'
        have HP := Lib.hid hp
        have HB := Lib.hid hbk
        have HG := Lib.hid hgk
        have H0 := Lib.hid h0
        clear hx hx' hy hy' hp hbk hgk hrk hlt' h0 hr hA
        go_wp2
        go_region
        all_goals
          go_wp2
          go_roundw
          case rel =>
            go_light
            refine ⟨k + 1, p + 1, by have := HP.out; omega, by omega, by go_num, by go_num, ?_, ?_⟩
            · have := HB.out.set_ p (.int .u8 ((y ||| x / 2 ^ (at_ % 8) : Nat) : Int))
              have h0 := H0.out
              rw [bcells_set] at this
              rw [lay_or1 _ _ _ h256 hy256]
              rw [HX.out, hl1.out] at h0
              rw [HP.out, HX.out, HY.out, hl1.out] at this ⊢
              rw [lay_step _ _ _ _ h0] at this
              exact this
            · exact only_drew (only_setCell HG.out (.inl rfl) _)
          case measure => simp [intOf]; omega
    · obtain rfl : k = n := by omega
      have HB := Lib.hid hbk
      have HG := Lib.hid hgk
      clear hbk hgk hpm hr hA hp
      go_wp2
      go_light
      go_end0
      refine ⟨rfl, ?_, HG.out⟩
      have e : l2.take (8 * k) = l2 := List.take_of_length_le (by have := hn.out; omega)
      have := HB.out
      rw [e] at this
      exact this
/-- lay writes bits behind bits, where behind them is nothing yet -/
theorem lay_any (g m c : Nat) (A : Option Addr) (l1 l2 : List Bool) (w : World) (hm : m ≤ 8192) (hroom : l1.length + l2.length ≤ 8 * m)
    (hb : Blk w g 5 (bcells (packF m (bitF l1)))) (hr : Rd w A (pack l2).length (pack l2)) (hA : ∀ ad, A = some ad → 0 < (pack l2).length → ad.block ≠ g) :
    Calls Try.prog 58 #[.slice (some ⟨g, 0, none⟩) m m, .int .i64 (l1.length : Int), .slice A (pack l2).length c] w fun e w' => e = .returned (.tuple #[]) ∧ Blk w' g 5 (bcells (packF m (bitF (l1 ++ l2)))) ∧ w.grownBy w' (some g) := by
  have hp := pack_length l2
  by_cases h8 : l1.length % 8 = 0
  · have h8' : (((l1.length : Int) % 8) == 0) = true := by simp only [beq_iff_eq]; omega
    by_cases h0 : l2.length = 0
    · obtain rfl : l2 = [] := List.eq_nil_of_length_eq_zero h0
      refine (lay_nothing g m l1.length c A w hm h8' (by omega) (by omega)).mono ?_
      rintro e w' ⟨rfl, rfl⟩
      exact ⟨rfl, by simpa using hb, World.grownBy.refl _ _⟩
    · obtain ⟨ad, rfl, hc⟩ := hr.2.2 (by omega)
      refine (lay_copy g m l1.length _ c ad w (bcells (packF m (bitF l1))) ((pack l2).map byteV) hm h8' (by omega) (by omega) (Lib.hid hb) (Lib.hid ?_) (Lib.hid ?_) (Lib.hid ?_) (Lib.hid ?_)).mono ?_
      · rw [List.length_map]
        show _ = min _ _
        omega
      · intro j v hv
        rw [List.getElem?_map] at hv
        obtain ⟨x, hx, rfl⟩ := Option.map_eq_some_iff.1 hv
        exact hc j x hx
      · rw [List.length_map, bcells_size, packF_length]; omega
      · intro v hv
        obtain ⟨x, _, rfl⟩ := List.mem_map.1 hv
        rfl
      · rintro e w' ⟨rfl, rfl⟩
        refine ⟨rfl, ?_, ⟨rfl, rfl, rfl, by simp [World.setRow], fun k _ hk => setRow_other w g k _ (fun e => hk (by rw [e]))⟩⟩
        have e1 : (bcells (packF m (bitF l1))).toList.take (l1.length / 8) ++ ((pack l2).map byteV ++ (bcells (packF m (bitF l1))).toList.drop (l1.length / 8 + ((pack l2).map byteV).length)) = (packF m (bitF (l1 ++ l2))).map byteV := by
          rw [← lay_whole l1 l2 m hroom h8, List.map_append, List.map_append, List.map_take, List.map_drop, List.length_map]
          simp [bcells]
        rw [e1]
        exact setRow_heap w g _ _ _ _ hb
  · have h8' : (((l1.length : Int) % 8) == 0) = false := by simp only [beq_eq_false_iff_ne]; omega
    exact lay_shift g m l1.length _ c A l1 l2 w hm h8' (by omega) (Lib.hid rfl) (Lib.hid hroom) (Lib.hid hp) (by omega) (Lib.hid hb) (Lib.hid hr) (Lib.hid hA)
end Go.Proofs.Ytgelgbfnioagbaa
/- Wd -/
namespace Go.Proofs.Ytgelgbfnioagbaa
open Go.RowKit
/-- one of the bits that are joined, as it lies in memory -/
structure It where
  A : Option Addr
  n : Nat
  c : Nat
  N : Int
  bs : List Nat
def It.ok (x : It) : Bool := okB x.bs x.N
def It.bits (x : It) : List Bool := bitsIn x.bs x.N.toNat
/-- the slice '.slice AL n cap' reads as the list xs of bits -/
def RdL (w : World) (AL : Option Addr) (n : Nat) (xs : List It) : Prop :=
  xs.length = n ∧ (0 < n → ∃ L, AL = some L ∧ ∀ j x, xs[j]? = some x → w.cell? (L.add (j * 2)) = some (.slice x.A x.n x.c) ∧ w.cell? ⟨(L.add (j * 2)).block, (L.add (j * 2)).off + 1, none⟩ = some (.int .i64 x.N) ∧ Rd w x.A x.n x.bs)
theorem RdL.below {w w' : World} {AL : Option Addr} {n : Nat} {xs : List It} (h : RdL w AL n xs) (hb : Below w.heap.size w w') : RdL w' AL n xs := by
  refine ⟨h.1, fun hn => ?_⟩
  obtain ⟨L, e, hc⟩ := h.2 hn
  refine ⟨L, e, fun j x hx => ?_⟩
  obtain ⟨h1, h2, h3⟩ := hc j x hx
  exact ⟨(hb.cell (World.block_lt_of_cell? _ _ h1)).trans h1, (hb.cell (World.block_lt_of_cell? _ _ h2)).trans h2, h3.below hb⟩
def sumN (xs : List It) : Int := (xs.map (·.N)).sum
def allBits (xs : List It) : List Bool := xs.flatMap It.bits
theorem sumN_snoc (xs : List It) (x : It) : sumN (xs ++ [x]) = sumN xs + x.N := by simp [sumN]
theorem take_snoc (xs : List It) (k : Nat) (x : It) (h : xs[k]? = some x) : xs.take (k + 1) = xs.take k ++ [x] := by
  obtain ⟨hk, e⟩ := List.getElem?_eq_some_iff.1 h
  rw [List.take_succ_eq_append_getElem hk, e]
theorem allBits_snoc (xs : List It) (x : It) : allBits (xs ++ [x]) = allBits xs ++ x.bits := by simp [allBits]
theorem It.ok_N {x : It} (h : x.ok = true) : 0 ≤ x.N ∧ x.N ≤ 65536 := by
  unfold It.ok okB at h
  have := of_decide_eq_true h
  omega
theorem It.ok_pack {x : It} {w : World} (h : x.ok = true) (hr : Rd w x.A x.n x.bs) : x.bs = pack x.bits ∧ x.N = (x.bits.length : Int) ∧ x.n = (pack x.bits).length := by
  obtain ⟨l, _, h2, h3⟩ := okB_some h hr.2.1
  have e : x.bits = l := by unfold It.bits; rw [h2, h3, Int.toNat_natCast, bitsIn_pack]
  rw [e]
  exact ⟨h2, h3, by rw [← hr.1, h2]⟩
theorem sum_bound (xs : List It) (h : ∀ x ∈ xs, x.ok = true) : 0 ≤ sumN xs ∧ sumN xs ≤ 65536 * (xs.length : Int) := by
  induction xs with
  | nil => simp [sumN]
  | cons x xs ih =>
    have h1 := ih fun y hy => h y (List.mem_cons_of_mem _ hy)
    have h2 := It.ok_N (h x (List.mem_cons_self))
    have e : sumN (x :: xs) = x.N + sumN xs := by simp [sumN]
    rw [e, List.length_cons]
    omega
theorem allBits_length (xs : List It) (h : ∀ x ∈ xs, x.ok = true) : ((allBits xs).length : Int) = sumN xs := by
  induction xs with
  | nil => simp [sumN, allBits]
  | cons x xs ih =>
    have h1 := ih fun y hy => h y (List.mem_cons_of_mem _ hy)
    have h2 := It.ok_N (h x (List.mem_cons_self))
    have e : sumN (x :: xs) = x.N + sumN xs := by simp [sumN]
    have e2 : (allBits (x :: xs)).length = x.bits.length + (allBits xs).length := by simp [allBits]
    have e3 : x.bits.length = x.N.toNat := bitsIn_length _ _
    rw [e, e2]
    omega
def zeroB : Value := .agg #[.slice none 0 0, .int .i64 0]
/-- bits in a block of their own, from block B on -/
def IsN (w : World) (B : Nat) (v : Value) (l : List Bool) : Prop :=
  ∃ g, v = .agg #[.slice (some ⟨g, 0, none⟩) (pack l).length (pack l).length, .int .i64 (l.length : Int)] ∧ B ≤ g ∧ Blk w g 5 (bcells (pack l)) ∧ l.length ≤ 65536
theorem IsN.isB {w : World} {B : Nat} {v : Value} {l : List Bool} (h : IsN w B v l) : IsB w v l := by
  obtain ⟨g, rfl, _, hb, hl⟩ := h
  exact ⟨_, _, rfl, Rd.of_blk hb (pack_lt _), hl⟩
theorem IsN.mono {w : World} {B B' : Nat} {v : Value} {l : List Bool} (h : IsN w B v l) (hB : B' ≤ B) : IsN w B' v l := by
  obtain ⟨g, e, hg, hb, hl⟩ := h
  exact ⟨g, e, by omega, hb, hl⟩
theorem IsN.res {w : World} {B r : Nat} {v : Value} {l : List Bool} (h : IsN w B v l) (hr : r < B) (a b : Value) : IsN ((w.setCell ⟨r, 0, none⟩ a).setCell ⟨r, 1, none⟩ b) B v l := by
  obtain ⟨g, e, hg, hb, hl⟩ := h
  exact ⟨g, e, hg, (hb.far (by simp; omega) _).far (by simp; omega) _, hl⟩
/-- what Join answers -/
def JoinPostN (w : World) (xs : List It) (e : Ending) (w' : World) : Prop :=
  Below w.heap.size w w' ∧
  (((∃ x ∈ xs, x.ok = false) ∧ e = .returned (.tuple #[zeroB, .int .i64 1])) ∨
   ((∀ x ∈ xs, x.ok = true) ∧ 65536 < sumN xs ∧ e = .returned (.tuple #[zeroB, .int .i64 2])) ∨
   ((∀ x ∈ xs, x.ok = true) ∧ sumN xs ≤ 65536 ∧ ∃ v, e = .returned (.tuple #[v, .int .i64 0]) ∧ IsN w' w.heap.size v (allBits xs)))
def JoinPost (w : World) (xs : List It) (e : Ending) (w' : World) : Prop :=
  Below w.heap.size w w' ∧
  (((∃ x ∈ xs, x.ok = false) ∧ e = .returned (.tuple #[zeroB, .int .i64 1])) ∨
   ((∀ x ∈ xs, x.ok = true) ∧ 65536 < sumN xs ∧ e = .returned (.tuple #[zeroB, .int .i64 2])) ∨
   ((∀ x ∈ xs, x.ok = true) ∧ sumN xs ≤ 65536 ∧ ∃ v, e = .returned (.tuple #[v, .int .i64 0]) ∧ IsB w' v (allBits xs)))
theorem join_blk {w wr w1 : World} {o : Obj} {cs : Array Value} (hres : Blk wr w.heap.size 25 cs) (hb : Below (wr.alloc o).heap.size (wr.alloc o) w1) : Blk w1 w.heap.size 25 cs :=
  (hres.alloc o).below hb (hres.alloc o).lt
theorem join_below {w wr w1 : World} {o : Obj} (hbl : Below w.heap.size w wr) (hb : Below (wr.alloc o).heap.size (wr.alloc o) w1) : Below w.heap.size w w1 :=
  (hbl.alloc hbl.size o).trans (hb.mono (by have := hbl.size; simp; omega))
theorem join_res {w wr w1 : World} {o : Obj} (hres : Blk wr w.heap.size 25 #[.slice none 0 0, .int .i64 0]) (hbl : Below w.heap.size w wr) (hb : Below (wr.alloc o).heap.size (wr.alloc o) w1) :
    w1.cell? ⟨w.heap.size, 0, none⟩ = some (.slice none 0 0) ∧ w1.cell? ⟨w.heap.size, 1, none⟩ = some (.int .i64 0) ∧ w1.frozen? ⟨w.heap.size, 0, none⟩ = false ∧ w1.frozen? ⟨w.heap.size, 1, none⟩ = false ∧ Below w.heap.size w w1 :=
  have r1 := join_blk hres hb
  ⟨r1.cell 0, r1.cell 1, r1.frozen 0, r1.frozen 1, join_below hbl hb⟩
theorem join_box {wr w1 : World} {v0 v1 : Value} {t : TypeId} (hb : Below (wr.alloc (.cells #[v0, v1] t)).heap.size (wr.alloc (.cells #[v0, v1] t)) w1) : w1.cell? ⟨wr.heap.size, 1, none⟩ = some v1 :=
  ((Blk.new wr t #[v0, v1]).below hb (Blk.new wr t #[v0, v1]).lt).cell 1
theorem lay_at (g m p n c : Nat) (A : Option Addr) (l1 l2 : List Bool) (w : World) (hm : m ≤ 8192) (hroom : l1.length + l2.length ≤ 8 * m) (hp : p = l1.length) (hn : n = (pack l2).length)
    (hb : Blk w g 5 (bcells (packF m (bitF l1)))) (hr : Rd w A n (pack l2)) (hA : ∀ ad, A = some ad → 0 < n → ad.block ≠ g) :
    Calls Try.prog 58 #[.slice (some ⟨g, 0, none⟩) m m, .int .i64 (p : Int), .slice A n c] w fun e w' => e = .returned (.tuple #[]) ∧ Blk w' g 5 (bcells (packF m (bitF (l1 ++ l2)))) ∧ w.grownBy w' (some g) := by
  subst hp hn
  exact lay_any g m c A l1 l2 w hm hroom hb hr hA
theorem join_laid {w wo w2 w1 : World} {cs : Array Value} {v0 v1 : Value} (hg : wo.heap.size < w2.heap.size) (hgw : w.heap.size < wo.heap.size) (hres : Blk w2 w.heap.size 25 cs) (hbl : Below w.heap.size w w2)
    (hg1 : (w2.alloc (.cells #[v0, v1] 25)).grownBy w1 (some wo.heap.size)) :
    w1.cell? ⟨w2.heap.size, 1, none⟩ = some v1 ∧ Below w.heap.size w w1 ∧ Blk w1 w.heap.size 25 cs := by
  refine ⟨((Blk.new w2 _ #[v0, v1]).only hg1 (by omega)).cell 1, ?_, (hres.alloc _).only hg1 (by omega)⟩
  exact (hbl.alloc hbl.size _).grown hg1 (by have := hbl.size; simp; omega) (by intro k hk; injection hk with hk; omega)
theorem allBits_take_le (xs : List It) (k : Nat) : (allBits (xs.take k)).length ≤ (allBits xs).length := by
  have e : allBits xs = allBits (xs.take k) ++ allBits (xs.drop k) := by
    unfold allBits
    rw [← List.flatMap_append, List.take_append_drop]
  rw [e, List.length_append]
  omega
theorem Rd.lies {w : World} {A : Option Addr} {n : Nat} {bs : List Nat} (h : Rd w A n bs) (hn : 0 < n) : ∀ ad, A = some ad → ad.block < w.heap.size := by
  intro ad e
  obtain ⟨ad', e', hb, _⟩ := h.at_ (k := 0) hn
  rw [e] at e'
  injection e' with e'
  subst e'
  exact hb
set_option maxHeartbeats 1000000 in
theorem joinN_any (AL : Option Addr) (n cap : Nat) (xs : List It) (w : World) (hn : n ≤ 1000000) (hR : Hid (RdL w AL n xs)) :
    Calls Try.prog 32 #[.slice AL n cap] w (JoinPostN w xs) := by
  go_enter Try.func32, Try.ntmps32
  go_wp2
  go_loopw [4, 13] (fun s i wr => ∃ (k : Nat) (S : Int), k ≤ n ∧ i = .int .i64 k ∧ s = .int .i64 S ∧ S = sumN (xs.take k) ∧ (∀ x ∈ xs.take k, x.ok = true) ∧ Blk wr w.heap.size 25 #[.slice none 0 0, .int .i64 0] ∧ Below w.heap.size w wr)
    (fun _ i _ => n - (intOf i).toNat)
  case atStart =>
    refine ⟨0, 0, Nat.zero_le _, rfl, rfl, rfl, by simp, Blk.new _ _ _, (Below.refl _ _).alloc (Nat.le_refl _) _⟩
  case round =>
    obtain ⟨k, S, hk, rfl, rfl, hS, hok, hres, hbl⟩ := hrel
    have hb := sum_bound _ hok
    rw [← hS, List.length_take] at hb
    have hS0 : 0 ≤ S := hb.1
    have hS1 : S ≤ 65536 * 1000000 := by have := hb.2; omega
    by_cases hlt : k < n
    · have hRr := hR.out.below hbl
      obtain ⟨L, hL, hc⟩ := hRr.2 (by omega)
      subst hL
      have hkx : k < xs.length := by have := hRr.1; omega
      obtain ⟨x, hx⟩ : ∃ x, xs[k]? = some x := ⟨_, List.getElem?_eq_getElem hkx⟩
      obtain ⟨c0, c1, hrd⟩ := hc k x hx
      have HR := Lib.hid hrd
      have HS := Lib.hid hS
      have HX := Lib.hid hx
      have HO := Lib.hid hok
      have HRES := Lib.hid hres
      have HBL := Lib.hid hbl
      clear hb hc hrd hS hx hok hres hbl hRr
      cases hxo : x.ok
      · have HXO := Lib.hid hxo
        clear hxo
        go_wp2_with fail
        refine (check_no _ _ _ _ x.bs _ (HR.out.alloc _) HXO.out).mono ?_
        rintro e w1 ⟨rfl, hb1⟩
        obtain ⟨z0, z1, f0, f1, hb2⟩ := join_res HRES.out HBL.out hb1
        have HB2 := Lib.hid hb2
        clear hb1 hb2
        go_wp2
        refine bodyPost_ret (v := .tuple #[zeroB, .int .i64 1]) (by simp [results, Try.results32, go_sem, z0, z1, zeroB]) rfl ⟨?_, .inl ⟨⟨x, List.mem_of_getElem? HX.out, HXO.out⟩, rfl⟩⟩
        exact (HB2.out.setCell (by simp) _).setCell (by simp) _
      · have HXO := Lib.hid hxo
        clear hxo
        have hN := It.ok_N HXO.out
        have hN0 : 0 ≤ x.N := hN.1
        have hN1 : x.N ≤ 65536 := hN.2
        clear hN
        go_wp2_with fail
        refine (check_yes _ _ _ _ x.bs _ (HR.out.alloc _) HXO.out).mono ?_
        rintro e w1 ⟨rfl, hb1⟩
        have y1 := join_box hb1
        have hb2 := join_below HBL.out hb1
        have hr1 := join_blk HRES.out hb1
        have HB2 := Lib.hid hb2
        have HR1 := Lib.hid hr1
        clear hb1 hb2 hr1
        go_wp2
        go_roundw
        case rel =>
          refine ⟨k + 1, S + x.N, by omega, by go_num, rfl, ?_, ?_, HR1.out, HB2.out⟩
          · rw [take_snoc _ _ _ HX.out, sumN_snoc, ← HS.out]
          · rw [take_snoc _ _ _ HX.out]
            intro y hy
            rcases List.mem_append.1 hy with hy | hy
            · exact HO.out y hy
            · rw [List.mem_singleton.1 hy]; exact HXO.out
        case measure => simp [intOf]; omega
    · obtain rfl : k = n := by omega
      have ht : xs.take k = xs := List.take_of_length_le (by have := hR.out.1; omega)
      rw [ht] at hS hok
      have hS' : S = ((allBits xs).length : Int) := by rw [hS, allBits_length xs hok]
      have z0 : wr.cell? ⟨w.heap.size, 0, none⟩ = some (.slice none 0 0) := hres.cell 0
      have z1 : wr.cell? ⟨w.heap.size, 1, none⟩ = some (.int .i64 0) := hres.cell 1
      have f0 := hres.frozen 0
      have f1 := hres.frozen 1
      have HS := Lib.hid hS
      have HO := Lib.hid hok
      have HRES := Lib.hid hres
      have HBL := Lib.hid hbl
      by_cases hlong : 65536 < S
      · clear hb hS hok hres hbl ht hS'
        go_wp2
        refine bodyPost_ret (v := .tuple #[zeroB, .int .i64 2]) (by simp [results, Try.results32, go_sem, z0, z1, zeroB]) rfl ⟨?_, .inr (.inl ⟨HO.out, by rw [← HS.out]; exact hlong, rfl⟩)⟩
        exact (HBL.out.setCell (by simp) _).setCell (by simp) _
      · obtain ⟨T, hT⟩ : ∃ T : Nat, T = (allBits xs).length := ⟨_, rfl⟩
        rw [← hT] at hS'
        subst hS'
        have hT1 : T ≤ 65536 := by omega
        obtain ⟨m, hm⟩ : ∃ m : Nat, m = (T + 7) / 8 := ⟨_, rfl⟩
        have HM := Lib.hid hm
        have HT := Lib.hid hT
        have hm1 : m ≤ 8192 := by omega
        have hd : decide (65536 < (T : Int)) = false := by simp; omega
        clear hb hS hok hres hbl ht hT hm hlong z0 z1 f0 f1
        have hmk := run_make_row' (P := Try.prog) 23 5 (.int .u8 0) 1 Try.underlying23 info_u8 rfl .i64 .i64 m (by omega) (by omega)
        go_wp2_with (go_at_call 57; refine (bytesFor_nat _ m _ HM.out (by omega)).mono ?_; rintro e w' ⟨rfl, rfl⟩)
        clear hmk
        have hgw : w.heap.size < wr.heap.size := HRES.out.lt
        go_loopw [8, 34] (fun a i w2 => ∃ j p : Nat, j ≤ k ∧ i = .int .i64 j ∧ a = .int .i64 p ∧ p = (allBits (xs.take j)).length ∧ Blk w2 wr.heap.size 5 (bcells (packF m (bitF (allBits (xs.take j))))) ∧ Blk w2 w.heap.size 25 #[.slice none 0 0, .int .i64 0] ∧ Below w.heap.size w w2)
          (fun _ i _ => k - (intOf i).toNat)
        case atStart =>
          refine ⟨0, 0, Nat.zero_le _, rfl, rfl, rfl, ?_, HRES.out.alloc _, HBL.out.alloc HBL.out.size _⟩
          rw [madeZero]
          exact Blk.newAt rfl
        case round =>
          obtain ⟨j, p, hj, rfl, rfl, hp, hout, hres, hbl⟩ := hrel
          have hp1 : p ≤ 65536 := by have := allBits_take_le xs j; have := HT.out; omega
          by_cases hlt : j < k
          · have hRr := hR.out.below hbl
            obtain ⟨L, hL, hc⟩ := hRr.2 (by omega)
            subst hL
            have hkx : j < xs.length := by have := hRr.1; omega
            obtain ⟨x, hx⟩ : ∃ x, xs[j]? = some x := ⟨_, List.getElem?_eq_getElem hkx⟩
            obtain ⟨c0, c1, hrd⟩ := hc j x hx
            obtain ⟨e1, e2, e3⟩ := It.ok_pack (HO.out x (List.mem_of_getElem? hx)) hrd
            have hN := It.ok_N (HO.out x (List.mem_of_getElem? hx))
            have hN0 : 0 ≤ x.N := hN.1
            have hN1 : x.N ≤ 65536 := hN.2
            have hl : (allBits (xs.take (j + 1))).length ≤ T := by have := allBits_take_le xs (j + 1); have := HT.out; omega
            rw [take_snoc _ _ _ hx, allBits_snoc, List.length_append] at hl
            have hA0 : ∀ ad, x.A = some ad → 0 < x.n → ad.block < w.heap.size := fun ad e hn => by
              obtain ⟨L', _, hc'⟩ := hR.out.2 (by omega)
              exact (hc' j x hx).2.2.lies hn ad e
            have HA0 := Lib.hid hA0
            have HL := Lib.hid hl
            have HE1 := Lib.hid e1
            have HE2 := Lib.hid e2
            have HE3 := Lib.hid e3
            have HRD := Lib.hid hrd
            have HX := Lib.hid hx
            have HP := Lib.hid hp
            have HOUT := Lib.hid hout
            have HRES2 := Lib.hid hres
            have HBL2 := Lib.hid hbl
            clear hN hc hrd hx hp hout hres hbl hRr e1 e2 e3 hl hA0
            go_wp2_with fail
            refine (lay_at _ m p _ _ _ (allBits (xs.take j)) x.bits _ hm1 (by have := HL.out; have := HM.out; omega) HP.out HE3.out (HOUT.out.alloc _) (by have := HRD.out.alloc (.cells #[.slice x.A x.n x.c, .int .i64 x.N] 25); rw [HE1.out] at this; exact this) ?_).mono ?_
            · intro ad e hn
              have := HA0.out ad e hn
              omega
            rintro e w1 ⟨rfl, hb1, hg1⟩
            obtain ⟨y1, hb2, hr1⟩ := join_laid HOUT.out.lt hgw HRES2.out HBL2.out hg1
            have HB1 := Lib.hid hb1
            have HB2 := Lib.hid hb2
            have HR1 := Lib.hid hr1
            clear hb1 hg1 hb2 hr1
            go_wp2
            go_roundw
            case rel =>
              refine ⟨j + 1, p + x.bits.length, by omega, by go_num, ?_, ?_, ?_, HR1.out, HB2.out⟩
              · rw [HE2.out]; go_num
              · rw [take_snoc _ _ _ HX.out, allBits_snoc, List.length_append, HP.out]
              · rw [take_snoc _ _ _ HX.out, allBits_snoc]; exact HB1.out
            case measure => simp [intOf]; omega
          · obtain rfl : j = k := by omega
            have ht : xs.take j = xs := List.take_of_length_le (by have := hR.out.1; omega)
            rw [ht] at hp hout
            have z0 : wr.cell? ⟨w.heap.size, 0, none⟩ = some (.slice none 0 0) := hres.cell 0
            have z1 : wr.cell? ⟨w.heap.size, 1, none⟩ = some (.int .i64 0) := hres.cell 1
            have f0 := hres.frozen 0
            have f1 := hres.frozen 1
            have HP := Lib.hid hp
            have HOUT := Lib.hid hout
            have HBL2 := Lib.hid hbl
            clear hp hout hres hbl ht
            go_wp2
            have eT : (T : Int) = ((allBits xs).length : Int) := by rw [HT.out]
            have hpk : packF m (bitF (allBits xs)) = pack (allBits xs) := by unfold pack; rw [HM.out, HT.out]
            have hpl : (pack (allBits xs)).length = m := by rw [pack_length, HM.out, HT.out]
            refine bodyPost_ret (v := .tuple #[.agg #[.slice (some ⟨_, 0, none⟩) m m, .int .i64 (T : Int)], .int .i64 0]) (by simp [results, Try.results32, go_sem, z0, z1]; rfl) rfl ⟨?_, .inr (.inr ⟨HO.out, by rw [← HS.out]; omega, _, rfl, ?_⟩)⟩
            · exact (HBL2.out.setCell (by simp) _).setCell (by simp) _
            · have hb := HOUT.out
              rw [hpk] at hb
              exact ⟨_, by rw [eT, hpl], Nat.le_of_lt hgw, (hb.far (by simp; omega) _).far (by simp; omega) _, by have := HT.out; omega⟩
theorem JoinPostN.plain {w w' : World} {xs : List It} {e : Ending} (h : JoinPostN w xs e w') : JoinPost w xs e w' := by
  obtain ⟨hb, h | h | ⟨h1, h2, v, h3, h4⟩⟩ := h
  · exact ⟨hb, .inl h⟩
  · exact ⟨hb, .inr (.inl h)⟩
  · exact ⟨hb, .inr (.inr ⟨h1, h2, v, h3, h4.isB⟩)⟩
theorem join_any (AL : Option Addr) (n cap : Nat) (xs : List It) (w : World) (hn : n ≤ 1000000) (hR : Hid (RdL w AL n xs)) :
    Calls Try.prog 32 #[.slice AL n cap] w (JoinPost w xs) :=
  (joinN_any AL n cap xs w hn hR).mono fun _ _ h => h.plain
end Go.Proofs.Ytgelgbfnioagbaa
/- We -/
namespace Go.Proofs.Ytgelgbfnioagbaa
open Go.RowKit
/-- a store into a cell that holds no byte leaves bytes alone -/
theorem Rd.setCell {w : World} {A : Option Addr} {n : Nat} {bs : List Nat} (h : Rd w A n bs) {p : Addr} (u : Value) (hp : ∀ x, w.cell? p ≠ some (byteV x)) : Rd (w.setCell p u) A n bs :=
  ⟨h.1, h.2.1, fun hn => by
    obtain ⟨ad, e, hc⟩ := h.2.2 hn
    refine ⟨ad, e, fun j x hx => ?_⟩
    have hcell := hc j x hx
    rw [World.cell?_setCell_other w p (ad.add j) u (fun e => hp x (by rw [e]; exact hcell))]
    exact hcell⟩
theorem IsB.res {w : World} {v : Value} {l : List Bool} (h : IsB w v l) {r : Nat} {A : Option Addr} {n c : Nat} {N : Int} (h0 : w.cell? ⟨r, 0, none⟩ = some (.slice A n c)) (h1 : w.cell? ⟨r, 1, none⟩ = some (.int .i64 N)) (a b : Value) :
    IsB ((w.setCell ⟨r, 0, none⟩ a).setCell ⟨r, 1, none⟩ b) v l := by
  obtain ⟨A, c, rfl, hr, hl⟩ := h
  refine ⟨A, c, rfl, (hr.setCell a (fun x => by rw [h0]; simp [byteV])).setCell b (fun x => ?_), hl⟩
  rw [World.cell?_setCell_other w ⟨r, 0, none⟩ ⟨r, 1, none⟩ a (by simp), h1]
  simp [byteV]
/-- an answer that is bits and an error -/
def BOut (w : World) (Q : Value → Int → World → Prop) (e : Ending) (w' : World) : Prop :=
  ∃ A n c N er, e = .returned (.tuple #[.agg #[.slice A n c, .int .i64 N], .int .i64 er]) ∧ Below w.heap.size w w' ∧ Q (.agg #[.slice A n c, .int .i64 N]) er w'
/-- bits that are not too many, in a block of their own, or too long -/
def JQ (B : Nat) (l : List Bool) (v : Value) (er : Int) (w' : World) : Prop :=
  (l.length ≤ 65536 ∧ er = 0 ∧ IsN w' B v l) ∨ (65536 < l.length ∧ er = 2 ∧ v = zeroB)
theorem JQ.res {B r : Nat} {l : List Bool} {v : Value} {er : Int} {w : World} (h : JQ B l v er w) (hr : r < B) (a b : Value) :
    JQ B l v er ((w.setCell ⟨r, 0, none⟩ a).setCell ⟨r, 1, none⟩ b) := by
  rcases h with ⟨h2, h3, h4⟩ | h
  · exact .inl ⟨h2, h3, h4.res hr a b⟩
  · exact .inr h
theorem JQ.mono {B B' : Nat} {l : List Bool} {v : Value} {er : Int} {w : World} (h : JQ B l v er w) (hB : B' ≤ B) : JQ B' l v er w := by
  rcases h with ⟨h2, h3, h4⟩ | h
  · exact .inl ⟨h2, h3, h4.mono hB⟩
  · exact .inr h
/-- Join, where all may be -/
theorem join_out (AL : Option Addr) (n cap : Nat) (xs : List It) (w : World) (hn : n ≤ 1000000) (hR : RdL w AL n xs) (hok : ∀ x ∈ xs, x.ok = true) :
    Calls Try.prog 32 #[.slice AL n cap] w (BOut w (JQ w.heap.size (allBits xs))) := by
  refine (joinN_any AL n cap xs w hn (Lib.hid hR)).mono ?_
  rintro e w' ⟨hb, h⟩
  have hl := allBits_length xs hok
  rcases h with ⟨⟨x, hx, hf⟩, _⟩ | ⟨_, h2, rfl⟩ | ⟨_, h2, v, rfl, hB⟩
  · rw [hok x hx] at hf; cases hf
  · exact ⟨_, _, _, _, _, rfl, hb, .inr ⟨by omega, rfl, rfl⟩⟩
  · have hB' := hB
    obtain ⟨g, rfl, _, _, _⟩ := hB'
    exact ⟨_, _, _, _, _, rfl, hb, .inl ⟨by omega, rfl, hB⟩⟩
def It.of (A : Option Addr) (c : Nat) (l : List Bool) : It := ⟨A, (pack l).length, c, (l.length : Int), pack l⟩
theorem It.of_ok (A : Option Addr) (c : Nat) (l : List Bool) (h : l.length ≤ 65536) : (It.of A c l).ok = true := okB_pack l h
theorem It.of_bits (A : Option Addr) (c : Nat) (l : List Bool) : (It.of A c l).bits = l := by simp [It.bits, It.of, bitsIn_pack]
/-- two, laid side by side -/
theorem RdL.two {w : World} {g : Nat} {A1 A2 : Option Addr} {c1 c2 n1 n2 : Nat} {l1 l2 : List Bool} {t : TypeId} (e1 : n1 = (pack l1).length) (e2 : n2 = (pack l2).length) (h1 : Rd w A1 n1 (pack l1)) (h2 : Rd w A2 n2 (pack l2))
    (hb : Blk w g t #[.slice A1 n1 c1, .int .i64 (l1.length : Int), .slice A2 n2 c2, .int .i64 (l2.length : Int)]) :
    RdL w (some ⟨g, 0, none⟩) 2 [It.of A1 c1 l1, It.of A2 c2 l2] := by
  subst e1 e2
  refine ⟨rfl, fun _ => ⟨_, rfl, fun j x hx => ?_⟩⟩
  match j, hx with
  | 0, hx =>
    simp only [List.getElem?_cons_zero, Option.some.injEq] at hx
    subst hx
    refine ⟨?_, ?_, h1⟩
    · rw [add_own, hb.cell]; rfl
    · rw [add_own]; exact (hb.cell 1).trans rfl
  | 1, hx =>
    simp only [List.getElem?_cons_succ, List.getElem?_cons_zero, Option.some.injEq] at hx
    subst hx
    refine ⟨?_, ?_, h2⟩
    · rw [add_own, hb.cell]; rfl
    · rw [add_own]; exact (hb.cell 3).trans rfl
theorem bitLen_le_iff (v w : Nat) (hv : v < 2 ^ 64) (hw : w ≤ 64) : Lib.bitLen v ≤ w ↔ v < 2 ^ w := by
  constructor
  · intro h
    have key : ∀ (f x : Nat), x < 2 ^ f → x < 2 ^ Lib.bitLenAux f x := by
      intro f
      induction f with
      | zero => intro x hx; simpa [Lib.bitLenAux] using hx
      | succ f ih =>
        intro x hx
        simp only [Lib.bitLenAux]
        split
        · rename_i h0; subst h0; simp
        · have := ih (x / 2) (by rw [Nat.pow_succ] at hx; omega)
          rw [Nat.add_comm, Nat.pow_succ]
          omega
    exact Nat.lt_of_lt_of_le (key 64 v hv) (Nat.pow_le_pow_right (by omega) h)
  · intro h
    exact Lib.bitLen_le v w hw h
theorem undrew {B : Nat} {w w' : World} (h : Below B w.drew w') : Below B w w' := ⟨h.os, h.tape, h.output, h.size, h.block⟩
theorem len64_nat (v k : Nat) (w : World) (hv : v < 2 ^ 64) (hk : k = Lib.bitLen v) :
    Calls Try.prog 92 #[.int .u64 (v : Int)] w fun e w' => e = .returned (.int .i64 (k : Int)) ∧ w = w' := by
  refine (len64_any v w (by omega) (by omega)).mono ?_
  rintro e w' ⟨rfl, rfl⟩
  rw [Int.toNat_natCast, hk]
  exact ⟨rfl, rfl⟩
/-- what lies in the box and in the result's cell behind a call -/
def Two (w : World) (b : Nat) (v0 v1 : Value) (w1 : World) : Prop :=
  Blk w1 b 25 #[v0, v1] ∧ Blk w1 (b + 1) 25 #[.slice none 0 0, .int .i64 0] ∧ Below b w w1
theorem Two.start (w : World) (v0 v1 : Value) : Two w w.heap.size v0 v1 ((w.alloc (.cells #[v0, v1] 25)).alloc (.cells #[.slice none 0 0, .int .i64 0] 25)) :=
  ⟨(Blk.new _ _ _).alloc _, Blk.newAt (by simp), ((Below.refl _ _).alloc (Nat.le_refl _) _).alloc (by simp) _⟩
theorem Two.next {w w1 w2 : World} {b : Nat} {v0 v1 : Value} (h : Two w b v0 v1 w1) (hb : Below w1.heap.size w1 w2) : Two w b v0 v1 w2 :=
  ⟨h.1.below hb h.1.lt, h.2.1.below hb h.2.1.lt, h.2.2.trans (hb.mono (Nat.le_of_lt h.1.lt))⟩
theorem Two.alloc {w w1 : World} {b : Nat} {v0 v1 : Value} (h : Two w b v0 v1 w1) (o : Obj) : Two w b v0 v1 (w1.alloc o) :=
  ⟨h.1.alloc o, h.2.1.alloc o, h.2.2.alloc (Nat.le_of_lt h.1.lt) o⟩
theorem Two.cells {w w1 : World} {b : Nat} {v0 v1 : Value} (h : Two w b v0 v1 w1) : w1.cell? ⟨b, 0, none⟩ = some v0 ∧ w1.cell? ⟨b, 1, none⟩ = some v1 := ⟨h.1.cell 0, h.1.cell 1⟩
theorem Two.res {w w1 : World} {b : Nat} {v0 v1 : Value} (h : Two w b v0 v1 w1) :
    w1.cell? ⟨b + 1, 0, none⟩ = some (.slice none 0 0) ∧ w1.cell? ⟨b + 1, 1, none⟩ = some (.int .i64 0) ∧ w1.frozen? ⟨b + 1, 0, none⟩ = false ∧ w1.frozen? ⟨b + 1, 1, none⟩ = false := ⟨h.2.1.cell 0, h.2.1.cell 1, h.2.1.frozen 0, h.2.1.frozen 1⟩
theorem join_two (A1 A2 : Option Addr) (c1 c2 n1 n2 : Nat) (l1 l2 : List Bool) (w : World) (e1 : n1 = (pack l1).length) (e2 : n2 = (pack l2).length) (h1 : Rd w A1 n1 (pack l1)) (h2 : Rd w A2 n2 (pack l2)) (hl1 : l1.length ≤ 65536) (hl2 : l2.length ≤ 65536) :
    Calls Try.prog 32 #[.slice (some ⟨w.heap.size, 0, none⟩) 2 2] (w.alloc (.cells #[.slice A1 n1 c1, .int .i64 (l1.length : Int), .slice A2 n2 c2, .int .i64 (l2.length : Int)] 25))
      (BOut (w.alloc (.cells #[.slice A1 n1 c1, .int .i64 (l1.length : Int), .slice A2 n2 c2, .int .i64 (l2.length : Int)] 25)) (JQ (w.alloc (.cells #[.slice A1 n1 c1, .int .i64 (l1.length : Int), .slice A2 n2 c2, .int .i64 (l2.length : Int)] 25)).heap.size (l1 ++ l2))) := by
  have h := join_out (some ⟨w.heap.size, 0, none⟩) 2 2 [It.of A1 c1 l1, It.of A2 c2 l2] _ (by omega) (RdL.two e1 e2 (h1.alloc _) (h2.alloc _) (Blk.new w 25 _)) (by
    intro x hx
    rcases List.mem_cons.1 hx with rfl | hx
    · exact It.of_ok _ _ _ hl1
    · rcases List.mem_cons.1 hx with rfl | hx
      · exact It.of_ok _ _ _ hl2
      · cases hx)
  have e : allBits [It.of A1 c1 l1, It.of A2 c2 l2] = l1 ++ l2 := by simp [allBits, It.of_bits]
  rw [e] at h
  exact h
set_option maxHeartbeats 1000000 in
theorem put_core (A : Option Addr) (n c : Nat) (l : List Bool) (v width k : Nat) (w : World) (hr : Hid (Rd w A n (pack l))) (hn : Hid (n = (pack l).length)) (hl : l.length ≤ 65536)
    (hw : width ≤ 64) (hv : Hid (v < 2 ^ width)) (hv64 : Hid (v < 2 ^ 64)) (hk : Hid (k = Lib.bitLen v)) (hkw : k ≤ width) :
    Calls Try.prog 89 #[.agg #[.slice A n c, .int .i64 (l.length : Int)], .int .u64 (v : Int), .int .i64 (width : Int)] w (BOut w (JQ w.heap.size (l ++ bitsOf width v))) := by
  have hd1 : decide ((0 : Int) ≤ (width : Int) ∧ (width : Int) ≤ 64) = true := by simp; omega
  go_enter Try.func89, Try.ntmps89
  go_wp2_with fail
  refine (check_yes _ _ _ _ (pack l) _ ((hr.out.alloc _).alloc _) (okB_pack l hl)).mono ?_
  rintro e w1 ⟨rfl, hb1⟩
  have T1 := (Two.start w (.slice A n c) (.int .i64 (l.length : Int))).next hb1
  have hr1 := ((hr.out.alloc _).alloc _).below hb1
  have H1 := Lib.hid T1
  have HR1 := Lib.hid hr1
  clear T1 hr1 hb1
  go_wp2_with (first
    | (go_at_call 85; refine (isWidth_any _ _).mono ?_; rintro e w' ⟨rfl, rfl⟩)
    | (go_at_call 92; refine (len64_nat v k _ hv64.out hk.out).mono ?_; rintro e w' ⟨rfl, rfl⟩))
  obtain ⟨b0, b1⟩ := H1.out.cells
  have HL := Lib.hid hl
  clear hd1 hl
  go_region_with (first
    | (go_at_call 93
       refine (number_any v width _ hw hv.out).mono ?_
       rintro e w2 ⟨x, rfl, ⟨A2, c2, rfl, hr2, hl2⟩, hb2⟩
       obtain ⟨b20, b21⟩ := (H1.out.next (undrew hb2)).cells
       have H2 := Lib.hid (H1.out.next (undrew hb2))
       have HR12 := Lib.hid (HR1.out.below (undrew hb2))
       have HR2 := Lib.hid hr2
       have HL2 := Lib.hid hl2
       clear hr2 hl2 hb2)
    | (go_at_call 32
       refine (join_two A A2 c c2 n _ l _ _ hn.out rfl HR12.out HR2.out HL.out HL2.out).mono ?_
       rintro e w3 ⟨A3, n3, c3, N3, er, rfl, hb3, hq⟩
       obtain ⟨y0, y1, y2, y3⟩ := ((H2.out.alloc _).next hb3).res
       have H3 := Lib.hid ((H2.out.alloc _).next hb3)
       have HQ := Lib.hid hq
       clear hb3 hq))
  all_goals
    go_wp2
    refine bodyPost_ret (v := .tuple #[.agg #[.slice A3 n3 c3, .int .i64 N3], .int .i64 er]) (by simp [results, Try.results89, go_sem, y0, y1]) rfl ⟨_, _, _, _, _, rfl, ?_, ?_⟩
    · exact (H3.out.2.2.setCell (by simp) _).setCell (by simp) _
    · exact (HQ.out.res (by have := H2.out.2.1.lt; simp; omega) _ _).mono (by have := H2.out.2.1.lt; simp; omega)
end Go.Proofs.Ytgelgbfnioagbaa
/- Wf -/
namespace Go.Proofs.Ytgelgbfnioagbaa
open Go.RowKit
/-- a number's code -/
def codeOf (v : Nat) : List Bool := bitsOf (Lib.bitLen (v + 1) - 1) 0 ++ bitsOf (Lib.bitLen (v + 1)) (v + 1)
theorem number_at (x wd : Int) (v width : Nat) (w : World) (hx : x = (v : Int)) (hwd : wd = (width : Int)) (hw : width ≤ 64) (hv : v < 2 ^ width) :
    Calls Try.prog 93 #[.int .u64 x, .int .i64 wd] w fun e w' => ∃ x, e = .returned x ∧ IsB w' x (bitsOf width v) ∧ Below w.heap.size w w' := by
  subst hx hwd
  exact number_any v width w hw hv
theorem RdL.three {w : World} {g : Nat} {A1 A2 A3 : Option Addr} {c1 c2 c3 n1 n2 n3 : Nat} {l1 l2 l3 : List Bool} {t : TypeId} (e1 : n1 = (pack l1).length) (e2 : n2 = (pack l2).length) (e3 : n3 = (pack l3).length)
    (h1 : Rd w A1 n1 (pack l1)) (h2 : Rd w A2 n2 (pack l2)) (h3 : Rd w A3 n3 (pack l3))
    (hb : Blk w g t #[.slice A1 n1 c1, .int .i64 (l1.length : Int), .slice A2 n2 c2, .int .i64 (l2.length : Int), .slice A3 n3 c3, .int .i64 (l3.length : Int)]) :
    RdL w (some ⟨g, 0, none⟩) 3 [It.of A1 c1 l1, It.of A2 c2 l2, It.of A3 c3 l3] := by
  subst e1 e2 e3
  refine ⟨rfl, fun _ => ⟨_, rfl, fun j x hx => ?_⟩⟩
  match j, hx with
  | 0, hx =>
    simp only [List.getElem?_cons_zero, Option.some.injEq] at hx
    subst hx
    refine ⟨?_, ?_, h1⟩
    · rw [add_own, hb.cell]; rfl
    · rw [add_own]; exact (hb.cell 1).trans rfl
  | 1, hx =>
    simp only [List.getElem?_cons_succ, List.getElem?_cons_zero, Option.some.injEq] at hx
    subst hx
    refine ⟨?_, ?_, h2⟩
    · rw [add_own, hb.cell]; rfl
    · rw [add_own]; exact (hb.cell 3).trans rfl
  | 2, hx =>
    simp only [List.getElem?_cons_succ, List.getElem?_cons_zero, Option.some.injEq] at hx
    subst hx
    refine ⟨?_, ?_, h3⟩
    · rw [add_own, hb.cell]; rfl
    · rw [add_own]; exact (hb.cell 5).trans rfl
theorem join_three (A1 A2 A3 : Option Addr) (c1 c2 c3 n1 n2 n3 : Nat) (l1 l2 l3 : List Bool) (w : World) (e1 : n1 = (pack l1).length) (e2 : n2 = (pack l2).length) (e3 : n3 = (pack l3).length)
    (h1 : Rd w A1 n1 (pack l1)) (h2 : Rd w A2 n2 (pack l2)) (h3 : Rd w A3 n3 (pack l3)) (hl1 : l1.length ≤ 65536) (hl2 : l2.length ≤ 65536) (hl3 : l3.length ≤ 65536) :
    Calls Try.prog 32 #[.slice (some ⟨w.heap.size, 0, none⟩) 3 3] (w.alloc (.cells #[.slice A1 n1 c1, .int .i64 (l1.length : Int), .slice A2 n2 c2, .int .i64 (l2.length : Int), .slice A3 n3 c3, .int .i64 (l3.length : Int)] 25))
      (BOut (w.alloc (.cells #[.slice A1 n1 c1, .int .i64 (l1.length : Int), .slice A2 n2 c2, .int .i64 (l2.length : Int), .slice A3 n3 c3, .int .i64 (l3.length : Int)] 25)) (JQ (w.alloc (.cells #[.slice A1 n1 c1, .int .i64 (l1.length : Int), .slice A2 n2 c2, .int .i64 (l2.length : Int), .slice A3 n3 c3, .int .i64 (l3.length : Int)] 25)).heap.size (l1 ++ (l2 ++ l3)))) := by
  have h := join_out (some ⟨w.heap.size, 0, none⟩) 3 3 [It.of A1 c1 l1, It.of A2 c2 l2, It.of A3 c3 l3] _ (by omega) (RdL.three e1 e2 e3 (h1.alloc _) (h2.alloc _) (h3.alloc _) (Blk.new w 25 _)) (by
    intro x hx
    rcases List.mem_cons.1 hx with rfl | hx
    · exact It.of_ok _ _ _ hl1
    · rcases List.mem_cons.1 hx with rfl | hx
      · exact It.of_ok _ _ _ hl2
      · rcases List.mem_cons.1 hx with rfl | hx
        · exact It.of_ok _ _ _ hl3
        · cases hx)
  have e : allBits [It.of A1 c1 l1, It.of A2 c2 l2, It.of A3 c3 l3] = l1 ++ (l2 ++ l3) := by simp [allBits, It.of_bits]
  rw [e] at h
  exact h
theorem bitLen_pos (v : Nat) (h : 0 < v) : 1 ≤ Lib.bitLen v := by
  unfold Lib.bitLen
  rw [show (64 : Nat) = 63 + 1 from rfl]
  simp only [Lib.bitLenAux]
  rw [if_neg (by omega)]
  omega
theorem len64_at (x : Int) (v q : Nat) (w : World) (hx : x = (v : Int)) (hv : v < 2 ^ 64) (hk : q + 1 = Lib.bitLen v) :
    Calls Try.prog 92 #[.int .u64 x] w fun e w' => e = .returned (.int .i64 ((q : Int) + 1)) ∧ w = w' := by
  subst hx
  refine (len64_nat v (q + 1) w hv hk).mono ?_
  rintro e w' ⟨rfl, rfl⟩
  exact ⟨by simp, rfl⟩
theorem put_any (v : Value) (l : List Bool) (x width : Nat) (w : World) (h : IsB w v l) (hw : width ≤ 64) (hx : x < 2 ^ width) :
    Calls Try.prog 89 #[v, .int .u64 (x : Int), .int .i64 (width : Int)] w (BOut w (JQ w.heap.size (l ++ bitsOf width x))) := by
  obtain ⟨A, c, rfl, hr, hl⟩ := h
  have h64 : x < 2 ^ 64 := Nat.lt_of_lt_of_le hx (Nat.pow_le_pow_right (by omega) hw)
  exact put_core A _ c l x width (Lib.bitLen x) w (Lib.hid hr) (Lib.hid rfl) hl hw (Lib.hid hx) (Lib.hid h64) (Lib.hid rfl) ((bitLen_le_iff x width h64 hw).2 hx)
end Go.Proofs.Ytgelgbfnioagbaa
/- Wg -/
namespace Go.Proofs.Ytgelgbfnioagbaa
open Go.RowKit
/-- the box of the first argument, and what was there -/
def One (w : World) (b : Nat) (v0 v1 : Value) (w1 : World) : Prop :=
  Blk w1 b 25 #[v0, v1] ∧ Below b w w1
theorem One.start (w : World) (v0 v1 : Value) : One w w.heap.size v0 v1 (w.alloc (.cells #[v0, v1] 25)) :=
  ⟨Blk.new _ _ _, (Below.refl _ _).alloc (Nat.le_refl _) _⟩
theorem One.next {w w1 w2 : World} {b : Nat} {v0 v1 : Value} (h : One w b v0 v1 w1) (hb : Below w1.heap.size w1 w2) : One w b v0 v1 w2 :=
  ⟨h.1.below hb h.1.lt, h.2.trans (hb.mono (Nat.le_of_lt h.1.lt))⟩
theorem One.alloc {w w1 : World} {b : Nat} {v0 v1 : Value} (h : One w b v0 v1 w1) (o : Obj) : One w b v0 v1 (w1.alloc o) :=
  ⟨h.1.alloc o, h.2.alloc (Nat.le_of_lt h.1.lt) o⟩
theorem One.cells {w w1 : World} {b : Nat} {v0 v1 : Value} (h : One w b v0 v1 w1) : w1.cell? ⟨b, 0, none⟩ = some v0 ∧ w1.cell? ⟨b, 1, none⟩ = some v1 := ⟨h.1.cell 0, h.1.cell 1⟩
theorem isWidth_yes (n : Int) (w : World) (h0 : 0 ≤ n) (h1 : n ≤ 64) :
    Calls Try.prog 85 #[.int .i64 n] w fun e w' => e = .returned (.bool true) ∧ w = w' := by
  have := isWidth_any n w
  rw [decide_eq_true (⟨h0, h1⟩ : 0 ≤ n ∧ n ≤ 64)] at this
  exact this
theorem isWidth_no (n : Int) (w : World) (h : ¬ (0 ≤ n ∧ n ≤ 64)) :
    Calls Try.prog 85 #[.int .i64 n] w fun e w' => e = .returned (.bool false) ∧ w = w' := by
  have := isWidth_any n w
  rw [decide_eq_false h] at this
  exact this
theorem bit_n (v : Value) (l : List Bool) (x : Int) (i t : Nat) (w : World) (h : IsB w v l) (hi : i < l.length) (hx : x = (i : Int)) (ht : t = (bitF l i).toNat) :
    Calls Try.prog 86 #[v, .int .i64 x] w fun e w' => e = .returned (.int .u64 (t : Int)) ∧ Below w.heap.size w w' := by
  subst hx ht
  exact bit_any v l i w h hi
theorem get_or (V t : Nat) (h : V * 2 < 18446744073709551616) (ht : t < 2) : bits BinOp.or IntKind.u64 ((V : Int) * 2) (t : Int) = ((2 * V + t : Nat) : Int) := by
  have e : (V : Int) * 2 = ((V * 2 : Nat) : Int) := by simp
  rw [e, u64_or_nat _ _ h (by omega), nat_join 1 (V * 2) t (by omega) (by omega)]
  congr 1
  omega
theorem num_take_succ (l : List Bool) (a k : Nat) (h : a + k < l.length) : num ((l.drop a).take (k + 1)) = 2 * num ((l.drop a).take k) + (bitF l (a + k)).toNat := by
  have hk : k < (l.drop a).length := by rw [List.length_drop]; omega
  rw [List.take_succ_eq_append_getElem hk, num_snoc]
  congr 2
  simp [bitF, List.getD_eq_getElem?_getD, h]
theorem num_take_lt (l : List Bool) (a k : Nat) : num ((l.drop a).take k) < 2 ^ k :=
  Nat.lt_of_lt_of_le (num_lt _) (Nat.pow_le_pow_right (by omega) (List.length_take_le _ _))
set_option maxHeartbeats 1000000 in
theorem get_core (A : Option Addr) (n c : Nat) (l : List Bool) (a wd : Nat) (w : World) (hB : Hid (IsB w (.agg #[.slice A n c, .int .i64 (l.length : Int)]) l)) (hr : Hid (Rd w A n (pack l))) (hl : l.length ≤ 65536)
    (hw : wd ≤ 64) (ha : a + wd ≤ l.length) :
    Calls Try.prog 75 #[.agg #[.slice A n c, .int .i64 (l.length : Int)], .int .i64 (a : Int), .int .i64 (wd : Int)] w fun e w' => e = .returned (.tuple #[.int .u64 ((num ((l.drop a).take wd) : Nat) : Int), .int .i64 0]) ∧ Below w.heap.size w w' := by
  have hd2 : decide ((a : Int) < 0) = false := by simp
  have hd3 : decide ((l.length : Int) - (wd : Int) < (a : Int)) = false := by simp; omega
  go_enter Try.func75, Try.ntmps75
  go_wp2_with fail
  refine (check_yes _ _ _ _ (pack l) _ (hr.out.alloc _) (okB_pack l hl)).mono ?_
  rintro e w1 ⟨rfl, hb1⟩
  have H1 := Lib.hid ((One.start w (.slice A n c) (.int .i64 (l.length : Int))).next hb1)
  have HB1 := Lib.hid ((hB.out.alloc _).below hb1)
  obtain ⟨b0, b1⟩ := H1.out.cells
  clear hb1
  go_wp2_with (go_at_call 85; refine (isWidth_yes _ _ (by omega) (by omega)).mono ?_; rintro e w' ⟨rfl, rfl⟩)
  go_loopw [8, 9] (fun x i wr => ∃ k V : Nat, k ≤ wd ∧ i = .int .i64 ((a + k : Nat) : Int) ∧ x = .int .u64 (V : Int) ∧ V = num ((l.drop a).take k) ∧ One w w.heap.size (.slice A n c) (.int .i64 (l.length : Int)) wr ∧ IsB wr (.agg #[.slice A n c, .int .i64 (l.length : Int)]) l)
    (fun _ i _ => (a + wd) - (intOf i).toNat)
  case atStart => exact ⟨0, 0, Nat.zero_le _, rfl, rfl, rfl, H1.out, HB1.out⟩
  case round =>
    obtain ⟨k, V, hk, rfl, rfl, hV, hone, hisb⟩ := hrel
    obtain ⟨c0, c1⟩ := hone.cells
    have HO := Lib.hid hone
    have HI := Lib.hid hisb
    have HV := Lib.hid hV
    by_cases hlt : k < wd
    · have hVl : V < 2 ^ 63 := by
        rw [hV]
        exact Nat.lt_of_lt_of_le (num_take_lt l a k) (Nat.pow_le_pow_right (by omega) (by omega))
      have hVl' : (V : Int) < 9223372036854775808 := by omega
      clear hone hisb hV b0 b1 hVl
      obtain ⟨t, ht⟩ : ∃ t : Nat, t = (bitF l (a + k)).toNat := ⟨_, rfl⟩
      have ht2 : t < 2 := by rw [ht]; cases bitF l (a + k) <;> decide
      have HT := Lib.hid ht
      clear ht
      go_wp2_with fail
      refine (bit_n _ l _ (a + k) t _ HI.out (by omega) (by omega) HT.out).mono ?_
      rintro e w2 ⟨rfl, hb2⟩
      have HO2 := Lib.hid (HO.out.next hb2)
      have HI2 := Lib.hid (HI.out.below hb2)
      clear hb2
      go_wp2
      go_roundw
      case rel =>
        refine ⟨k + 1, 2 * V + t, by omega, by go_num, ?_, ?_, HO2.out, HI2.out⟩
        · rw [get_or V t (by omega) ht2]
        · rw [num_take_succ l a k (by omega), ← HV.out, ← HT.out]
      case measure => simp [intOf]; omega
    · obtain rfl : k = wd := by omega
      clear hone hisb hV b0 b1
      go_wp2
      go_ret2
      exact ⟨by rw [← HV.out]; rfl, HO.out.2⟩
set_option maxHeartbeats 400000 in
theorem get_short_core (A : Option Addr) (n c : Nat) (l : List Bool) (a wd : Int) (w : World) (hr : Hid (Rd w A n (pack l))) (hl : l.length ≤ 65536)
    (_hw0 : 0 ≤ wd) (_hw : wd ≤ 64) (ha : (l.length : Int) < a + wd) (ha0 : 0 ≤ a) :
    Calls Try.prog 75 #[.agg #[.slice A n c, .int .i64 (l.length : Int)], .int .i64 a, .int .i64 wd] w fun e w' => e = .returned (.tuple #[.int .u64 0, .int .i64 20]) ∧ Below w.heap.size w w' := by
  have hd2 : decide (a < 0) = false := by simpa using ha0
  have hd3 : (l.length : Int) - wd < a := by omega
  go_enter Try.func75, Try.ntmps75
  go_wp2_with fail
  refine (check_yes _ _ _ _ (pack l) _ (hr.out.alloc _) (okB_pack l hl)).mono ?_
  rintro e w1 ⟨rfl, hb1⟩
  have H1 := Lib.hid ((One.start w (.slice A n c) (.int .i64 (l.length : Int))).next hb1)
  obtain ⟨b0, b1⟩ := H1.out.cells
  clear hb1
  go_wp2_with (go_at_call 85; refine (isWidth_yes _ _ (by omega) (by omega)).mono ?_; rintro e w' ⟨rfl, rfl⟩)
  go_ret2
  exact ⟨rfl, H1.out.2⟩
/-- Get, where the bits are there -/
theorem get_any (v : Value) (l : List Bool) (a wd : Nat) (w : World) (h : IsB w v l) (hw : wd ≤ 64) (ha : a + wd ≤ l.length) :
    Calls Try.prog 75 #[v, .int .i64 (a : Int), .int .i64 (wd : Int)] w fun e w' => e = .returned (.tuple #[.int .u64 ((num ((l.drop a).take wd) : Nat) : Int), .int .i64 0]) ∧ Below w.heap.size w w' := by
  have hB := h
  obtain ⟨A, c, rfl, hr, hl⟩ := h
  exact get_core A _ c l a wd w (Lib.hid hB) (Lib.hid hr) hl hw ha
/-- Get, where they are not all there -/
theorem get_short (v : Value) (l : List Bool) (a wd : Int) (w : World) (h : IsB w v l) (hw0 : 0 ≤ wd) (hw : wd ≤ 64) (ha : (l.length : Int) < a + wd) (ha0 : 0 ≤ a) :
    Calls Try.prog 75 #[v, .int .i64 a, .int .i64 wd] w fun e w' => e = .returned (.tuple #[.int .u64 0, .int .i64 20]) ∧ Below w.heap.size w w' := by
  obtain ⟨A, c, rfl, hr, hl⟩ := h
  exact get_short_core A _ c l a wd w (Lib.hid hr) hl hw0 hw ha ha0
/-- how many zeros stand at the head of bits, up to 33 -/
def zr (l : List Bool) : Nat := min 33 (l.takeWhile (! ·)).length
theorem zr_lt (l : List Bool) (k : Nat) (h : k < zr l) : k < l.length ∧ bitF l k = false := by
  unfold zr at h
  have hk : k < (l.takeWhile (! ·)).length := by omega
  have hl := (List.takeWhile_prefix (l := l) (! ·)).length_le
  refine ⟨by omega, ?_⟩
  have hm := List.getElem_mem hk
  have h1 := List.all_takeWhile (p := (! ·)) (l := l)
  have h2 := List.all_eq_true.1 h1 _ hm
  have h3 := (List.takeWhile_prefix (l := l) (! ·)).getElem hk
  simp only [bitF, List.getD_eq_getElem?_getD]
  rw [List.getElem?_eq_getElem (by omega), ← h3]
  simpa using h2
theorem zr_at (l : List Bool) (h : zr l < 33) (hl : zr l < l.length) : bitF l (zr l) = true := by
  unfold zr at h hl ⊢
  have e : min 33 (l.takeWhile (! ·)).length = (l.takeWhile (! ·)).length := by omega
  rw [e] at hl ⊢
  clear h e
  induction l with
  | nil => simp at hl
  | cons b l ih =>
    cases b
    · simp only [List.takeWhile_cons, Bool.not_false, if_true, List.length_cons] at hl ⊢
      have := ih (by omega)
      simpa [bitF] using this
    · simp [bitF]
theorem zr_of (l : List Bool) (k : Nat) (hk : k ≤ 32) (h0 : ∀ j, j < k → j < l.length ∧ bitF l j = false) (h1 : k < l.length → bitF l k = true) : zr l = k := by
  rcases Nat.lt_trichotomy (zr l) k with h | h | h
  · have := (h0 _ h)
    rw [zr_at l (by omega) this.1] at this
    cases this.2
  · exact h
  · have := zr_lt l k h
    rw [h1 this.1] at this
    cases this.2
/-- what GetCode tells: the number, the place behind, the error -/
def gc (l : List Bool) (a : Nat) : Nat × Nat × Nat :=
  if 32 < zr (l.drop a) then (0, 0, 21)
  else if l.length < a + 2 * zr (l.drop a) + 1 then (0, 0, 20)
  else if 4294967296 < num ((l.drop (a + zr (l.drop a))).take (zr (l.drop a) + 1)) then (0, 0, 21)
  else (num ((l.drop (a + zr (l.drop a))).take (zr (l.drop a) + 1)) - 1, a + 2 * zr (l.drop a) + 1, 0)
theorem get_n (v : Value) (l : List Bool) (x y : Int) (a wd m : Nat) (w : World) (h : IsB w v l) (hx : x = (a : Int)) (hy : y = (wd : Int)) (hw : wd ≤ 64) (ha : a + wd ≤ l.length) (hm : m = num ((l.drop a).take wd)) :
    Calls Try.prog 75 #[v, .int .i64 x, .int .i64 y] w fun e w' => e = .returned (.tuple #[.int .u64 (m : Int), .int .i64 0]) ∧ Below w.heap.size w w' := by
  subst hx hy hm
  exact get_any v l a wd w h hw ha
end Go.Proofs.Ytgelgbfnioagbaa
