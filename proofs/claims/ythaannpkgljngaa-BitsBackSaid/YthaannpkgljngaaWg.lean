/-
  What Get, zerosFrom and GetCode answer.
-/
import Derived.Test.YthaannpkgljngaaWf
namespace Go.Proofs.Ythaannpkgljngaa
open Go.RowKit

/-- the box of the first argument, and what was there -/
def One (w : World) (b : Nat) (v0 v1 : Value) (w1 : World) : Prop :=
  Blk w1 b 24 #[v0, v1] ∧ Below b w w1
theorem One.start (w : World) (v0 v1 : Value) : One w w.heap.size v0 v1 (w.alloc (.cells #[v0, v1] 24)) :=
  ⟨Blk.new _ _ _, (Below.refl _ _).alloc (Nat.le_refl _) _⟩
theorem One.next {w w1 w2 : World} {b : Nat} {v0 v1 : Value} (h : One w b v0 v1 w1) (hb : Below w1.heap.size w1 w2) : One w b v0 v1 w2 :=
  ⟨h.1.below hb h.1.lt, h.2.trans (hb.mono (Nat.le_of_lt h.1.lt))⟩
theorem One.alloc {w w1 : World} {b : Nat} {v0 v1 : Value} (h : One w b v0 v1 w1) (o : Obj) : One w b v0 v1 (w1.alloc o) :=
  ⟨h.1.alloc o, h.2.alloc (Nat.le_of_lt h.1.lt) o⟩
theorem One.cells {w w1 : World} {b : Nat} {v0 v1 : Value} (h : One w b v0 v1 w1) : w1.cell? ⟨b, 0, none⟩ = some v0 ∧ w1.cell? ⟨b, 1, none⟩ = some v1 := ⟨h.1.cell 0, h.1.cell 1⟩

theorem isWidth_yes (n : Int) (w : World) (h0 : 0 ≤ n) (h1 : n ≤ 64) :
    Calls Try.prog 28 #[.int .i64 n] w fun e w' => e = .returned (.bool true) ∧ w = w' := by
  have := isWidth_any n w
  rw [decide_eq_true (⟨h0, h1⟩ : 0 ≤ n ∧ n ≤ 64)] at this
  exact this
theorem isWidth_no (n : Int) (w : World) (h : ¬ (0 ≤ n ∧ n ≤ 64)) :
    Calls Try.prog 28 #[.int .i64 n] w fun e w' => e = .returned (.bool false) ∧ w = w' := by
  have := isWidth_any n w
  rw [decide_eq_false h] at this
  exact this
theorem bit_n (v : Value) (l : List Bool) (x : Int) (i t : Nat) (w : World) (h : IsB w v l) (hi : i < l.length) (hx : x = (i : Int)) (ht : t = (bitF l i).toNat) :
    Calls Try.prog 36 #[v, .int .i64 x] w fun e w' => e = .returned (.int .u64 (t : Int)) ∧ Below w.heap.size w w' := by
  subst hx ht
  exact bit_any v l i w h hi
theorem get_or (V t : Nat) (h : V * 2 < 18446744073709551616) (ht : t < 2) : bits BinOp.or IntKind.u64 ((V : Int) * 2) (t : Int) = ((2 * V + t : Nat) : Int) := by
  have e : (V : Int) * 2 = ((V * 2 : Nat) : Int) := by simp
  rw [e, u64_or_nat _ _ h (by omega), nat_join 1 (V * 2) t (by omega) (by omega)]
  congr 1
  omega
theorem num_take_succ (l : List Bool) (a k : Nat) (h : a + k < l.length) : num ((l.drop a).take (k + 1)) = 2 * num ((l.drop a).take k) + (bitF l (a + k)).toNat := by
  have hk : k < (l.drop a).length := by rw [List.length_drop]; omega
  rw [List.take_succ_eq_append_getElem hk, num_snoc]
  congr 2
  simp [bitF, List.getD_eq_getElem?_getD, h]
theorem num_take_lt (l : List Bool) (a k : Nat) : num ((l.drop a).take k) < 2 ^ k :=
  Nat.lt_of_lt_of_le (num_lt _) (Nat.pow_le_pow_right (by omega) (List.length_take_le _ _))

set_option maxHeartbeats 1000000 in
theorem get_core (A : Option Addr) (n c : Nat) (l : List Bool) (a wd : Nat) (w : World) (hB : Hid (IsB w (.agg #[.slice A n c, .int .i64 (l.length : Int)]) l)) (hr : Hid (Rd w A n (pack l))) (hl : l.length ≤ 65536)
    (hw : wd ≤ 64) (ha : a + wd ≤ l.length) :
    Calls Try.prog 24 #[.agg #[.slice A n c, .int .i64 (l.length : Int)], .int .i64 (a : Int), .int .i64 (wd : Int)] w fun e w' => e = .returned (.tuple #[.int .u64 ((num ((l.drop a).take wd) : Nat) : Int), .int .i64 0]) ∧ Below w.heap.size w w' := by
  have hd2 : decide ((a : Int) < 0) = false := by simp
  have hd3 : decide ((l.length : Int) - (wd : Int) < (a : Int)) = false := by simp; omega
  go_enter Try.func24, Try.ntmps24
  go_wp2_with fail
  refine (check_yes _ _ _ _ (pack l) _ (hr.out.alloc _) (okB_pack l hl)).mono ?_
  rintro e w1 ⟨rfl, hb1⟩
  have H1 := Lib.hid ((One.start w (.slice A n c) (.int .i64 (l.length : Int))).next hb1)
  have HB1 := Lib.hid ((hB.out.alloc _).below hb1)
  obtain ⟨b0, b1⟩ := H1.out.cells
  clear hb1
  go_wp2_with (go_at_call 28; refine (isWidth_yes _ _ (by omega) (by omega)).mono ?_; rintro e w' ⟨rfl, rfl⟩)
  go_loopw [8, 9] (fun x i wr => ∃ k V : Nat, k ≤ wd ∧ i = .int .i64 ((a + k : Nat) : Int) ∧ x = .int .u64 (V : Int) ∧ V = num ((l.drop a).take k) ∧ One w w.heap.size (.slice A n c) (.int .i64 (l.length : Int)) wr ∧ IsB wr (.agg #[.slice A n c, .int .i64 (l.length : Int)]) l)
    (fun _ i _ => (a + wd) - (intOf i).toNat)
  case atStart => exact ⟨0, 0, Nat.zero_le _, rfl, rfl, rfl, H1.out, HB1.out⟩
  case round =>
    obtain ⟨k, V, hk, rfl, rfl, hV, hone, hisb⟩ := hrel
    obtain ⟨c0, c1⟩ := hone.cells
    have HO := Lib.hid hone
    have HI := Lib.hid hisb
    have HV := Lib.hid hV
    by_cases hlt : k < wd
    · have hVl : V < 2 ^ 63 := by
        rw [hV]
        exact Nat.lt_of_lt_of_le (num_take_lt l a k) (Nat.pow_le_pow_right (by omega) (by omega))
      have hVl' : (V : Int) < 9223372036854775808 := by omega
      clear hone hisb hV b0 b1 hVl
      obtain ⟨t, ht⟩ : ∃ t : Nat, t = (bitF l (a + k)).toNat := ⟨_, rfl⟩
      have ht2 : t < 2 := by rw [ht]; cases bitF l (a + k) <;> decide
      have HT := Lib.hid ht
      clear ht
      go_wp2_with fail
      refine (bit_n _ l _ (a + k) t _ HI.out (by omega) (by omega) HT.out).mono ?_
      rintro e w2 ⟨rfl, hb2⟩
      have HO2 := Lib.hid (HO.out.next hb2)
      have HI2 := Lib.hid (HI.out.below hb2)
      clear hb2
      go_wp2
      go_roundw
      case rel =>
        refine ⟨k + 1, 2 * V + t, by omega, by go_num, ?_, ?_, HO2.out, HI2.out⟩
        · rw [get_or V t (by omega) ht2]
        · rw [num_take_succ l a k (by omega), ← HV.out, ← HT.out]
      case measure => simp [intOf]; omega
    · obtain rfl : k = wd := by omega
      clear hone hisb hV b0 b1
      go_wp2
      go_ret2
      exact ⟨by rw [← HV.out]; rfl, HO.out.2⟩
set_option maxHeartbeats 400000 in
theorem get_short_core (A : Option Addr) (n c : Nat) (l : List Bool) (a wd : Int) (w : World) (hr : Hid (Rd w A n (pack l))) (hl : l.length ≤ 65536)
    (_hw0 : 0 ≤ wd) (_hw : wd ≤ 64) (ha : (l.length : Int) < a + wd) (ha0 : 0 ≤ a) :
    Calls Try.prog 24 #[.agg #[.slice A n c, .int .i64 (l.length : Int)], .int .i64 a, .int .i64 wd] w fun e w' => e = .returned (.tuple #[.int .u64 0, .int .i64 20]) ∧ Below w.heap.size w w' := by
  have hd2 : decide (a < 0) = false := by simpa using ha0
  have hd3 : (l.length : Int) - wd < a := by omega
  go_enter Try.func24, Try.ntmps24
  go_wp2_with fail
  refine (check_yes _ _ _ _ (pack l) _ (hr.out.alloc _) (okB_pack l hl)).mono ?_
  rintro e w1 ⟨rfl, hb1⟩
  have H1 := Lib.hid ((One.start w (.slice A n c) (.int .i64 (l.length : Int))).next hb1)
  obtain ⟨b0, b1⟩ := H1.out.cells
  clear hb1
  go_wp2_with (go_at_call 28; refine (isWidth_yes _ _ (by omega) (by omega)).mono ?_; rintro e w' ⟨rfl, rfl⟩)
  go_ret2
  exact ⟨rfl, H1.out.2⟩
/-- Get, where the bits are there -/
theorem get_any (v : Value) (l : List Bool) (a wd : Nat) (w : World) (h : IsB w v l) (hw : wd ≤ 64) (ha : a + wd ≤ l.length) :
    Calls Try.prog 24 #[v, .int .i64 (a : Int), .int .i64 (wd : Int)] w fun e w' => e = .returned (.tuple #[.int .u64 ((num ((l.drop a).take wd) : Nat) : Int), .int .i64 0]) ∧ Below w.heap.size w w' := by
  have hB := h
  obtain ⟨A, c, rfl, hr, hl⟩ := h
  exact get_core A _ c l a wd w (Lib.hid hB) (Lib.hid hr) hl hw ha
/-- Get, where they are not all there -/
theorem get_short (v : Value) (l : List Bool) (a wd : Int) (w : World) (h : IsB w v l) (hw0 : 0 ≤ wd) (hw : wd ≤ 64) (ha : (l.length : Int) < a + wd) (ha0 : 0 ≤ a) :
    Calls Try.prog 24 #[v, .int .i64 a, .int .i64 wd] w fun e w' => e = .returned (.tuple #[.int .u64 0, .int .i64 20]) ∧ Below w.heap.size w w' := by
  obtain ⟨A, c, rfl, hr, hl⟩ := h
  exact get_short_core A _ c l a wd w (Lib.hid hr) hl hw0 hw ha ha0

/-- how many zeros stand at the head of bits, up to 33 -/
def zr (l : List Bool) : Nat := min 33 (l.takeWhile (! ·)).length
theorem zr_lt (l : List Bool) (k : Nat) (h : k < zr l) : k < l.length ∧ bitF l k = false := by
  unfold zr at h
  have hk : k < (l.takeWhile (! ·)).length := by omega
  have hl := (List.takeWhile_prefix (l := l) (! ·)).length_le
  refine ⟨by omega, ?_⟩
  have hm := List.getElem_mem hk
  have h1 := List.all_takeWhile (p := (! ·)) (l := l)
  have h2 := List.all_eq_true.1 h1 _ hm
  have h3 := (List.takeWhile_prefix (l := l) (! ·)).getElem hk
  simp only [bitF, List.getD_eq_getElem?_getD]
  rw [List.getElem?_eq_getElem (by omega), ← h3]
  simpa using h2
theorem zr_at (l : List Bool) (h : zr l < 33) (hl : zr l < l.length) : bitF l (zr l) = true := by
  unfold zr at h hl ⊢
  have e : min 33 (l.takeWhile (! ·)).length = (l.takeWhile (! ·)).length := by omega
  rw [e] at hl ⊢
  clear h e
  induction l with
  | nil => simp at hl
  | cons b l ih =>
    cases b
    · simp only [List.takeWhile_cons, Bool.not_false, if_true, List.length_cons] at hl ⊢
      have := ih (by omega)
      simpa [bitF] using this
    · simp [bitF]
theorem zr_of (l : List Bool) (k : Nat) (hk : k ≤ 32) (h0 : ∀ j, j < k → j < l.length ∧ bitF l j = false) (h1 : k < l.length → bitF l k = true) : zr l = k := by
  rcases Nat.lt_trichotomy (zr l) k with h | h | h
  · have := (h0 _ h)
    rw [zr_at l (by omega) this.1] at this
    cases this.2
  · exact h
  · have := zr_lt l k h
    rw [h1 this.1] at this
    cases this.2
set_option maxHeartbeats 1000000 in
theorem zeros_core (A : Option Addr) (n c : Nat) (l : List Bool) (a : Nat) (w : World) (hB : Hid (IsB w (.agg #[.slice A n c, .int .i64 (l.length : Int)]) l)) (hl : l.length ≤ 65536) (ha : a ≤ l.length) :
    Calls Try.prog 37 #[.agg #[.slice A n c, .int .i64 (l.length : Int)], .int .i64 (a : Int)] w fun e w' => e = .returned (.int .i64 ((zr (l.drop a) : Nat) : Int)) ∧ Below w.heap.size w w' := by
  go_enter Try.func37, Try.ntmps37
  go_wp2
  go_loopw [5] (fun i wr => ∃ k : Nat, k ≤ 33 ∧ k ≤ zr (l.drop a) ∧ i = .int .i64 (k : Int) ∧ One w w.heap.size (.slice A n c) (.int .i64 (l.length : Int)) wr ∧ IsB wr (.agg #[.slice A n c, .int .i64 (l.length : Int)]) l)
    (fun i _ => 33 - (intOf i).toNat)
  case atStart => exact ⟨0, Nat.zero_le _, Nat.zero_le _, rfl, One.start _ _ _, hB.out.alloc _⟩
  case round =>
    obtain ⟨k, hk, hz, rfl, hone, hisb⟩ := hrel
    obtain ⟨c0, c1⟩ := hone.cells
    have HO := Lib.hid hone
    have HI := Lib.hid hisb
    have HZ := Lib.hid hz
    clear hone hisb hz
    by_cases h33 : k ≤ 32
    · by_cases hin : a + k < l.length
      · have hd2 : decide ((a : Int) + (k : Int) < (l.length : Int)) = true := by simp; omega
        have hd1 : decide ((k : Int) ≤ 32) = true := by simp; omega
        by_cases hb : bitF l (a + k) = true
        · have hz : zr (l.drop a) = k := by
            rcases Nat.lt_or_ge k (zr (l.drop a)) with h | h
            · have := zr_lt _ _ h
              rw [bitF_drop, hb] at this
              cases this.2
            · have := HZ.out; omega
          have HZ2 := Lib.hid hz
          have ht : 1 = (bitF l (a + k)).toNat := by rw [hb]; rfl
          have HT := Lib.hid ht
          clear ht hz hb
          go_wp2_with fail
          refine (bit_n _ l _ (a + k) 1 _ HI.out (by omega) (by omega) HT.out).mono ?_
          rintro e w2 ⟨rfl, hb2⟩
          have HO2 := Lib.hid (HO.out.next hb2)
          clear hb2
          go_wp2
          go_ret
          rw [HZ2.out]
          exact ⟨rfl, HO2.out.2⟩
        · have hbf : bitF l (a + k) = false := by simpa using hb
          have hz : k < zr (l.drop a) := by
            rcases Nat.lt_or_ge k (zr (l.drop a)) with h | h
            · exact h
            · have e : zr (l.drop a) = k := by have := HZ.out; omega
              have := zr_at (l.drop a) (by omega) (by rw [List.length_drop]; omega)
              rw [e, bitF_drop, hbf] at this
              cases this
          have HZ2 := Lib.hid hz
          have ht : 0 = (bitF l (a + k)).toNat := by rw [hbf]; rfl
          have HT := Lib.hid ht
          clear ht hz hb hbf
          go_wp2_with fail
          refine (bit_n _ l _ (a + k) 0 _ HI.out (by omega) (by omega) HT.out).mono ?_
          rintro e w2 ⟨rfl, hb2⟩
          have HO2 := Lib.hid (HO.out.next hb2)
          have HI2 := Lib.hid (HI.out.below hb2)
          clear hb2
          go_wp2
          go_roundw
          case rel => exact ⟨k + 1, by omega, by have := HZ2.out; omega, by go_num, HO2.out, HI2.out⟩
          case measure => simp [intOf]; omega
      · have hd2 : decide ((a : Int) + (k : Int) < (l.length : Int)) = false := by simp; omega
        have hd1 : decide ((k : Int) ≤ 32) = true := by simp; omega
        have hz : zr (l.drop a) = k := by
          rcases Nat.lt_or_ge k (zr (l.drop a)) with h | h
          · have := zr_lt _ _ h
            rw [List.length_drop] at this
            omega
          · have := HZ.out; omega
        have HZ2 := Lib.hid hz
        clear hz
        go_wp2
        go_ret
        rw [HZ2.out]
        exact ⟨rfl, HO.out.2⟩
    · have hd1 : decide ((k : Int) ≤ 32) = false := by simp; omega
      have hz : zr (l.drop a) = k := by
        have := HZ.out
        unfold zr at this ⊢
        omega
      have HZ2 := Lib.hid hz
      clear hz
      go_wp2
      go_ret
      rw [HZ2.out]
      exact ⟨rfl, HO.out.2⟩

/-- what GetCode tells: the number, the place behind, the error -/
def gc (l : List Bool) (a : Nat) : Nat × Nat × Nat :=
  if 32 < zr (l.drop a) then (0, 0, 21)
  else if l.length < a + 2 * zr (l.drop a) + 1 then (0, 0, 20)
  else if 4294967296 < num ((l.drop (a + zr (l.drop a))).take (zr (l.drop a) + 1)) then (0, 0, 21)
  else (num ((l.drop (a + zr (l.drop a))).take (zr (l.drop a) + 1)) - 1, a + 2 * zr (l.drop a) + 1, 0)
theorem zeros_n (A : Option Addr) (n c : Nat) (l : List Bool) (a z : Nat) (w : World) (hB : IsB w (.agg #[.slice A n c, .int .i64 (l.length : Int)]) l) (hl : l.length ≤ 65536) (ha : a ≤ l.length) (hz : z = zr (l.drop a)) :
    Calls Try.prog 37 #[.agg #[.slice A n c, .int .i64 (l.length : Int)], .int .i64 (a : Int)] w fun e w' => e = .returned (.int .i64 (z : Int)) ∧ Below w.heap.size w w' := by
  subst hz
  exact zeros_core A n c l a w (Lib.hid hB) hl ha
theorem get_n (v : Value) (l : List Bool) (x y : Int) (a wd m : Nat) (w : World) (h : IsB w v l) (hx : x = (a : Int)) (hy : y = (wd : Int)) (hw : wd ≤ 64) (ha : a + wd ≤ l.length) (hm : m = num ((l.drop a).take wd)) :
    Calls Try.prog 24 #[v, .int .i64 x, .int .i64 y] w fun e w' => e = .returned (.tuple #[.int .u64 (m : Int), .int .i64 0]) ∧ Below w.heap.size w w' := by
  subst hx hy hm
  exact get_any v l a wd w h hw ha
set_option maxHeartbeats 1000000 in
theorem getCode_core (A : Option Addr) (n c : Nat) (l : List Bool) (a z m : Nat) (w : World) (hB : Hid (IsB w (.agg #[.slice A n c, .int .i64 (l.length : Int)]) l)) (hr : Hid (Rd w A n (pack l))) (hl : l.length ≤ 65536) (ha : a ≤ l.length)
    (hz : Hid (z = zr (l.drop a))) (hz33 : z ≤ 33) (hm : Hid (m = num ((l.drop (a + z)).take (z + 1)))) (hm64 : m ≤ 18446744073709551615) (hm1 : z ≤ 32 → a + 2 * z + 1 ≤ l.length → 1 ≤ m) :
    Calls Try.prog 26 #[.agg #[.slice A n c, .int .i64 (l.length : Int)], .int .i64 (a : Int)] w fun e w' =>
      e = .returned (if 32 < z then .tuple #[.int .u64 0, .int .i64 0, .int .i64 21] else if l.length < a + 2 * z + 1 then .tuple #[.int .u64 0, .int .i64 0, .int .i64 20]
        else if 4294967296 < m then .tuple #[.int .u64 0, .int .i64 0, .int .i64 21] else .tuple #[.int .u64 ((m - 1 : Nat) : Int), .int .i64 ((a + 2 * z + 1 : Nat) : Int), .int .i64 0]) ∧ Below w.heap.size w w' := by
  have hd2 : decide ((a : Int) < 0) = false := by simp
  by_cases h32 : 32 < z
  · rw [if_pos h32]
    go_enter Try.func26, Try.ntmps26
    go_wp2_with fail
    refine (check_yes _ _ _ _ (pack l) _ (hr.out.alloc _) (okB_pack l hl)).mono ?_
    rintro e w1 ⟨rfl, hb1⟩
    have H1 := Lib.hid ((One.start w (.slice A n c) (.int .i64 (l.length : Int))).next hb1)
    have HB1 := Lib.hid ((hB.out.alloc _).below hb1)
    obtain ⟨b0, b1⟩ := H1.out.cells
    clear hb1
    go_wp2_with fail
    refine (zeros_n A n c l a z _ HB1.out hl ha hz.out).mono ?_
    rintro e w2 ⟨rfl, hb2⟩
    have H2 := Lib.hid (H1.out.next hb2)
    clear hb2
    go_wp2
    go_ret3
    exact ⟨rfl, H2.out.2⟩
  · rw [if_neg h32]
    by_cases hs : l.length < a + 2 * z + 1
    · rw [if_pos hs]
      go_enter Try.func26, Try.ntmps26
      go_wp2_with fail
      refine (check_yes _ _ _ _ (pack l) _ (hr.out.alloc _) (okB_pack l hl)).mono ?_
      rintro e w1 ⟨rfl, hb1⟩
      have H1 := Lib.hid ((One.start w (.slice A n c) (.int .i64 (l.length : Int))).next hb1)
      have HB1 := Lib.hid ((hB.out.alloc _).below hb1)
      obtain ⟨b0, b1⟩ := H1.out.cells
      clear hb1
      go_wp2_with fail
      refine (zeros_n A n c l a z _ HB1.out hl ha hz.out).mono ?_
      rintro e w2 ⟨rfl, hb2⟩
      have H2 := Lib.hid (H1.out.next hb2)
      have HB2 := Lib.hid (HB1.out.below hb2)
      obtain ⟨b20, b21⟩ := H2.out.cells
      clear hb2 b0 b1
      go_wp2_with fail
      refine (get_short _ l _ _ _ HB2.out (by omega) (by omega) (by omega) (by omega)).mono ?_
      rintro e w3 ⟨rfl, hb3⟩
      have H3 := Lib.hid (H2.out.next hb3)
      clear hb3 b20 b21
      go_wp2
      go_ret3
      exact ⟨rfl, H3.out.2⟩
    · rw [if_neg hs]
      have hm1' : 1 ≤ m := hm1 (by omega) (by omega)
      clear hm1
      by_cases hbig : 4294967296 < m
      · rw [if_pos hbig]
        have hbig' : (4294967295 : Int) < (m : Int) - 1 := by omega
        go_enter Try.func26, Try.ntmps26
        go_wp2_with fail
        refine (check_yes _ _ _ _ (pack l) _ (hr.out.alloc _) (okB_pack l hl)).mono ?_
        rintro e w1 ⟨rfl, hb1⟩
        have H1 := Lib.hid ((One.start w (.slice A n c) (.int .i64 (l.length : Int))).next hb1)
        have HB1 := Lib.hid ((hB.out.alloc _).below hb1)
        obtain ⟨b0, b1⟩ := H1.out.cells
        clear hb1
        go_wp2_with fail
        refine (zeros_n A n c l a z _ HB1.out hl ha hz.out).mono ?_
        rintro e w2 ⟨rfl, hb2⟩
        have H2 := Lib.hid (H1.out.next hb2)
        have HB2 := Lib.hid (HB1.out.below hb2)
        obtain ⟨b20, b21⟩ := H2.out.cells
        clear hb2 b0 b1
        go_wp2_with fail
        refine (get_n _ l _ _ (a + z) (z + 1) m _ HB2.out (by omega) (by omega) (by omega) (by omega) hm.out).mono ?_
        rintro e w3 ⟨rfl, hb3⟩
        have H3 := Lib.hid (H2.out.next hb3)
        clear hb3 b20 b21
        go_wp2
        go_ret3
        exact ⟨rfl, H3.out.2⟩
      · rw [if_neg hbig]
        have hbig' : ¬ (4294967295 : Int) < (m : Int) - 1 := by omega
        go_enter Try.func26, Try.ntmps26
        go_wp2_with fail
        refine (check_yes _ _ _ _ (pack l) _ (hr.out.alloc _) (okB_pack l hl)).mono ?_
        rintro e w1 ⟨rfl, hb1⟩
        have H1 := Lib.hid ((One.start w (.slice A n c) (.int .i64 (l.length : Int))).next hb1)
        have HB1 := Lib.hid ((hB.out.alloc _).below hb1)
        obtain ⟨b0, b1⟩ := H1.out.cells
        clear hb1
        go_wp2_with fail
        refine (zeros_n A n c l a z _ HB1.out hl ha hz.out).mono ?_
        rintro e w2 ⟨rfl, hb2⟩
        have H2 := Lib.hid (H1.out.next hb2)
        have HB2 := Lib.hid (HB1.out.below hb2)
        obtain ⟨b20, b21⟩ := H2.out.cells
        clear hb2 b0 b1
        go_wp2_with fail
        refine (get_n _ l _ _ (a + z) (z + 1) m _ HB2.out (by omega) (by omega) (by omega) (by omega) hm.out).mono ?_
        rintro e w3 ⟨rfl, hb3⟩
        have H3 := Lib.hid (H2.out.next hb3)
        clear hb3 b20 b21
        go_wp2
        go_ret3
        refine ⟨?_, H3.out.2⟩
        have e1 : ((m - 1 : Nat) : Int) = (m : Int) - 1 := by omega
        have e2 : ((a + 2 * z + 1 : Nat) : Int) = (a : Int) + 2 * (z : Int) + 1 := by omega
        rw [e1, e2]
        rfl
theorem getCode_any (v : Value) (l : List Bool) (a : Nat) (w : World) (h : IsB w v l) (ha : a ≤ l.length) :
    Calls Try.prog 26 #[v, .int .i64 (a : Int)] w fun e w' => e = .returned (.tuple #[.int .u64 (((gc l a).1 : Nat) : Int), .int .i64 (((gc l a).2.1 : Nat) : Int), .int .i64 (((gc l a).2.2 : Nat) : Int)]) ∧ Below w.heap.size w w' := by
  have hB := h
  obtain ⟨A, c, rfl, hr, hl⟩ := h
  have hz33 : zr (l.drop a) ≤ 33 := by unfold zr; omega
  have hm := num_take_lt l (a + zr (l.drop a)) (zr (l.drop a) + 1)
  have hm2 : 2 ^ (zr (l.drop a) + 1) ≤ 2 ^ 34 := Nat.pow_le_pow_right (by omega) (by omega)
  refine (getCode_core A _ c l a _ _ w (Lib.hid hB) (Lib.hid hr) hl ha (Lib.hid rfl) hz33 (Lib.hid rfl) (by omega) (fun h1 h2 => ?_)).mono ?_
  · have hb := zr_at (l.drop a) (by omega) (by rw [List.length_drop]; omega)
    rw [bitF_drop] at hb
    have ht : ((l.drop (a + zr (l.drop a))).take (zr (l.drop a) + 1)).length = zr (l.drop a) + 1 := by rw [List.length_take, List.length_drop]; omega
    have hbit := num_testBit ((l.drop (a + zr (l.drop a))).take (zr (l.drop a) + 1)) (zr (l.drop a))
    rw [ht, bitF_take, if_pos (by omega), bitF_drop] at hbit
    have e0 : a + zr (l.drop a) + (zr (l.drop a) + 1 - 1 - zr (l.drop a)) = a + zr (l.drop a) := by omega
    rw [e0, hb] at hbit
    rcases Nat.eq_zero_or_pos (num ((l.drop (a + zr (l.drop a))).take (zr (l.drop a) + 1))) with h0 | h0
    · rw [h0] at hbit; simp at hbit
    · exact h0
  · rintro e w' ⟨rfl, hb⟩
    refine ⟨?_, hb⟩
    unfold gc
    split
    · rfl
    · split
      · rfl
      · split <;> rfl

end Go.Proofs.Ythaannpkgljngaa
