/-
  What the document's own bit and Check answer.
-/
import Derived.Test.YthaannpkgljngaaWi
namespace Go.Proofs.Ythaannpkgljngaa
open Go.RowKit

/-- the bit at a place of bytes -/
def bitR (bs : List Nat) (i : Nat) : Nat := bs.getD (i / 8) 0 / 2 ^ (7 - i % 8) % 2
theorem bitR_lt (bs : List Nat) (i : Nat) : bitR bs i < 2 := Nat.mod_lt _ (by omega)
theorem bitR_pack (l : List Bool) (i : Nat) (hi : i < 8 * (pack l).length) : bitR (pack l) i = (bitF l i).toNat := by
  unfold bitR
  have hp := pack_length l
  have hg : (pack l).getD (i / 8) 0 = byteF (bitF l) (i / 8) := packF_getD _ _ _ (by omega)
  rw [hg, byteF_bit]
theorem okB_bits (bs : List Nat) (M : Nat) (hlt : ∀ x ∈ bs, x < 256) (hM : M ≤ 65536) (hlen : bs.length = (M + 7) / 8) :
    okB bs (M : Int) = true ↔ ∀ i, M ≤ i → i < 8 * bs.length → bitR bs i = 0 := by
  constructor
  · intro h i h1 h2
    obtain ⟨l, _, rfl, e⟩ := okB_some h hlt
    rw [bitR_pack l i h2, bitF_of_ge (by omega)]
    rfl
  · intro h
    refine decide_eq_true ⟨by omega, by omega, by omega, fun h8 => ?_⟩
    have e8 : ((M : Int) % 8).toNat = M % 8 := by omega
    rw [e8]
    have hz : bs.getD (bs.length - 1) 0 % 2 ^ (8 - M % 8) = 0 := by
      refine Nat.eq_of_testBit_eq fun b => ?_
      rw [Nat.testBit_mod_two_pow, Nat.zero_testBit]
      by_cases hb : b < 8 - M % 8
      · have hi := h (8 * (bs.length - 1) + (7 - b)) (by omega) (by omega)
        unfold bitR at hi
        have e1 : (8 * (bs.length - 1) + (7 - b)) / 8 = bs.length - 1 := by omega
        have e2 : 7 - (8 * (bs.length - 1) + (7 - b)) % 8 = b := by omega
        rw [e1, e2] at hi
        rw [Nat.testBit_eq_decide_div_mod_eq, hi]
        simp
      · simp [hb]
    have e : (256 : Nat) = 2 ^ (8 - M % 8) * 2 ^ (M % 8) := by rw [← Nat.pow_add, show 8 - M % 8 + M % 8 = 8 by omega]
    rw [e, Nat.mul_mod_mul_right, hz, Nat.zero_mul]

set_option maxHeartbeats 400000 in
theorem rbit_core (A : Addr) (len cap : Nat) (N : Int) (c : Int) (i : Nat) (w : World) (_hi : i / 8 < len) (_hi2 : i ≤ 600000) (_h0 : 0 ≤ c) (_h1 : c ≤ 255)
    (hlt : (A.add (i / 8)).block < w.heap.size)
    (hc : w.cell? (A.add (i / 8)) = some (.int .u8 c)) :
    Calls Try.prog 34 #[.agg #[.slice (some A) len cap, .int .i64 N], .int .i64 (i : Int)] w fun e w' => e = .returned (.int .u64 (bits BinOp.and IntKind.u64 (IntKind.u64.wrap (c / 2 ^ (7 - i % 8))) 1)) ∧ Below w.heap.size w w' := by
  go_enter Try.func34, Try.ntmps34
  go_wp2
  go_ret
  exact ⟨rfl, (Below.refl _ _).alloc (Nat.le_refl _) _⟩
theorem rbit_any (A : Option Addr) (n c : Nat) (N x : Int) (bs : List Nat) (i t : Nat) (w : World) (hr : Rd w A n bs) (hi : i < 8 * n) (hi2 : i ≤ 600000) (hx : x = (i : Int)) (ht : t = bitR bs i) :
    Calls Try.prog 34 #[.agg #[.slice A n c, .int .i64 N], .int .i64 x] w fun e w' => e = .returned (.int .u64 (t : Int)) ∧ Below w.heap.size w w' := by
  subst hx ht
  obtain ⟨ad, rfl, hb, h256, hc⟩ := hr.at_ (k := i / 8) (by omega)
  refine (rbit_core ad _ c _ _ i w (by omega) hi2 (by omega) (by omega) (by rw [block_of_add]; exact hb) hc).mono ?_
  rintro e w' ⟨rfl, hbl⟩
  refine ⟨?_, hbl⟩
  rw [shr_byte _ _ h256]
  rfl

set_option maxHeartbeats 400000 in
theorem rcheck_low (A : Option Addr) (len cap : Nat) (N : Int) (w : World) (h0 : N < 0 ∨ 65536 < N) :
    Calls Try.prog 20 #[.agg #[.slice A len cap, .int .i64 N]] w fun e w' => e = .returned (.int .i64 1) ∧ Below w.heap.size w w' := by
  rcases h0 with h0 | h0
  · have d1 : decide (N < 0) = true := by simpa using h0
    go_enter Try.func20, Try.ntmps20
    go_wp2
    go_ret
    exact ⟨rfl, (Below.refl _ _).alloc (Nat.le_refl _) _⟩
  · have d1 : decide (N < 0) = false := by simp; omega
    have d2 : decide (65536 < N) = true := by simpa using h0
    go_enter Try.func20, Try.ntmps20
    go_wp2
    go_ret
    exact ⟨rfl, (Below.refl _ _).alloc (Nat.le_refl _) _⟩
set_option maxHeartbeats 400000 in
theorem rcheck_len (A : Option Addr) (len cap : Nat) (N : Int) (w : World)
    (h0 : 0 ≤ N) (h1 : N ≤ 65536) (h2 : ((len : Int) != (N + 7) / 8) = true) :
    Calls Try.prog 20 #[.agg #[.slice A len cap, .int .i64 N]] w fun e w' => e = .returned (.int .i64 1) ∧ Below w.heap.size w w' := by
  have d1 : decide (N < 0) = false := by simpa using h0
  have d2 : decide (65536 < N) = false := by simpa using h1
  go_enter Try.func20, Try.ntmps20
  go_wp2
  go_ret
  exact ⟨rfl, (Below.refl _ _).alloc (Nat.le_refl _) _⟩
/-- Check's loop tells ErrArg at a bit that is not 0 -/
def RC (w : World) (bs : List Nat) (M : Nat) (e : Ending) (w' : World) : Prop := e = .returned (.int .i64 (if okB bs (M : Int) then 0 else 1)) ∧ Below w.heap.size w w'
set_option maxHeartbeats 1000000 in
theorem rcheck_loop (A : Option Addr) (len cap M : Nat) (bs : List Nat) (w : World) (hr : Hid (Rd w A len bs))
    (h1 : M ≤ 65536) (h2 : ((len : Int) != ((M : Int) + 7) / 8) = false) (hlen : len ≤ 8192) (hM8 : M ≤ 8 * len) (hl : Hid (len = (M + 7) / 8)) :
    Calls Try.prog 20 #[.agg #[.slice A len cap, .int .i64 (M : Int)]] w (RC w bs M) := by
  have d1 : decide ((M : Int) < 0) = false := by simp
  have d2 : decide (65536 < (M : Int)) = false := by simp; omega
  have hiff := okB_bits bs M hr.out.2.1 h1 (by rw [hr.out.1]; exact hl.out)
  rw [hr.out.1] at hiff
  have HI := Lib.hid hiff
  clear hiff
  go_enter Try.func20, Try.ntmps20
  go_wp2
  go_loopw [3] (fun i wr => ∃ p : Nat, M ≤ p ∧ p ≤ 8 * len ∧ i = .int .i64 (p : Int) ∧ (∀ i, M ≤ i → i < p → bitR bs i = 0) ∧ One w w.heap.size (.slice A len cap) (.int .i64 (M : Int)) wr)
    (fun i _ => 8 * len - (intOf i).toNat)
  case atStart => exact ⟨M, Nat.le_refl _, hM8, rfl, fun i h1 h2 => by omega, One.start _ _ _⟩
  case round =>
    obtain ⟨p, hp0, hp1, rfl, hz, hone⟩ := hrel
    obtain ⟨c0, c1⟩ := hone.cells
    have HO := Lib.hid hone
    have HZ := Lib.hid hz
    clear hone hz
    by_cases hlt : p < 8 * len
    · have hrd := (hr.out.below (HO.out.2))
      have HRD := Lib.hid hrd
      clear hrd
      obtain ⟨t, ht⟩ : ∃ t, t = bitR bs p := ⟨_, rfl⟩
      have ht2 : t < 2 := by rw [ht]; exact bitR_lt _ _
      have HT := Lib.hid ht
      clear ht
      by_cases ht0 : t = 0
      · subst ht0
        go_wp2_with fail
        refine (rbit_any _ _ _ _ _ bs p 0 _ HRD.out hlt (by omega) rfl HT.out).mono ?_
        rintro e w2 ⟨rfl, hb2⟩
        have HO2 := Lib.hid (HO.out.next hb2)
        clear hb2
        go_wp2
        go_roundw
        case rel =>
          refine ⟨p + 1, by omega, by omega, by go_num, fun i h1 h2 => ?_, HO2.out⟩
          by_cases e : i = p
          · rw [e, ← HT.out]
          · exact HZ.out i h1 (by omega)
        case measure => simp [intOf]; omega
      · obtain rfl : t = 1 := by omega
        go_wp2_with fail
        refine (rbit_any _ _ _ _ _ bs p 1 _ HRD.out hlt (by omega) rfl HT.out).mono ?_
        rintro e w2 ⟨rfl, hb2⟩
        have HO2 := Lib.hid (HO.out.next hb2)
        clear hb2
        go_wp2
        go_ret
        refine ⟨?_, HO2.out.2⟩
        have hno : okB bs (M : Int) = false := by
          cases h : okB bs (M : Int)
          · rfl
          · have := HI.out.1 h p hp0 hlt
            rw [← HT.out] at this
            cases this
        rw [hno]
        rfl
    · go_wp2
      go_ret
      refine ⟨?_, HO.out.2⟩
      have hyes : okB bs (M : Int) = true := HI.out.2 fun i h1 h2 => HZ.out i h1 (by omega)
      rw [hyes]
      rfl
theorem rcheck_any (A : Option Addr) (len cap : Nat) (N : Int) (bs : List Nat) (w : World) (hr : Rd w A len bs) :
    Calls Try.prog 20 #[.agg #[.slice A len cap, .int .i64 N]] w fun e w' => e = .returned (.int .i64 (if okB bs N then 0 else 1)) ∧ Below w.heap.size w w' := by
  have hbs := hr.1
  by_cases h0 : N < 0 ∨ 65536 < N
  · have : okB bs N = false := decide_eq_false (by omega)
    rw [this]
    exact rcheck_low A len cap N w h0
  · by_cases h2 : ((len : Int) = (N + 7) / 8)
    · obtain ⟨M, rfl⟩ : ∃ M : Nat, N = (M : Int) := ⟨N.toNat, by omega⟩
      exact rcheck_loop A len cap M bs w (Lib.hid hr) (by omega) (by simpa using h2) (by omega) (by omega) (Lib.hid (by omega))
    · have : okB bs N = false := decide_eq_false (by omega)
      rw [this]
      exact rcheck_len A len cap N w (by omega) (by omega) (by simpa using h2)
theorem rcheck_yes (A : Option Addr) (len cap : Nat) (N : Int) (bs : List Nat) (w : World) (hr : Rd w A len bs) (h : okB bs N = true) :
    Calls Try.prog 20 #[.agg #[.slice A len cap, .int .i64 N]] w fun e w' => e = .returned (.int .i64 0) ∧ Below w.heap.size w w' := by
  have := rcheck_any A len cap N bs w hr
  rw [h] at this
  exact this
theorem rcheck_no (A : Option Addr) (len cap : Nat) (N : Int) (bs : List Nat) (w : World) (hr : Rd w A len bs) (h : okB bs N = false) :
    Calls Try.prog 20 #[.agg #[.slice A len cap, .int .i64 N]] w fun e w' => e = .returned (.int .i64 1) ∧ Below w.heap.size w w' := by
  have := rcheck_any A len cap N bs w hr
  rw [h] at this
  exact this

end Go.Proofs.Ythaannpkgljngaa
