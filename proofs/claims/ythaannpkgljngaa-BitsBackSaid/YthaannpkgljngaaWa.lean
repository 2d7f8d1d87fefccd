/-
  What the smallest functions of package bits answer: bytesFor, isWidth, bit, Len64, Check.
-/
import Derived.Test.YthaannpkgljngaaChecked
import Derived.Test.YthaannpkgljngaaMem
import Derived.WalkKit
import Derived.WalkSpells
import Derived.WalkLawsBesides
import Derived.Lib.Strings
import Derived.Lib.Small
import Derived.Lib.Walk
import Derived.Lib.BitFns
import Derived.Lib.Hide
import Derived.Laws.ShiftsVar
import Derived.Deep.QuietTactic
import Derived.BigQuiet
namespace Go.Proofs.Ythaannpkgljngaa
open Go.RowKit

set_option maxHeartbeats 400000 in
theorem bytesFor_any (n : Int) (w : World) (h0 : 0 ≤ n) (h1 : n ≤ 65536) :
    Calls Try.prog 33 #[.int .i64 n] w fun e w' => e = .returned (.int .i64 ((n + 7) / 8)) ∧ w = w' := by
  go_enter Try.func33, Try.ntmps33
  go_wp2
  go_ret
  exact ⟨rfl, rfl⟩

set_option maxHeartbeats 400000 in
theorem isWidth_any (n : Int) (w : World) :
    Calls Try.prog 28 #[.int .i64 n] w fun e w' => e = .returned (.bool (decide (0 ≤ n ∧ n ≤ 64))) ∧ w = w' := by
  by_cases h0 : 0 ≤ n <;> by_cases h1 : n ≤ 64
  all_goals
    go_enter Try.func28, Try.ntmps28
    go_wp2
    go_ret
    exact ⟨by simp [h0, h1], rfl⟩

/-- what is left of a byte, shifted -/
theorem shr_byte (c k : Nat) (hc : c < 256) : bits BinOp.and IntKind.u64 (IntKind.u64.wrap ((c : Int) / 2 ^ k)) 1 = ((c / 2 ^ k % 2 : Nat) : Int) := by
  have e : ((c : Int) / 2 ^ k) = ((c / 2 ^ k : Nat) : Int) := by simp
  have hl : c / 2 ^ k ≤ c := Nat.div_le_self _ _
  rw [e]
  generalize c / 2 ^ k = x at hl
  rw [IntKind.wrap_u64, show (1 : Int) = ((1 : Nat) : Int) from rfl]
  have e2 : ((x : Int) % 18446744073709551616) = (x : Int) := by omega
  rw [e2, u64_and_nat _ _ (by omega) (by omega), nat_mask1]

set_option maxHeartbeats 400000 in
theorem bit_core (A : Addr) (len cap : Nat) (N : Int) (c : Int) (i : Nat) (w : World) (_hi : i / 8 < len) (_hlen : len ≤ 65536) (_h0 : 0 ≤ c) (_h1 : c ≤ 255)
    (hlt : (A.add (i / 8)).block < w.heap.size)
    (hc : w.cell? (A.add (i / 8)) = some (.int .u8 c)) :
    Calls Try.prog 36 #[.agg #[.slice (some A) len cap, .int .i64 N], .int .i64 (i : Int)] w fun e w' => e = .returned (.int .u64 (bits BinOp.and IntKind.u64 (IntKind.u64.wrap (c / 2 ^ (7 - i % 8))) 1)) ∧ Below w.heap.size w w' := by
  go_enter Try.func36, Try.ntmps36
  go_wp2
  go_ret
  exact ⟨rfl, (Below.refl _ _).alloc (Nat.le_refl _) _⟩
theorem bit_any (v : Value) (l : List Bool) (i : Nat) (w : World) (h : IsB w v l) (hi : i < l.length) :
    Calls Try.prog 36 #[v, .int .i64 (i : Int)] w fun e w' => e = .returned (.int .u64 (((bitF l i).toNat : Nat) : Int)) ∧ Below w.heap.size w w' := by
  obtain ⟨A, c, rfl, hr, hl⟩ := h
  have hp := pack_length l
  obtain ⟨ad, rfl, hb, h256, hc⟩ := hr.at_ (k := i / 8) (by omega)
  refine (bit_core ad _ c _ _ i w (by omega) (by omega) (by omega) (by omega) (by rw [block_of_add]; exact hb) hc).mono ?_
  rintro e w' ⟨rfl, hbl⟩
  refine ⟨?_, hbl⟩
  rw [shr_byte _ _ h256]
  have hg : (pack l).getD (i / 8) 0 = byteF (bitF l) (i / 8) := packF_getD _ _ _ (by omega)
  rw [hg, byteF_bit]

/- Check, way by way -/
set_option maxHeartbeats 400000 in
theorem check_low (A : Option Addr) (len cap : Nat) (N : Int) (w : World) (h0 : N < 0 ∨ 65536 < N) :
    Calls Try.prog 19 #[.agg #[.slice A len cap, .int .i64 N]] w fun e w' => e = .returned (.int .i64 1) ∧ Below w.heap.size w w' := by
  rcases h0 with h0 | h0
  · have d1 : decide (N < 0) = true := by simpa using h0
    go_enter Try.func19, Try.ntmps19
    go_wp2
    go_quiet (fail)
    go_wp2
    go_ret
    exact ⟨rfl, below_drewN ((Below.refl _ _).alloc (Nat.le_refl _) _) _⟩
  · have d1 : decide (N < 0) = false := by simp; omega
    have d2 : decide (65536 < N) = true := by simpa using h0
    go_enter Try.func19, Try.ntmps19
    go_wp2
    go_quiet (fail)
    go_wp2
    go_ret
    exact ⟨rfl, below_drewN ((Below.refl _ _).alloc (Nat.le_refl _) _) _⟩
set_option maxHeartbeats 400000 in
theorem check_len (A : Option Addr) (len cap : Nat) (N : Int) (w : World)
    (h0 : 0 ≤ N) (h1 : N ≤ 65536) (h2 : ((len : Int) != (N + 7) / 8) = true) :
    Calls Try.prog 19 #[.agg #[.slice A len cap, .int .i64 N]] w fun e w' => e = .returned (.int .i64 1) ∧ Below w.heap.size w w' := by
  have d1 : decide (N < 0) = false := by simpa using h0
  have d2 : decide (65536 < N) = false := by simpa using h1
  go_enter Try.func19, Try.ntmps19
  go_wp2
  go_quiet ((go_at_call 33; exact Calls.quiet_of_same ((bytesFor_any _ _ (by omega) (by omega)).mono fun _ _ h => ⟨h.1, h.2.symm⟩)))
  go_wp2
  go_ret
  exact ⟨rfl, below_drewN ((Below.refl _ _).alloc (Nat.le_refl _) _) _⟩
set_option maxHeartbeats 400000 in
theorem check_whole (A : Option Addr) (len cap : Nat) (N : Int) (w : World)
    (h0 : 0 ≤ N) (h1 : N ≤ 65536) (h2 : ((len : Int) != (N + 7) / 8) = false) (h3 : (N % 8 != 0) = false) :
    Calls Try.prog 19 #[.agg #[.slice A len cap, .int .i64 N]] w fun e w' => e = .returned (.int .i64 0) ∧ Below w.heap.size w w' := by
  have d1 : decide (N < 0) = false := by simpa using h0
  have d2 : decide (65536 < N) = false := by simpa using h1
  go_enter Try.func19, Try.ntmps19
  go_wp2
  go_quiet ((go_at_call 33; exact Calls.quiet_of_same ((bytesFor_any _ _ (by omega) (by omega)).mono fun _ _ h => ⟨h.1, h.2.symm⟩)))
  go_wp2
  go_ret
  exact ⟨rfl, below_drewN ((Below.refl _ _).alloc (Nat.le_refl _) _) _⟩
set_option maxHeartbeats 400000 in
theorem check_tail (ad : Addr) (len cap : Nat) (N c : Int) (t : Bool) (w : World) (_hlen : len ≤ 65536) (_hlen1 : 1 ≤ len)
    (h0 : 0 ≤ N) (h1 : N ≤ 65536) (h2 : ((len : Int) != (N + 7) / 8) = false)
    (h3 : (N % 8 != 0) = true) (hlt : (ad.add (len - 1)).block < w.heap.size) (hc : w.cell? (ad.add (len - 1)) = some (.int .u8 c))
    (ht : (c * 2 ^ (N % 8).toNat % 256 != 0) = t) :
    Calls Try.prog 19 #[.agg #[.slice (some ad) len cap, .int .i64 N]] w fun e w' => e = .returned (.int .i64 (if t then 1 else 0)) ∧ Below w.heap.size w w' := by
  have d1 : decide (N < 0) = false := by simpa using h0
  have d2 : decide (65536 < N) = false := by simpa using h1
  cases t
  all_goals
    go_enter Try.func19, Try.ntmps19
    go_wp2
    go_quiet ((go_at_call 33; exact Calls.quiet_of_same ((bytesFor_any _ _ (by omega) (by omega)).mono fun _ _ h => ⟨h.1, h.2.symm⟩)))
    go_wp2
    go_ret
    exact ⟨rfl, below_drewN ((Below.refl _ _).alloc (Nat.le_refl _) _) _⟩
/-- Check tells what okB tells -/
theorem check_any (A : Option Addr) (len cap : Nat) (N : Int) (bs : List Nat) (w : World) (hr : Rd w A len bs) :
    Calls Try.prog 19 #[.agg #[.slice A len cap, .int .i64 N]] w fun e w' => e = .returned (.int .i64 (if okB bs N then 0 else 1)) ∧ Below w.heap.size w w' := by
  have hbs := hr.1
  by_cases h0 : N < 0 ∨ 65536 < N
  · have : okB bs N = false := decide_eq_false (by omega)
    rw [this]
    exact check_low A len cap N w h0
  · by_cases h2 : ((len : Int) = (N + 7) / 8)
    · by_cases h3 : N % 8 = 0
      · have : okB bs N = true := decide_eq_true ⟨by omega, by omega, by omega, fun h => absurd h3 h⟩
        rw [this]
        exact check_whole A len cap N w (by omega) (by omega) (by simpa using h2) (by simpa using h3)
      · obtain ⟨ad, rfl, hb, h256, hc⟩ := hr.at_ (k := len - 1) (by omega)
        have hb' : (ad.add (len - 1)).block < w.heap.size := by rw [block_of_add]; exact hb
        have e : ((bs.getD (len - 1) 0 : Nat) : Int) * 2 ^ (N % 8).toNat % 256 = ((bs.getD (len - 1) 0 * 2 ^ (N % 8).toNat % 256 : Nat) : Int) := by simp
        by_cases h4 : bs.getD (len - 1) 0 * 2 ^ (N % 8).toNat % 256 = 0
        · have : okB bs N = true := decide_eq_true ⟨by omega, by omega, by omega, fun _ => by rw [hbs]; exact h4⟩
          rw [this]
          exact check_tail ad len cap N _ false w (by omega) (by omega) (by omega) (by omega) (by simpa using h2) (by simpa using h3) hb' hc (by rw [e, h4]; rfl)
        · have : okB bs N = false := decide_eq_false (fun h => h4 (by have := h.2.2.2 h3; rw [hbs] at this; exact this))
          rw [this]
          exact check_tail ad len cap N _ true w (by omega) (by omega) (by omega) (by omega) (by simpa using h2) (by simpa using h3) hb' hc (by rw [e]; simp only [bne_iff_ne]; omega)
    · have : okB bs N = false := decide_eq_false (by omega)
      rw [this]
      exact check_len A len cap N w (by omega) (by omega) (by simpa using h2)
theorem check_yes (A : Option Addr) (len cap : Nat) (N : Int) (bs : List Nat) (w : World) (hr : Rd w A len bs) (h : okB bs N = true) :
    Calls Try.prog 19 #[.agg #[.slice A len cap, .int .i64 N]] w fun e w' => e = .returned (.int .i64 0) ∧ Below w.heap.size w w' := by
  have := check_any A len cap N bs w hr
  rw [h] at this
  exact this
theorem check_no (A : Option Addr) (len cap : Nat) (N : Int) (bs : List Nat) (w : World) (hr : Rd w A len bs) (h : okB bs N = false) :
    Calls Try.prog 19 #[.agg #[.slice A len cap, .int .i64 N]] w fun e w' => e = .returned (.int .i64 1) ∧ Below w.heap.size w w' := by
  have := check_any A len cap N bs w hr
  rw [h] at this
  exact this
theorem check_ok (v : Value) (l : List Bool) (w : World) (h : IsB w v l) :
    Calls Try.prog 19 #[v] w fun e w' => e = .returned (.int .i64 0) ∧ Below w.heap.size w w' := by
  obtain ⟨A, c, rfl, hr, hl⟩ := h
  have := check_any A _ c (l.length : Int) _ w hr
  rw [okB_pack l hl] at this
  exact this

end Go.Proofs.Ythaannpkgljngaa
