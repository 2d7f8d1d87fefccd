/-
  Packets and what waits, in memory; what the small functions of jitter answer.
-/
import Derived.Test.YtffapinabidkiaaU1
set_option linter.unusedSimpArgs false
set_option linter.unusedVariables false
/- UA -/
namespace Go.Proofs.Ytffapinabidkiaa.Lp
open Go.RowKit Go.Proofs.Ytffapinabidkiaa.Fq
/-- a packet as it lies: its number, its bytes' header, its bytes -/
structure Pk where
  s : Int
  A : Option Addr
  n : Nat
  c : Nat
  bs : List Nat
abbrev pkV (x : Pk) : Value := .agg #[.int .i64 x.s, .slice x.A x.n x.c]
/-- a slice of packets reads as these -/
def RdP (w : World) (AL : Option Addr) (n : Nat) (ls : List Pk) : Prop :=
  ls.length = n ∧ (0 < n → ∃ L, AL = some L ∧ ∀ j x, ls[j]? = some x → w.cell? (L.add (j * 2)) = some (.int .i64 x.s) ∧ w.cell? ⟨(L.add (j * 2)).block, (L.add (j * 2)).off + 1, none⟩ = some (.slice x.A x.n x.c) ∧ Rd w x.A x.n x.bs ∧ x.n ≤ maxLen)
theorem RdP.none_ {w : World} : RdP w none 0 [] := ⟨rfl, fun h => by omega⟩
theorem RdP.keep {w w' : World} {AL : Option Addr} {n : Nat} {ls : List Pk} (h : RdP w AL n ls) (hb : Below w.heap.size w w') : RdP w' AL n ls := by
  refine ⟨h.1, fun hn => ?_⟩
  obtain ⟨L, e, hc⟩ := h.2 hn
  refine ⟨L, e, fun j x hx => ?_⟩
  obtain ⟨h1, h2, h3, h4⟩ := hc j x hx
  exact ⟨(hb.cell (World.block_lt_of_cell? _ _ h1)).trans h1, (hb.cell (World.block_lt_of_cell? _ _ h2)).trans h2, h3.below hb, h4⟩
theorem RdP.at_ {w : World} {AL : Option Addr} {n k : Nat} {ls : List Pk} (h : RdP w AL n ls) (hk : k < n) :
    ∃ L x, AL = some L ∧ L.block < w.heap.size ∧ ls[k]? = some x ∧ w.cell? (L.add (k * 2)) = some (.int .i64 x.s) ∧ w.cell? ⟨(L.add (k * 2)).block, (L.add (k * 2)).off + 1, none⟩ = some (.slice x.A x.n x.c) ∧ Rd w x.A x.n x.bs ∧ x.n ≤ maxLen := by
  obtain ⟨L, e, hc⟩ := h.2 (by omega)
  have hl : k < ls.length := by have := h.1; omega
  obtain ⟨h1, h2, h3, h4⟩ := hc k _ (List.getElem?_eq_getElem hl)
  have hb := World.block_lt_of_cell? _ _ h1
  rw [block_of_add] at hb
  exact ⟨L, ls[k], e, hb, List.getElem?_eq_getElem hl, h1, h2, h3, h4⟩
theorem isAggPk (w : World) : (isAgg 46).run Try.prog w = .ok true w := by kernel_rfl
theorem sizePk (w : World) : (sizeOf 46).run Try.prog w = .ok 2 w := by kernel_rfl
/-- what waits, as a value -/
abbrev jtV (on : Bool) (nx dp dr : Int) (A : Option Addr) (n c : Nat) : Value := .agg #[.bool on, .int .i64 nx, .int .i64 dp, .int .i64 dr, .slice A n c]
/-- an answer that is a value; all that was there is as it was -/
def ValQ (w : World) (v : Value) (e : Ending) (w' : World) : Prop := e = .returned v ∧ Below w.heap.size w w'
/-- whether a packet may not be -/
def wrong (s : Int) (n : Nat) : Bool := decide (s < 0 ∨ 1099511627776 < s ∨ (n : Int) < 1 ∨ (40 : Int) < (n : Int))
theorem ret_of {v v' : Value} (h : v = v') : Ending.returned v = Ending.returned v' := by rw [h]
set_option maxHeartbeats 1000000 in
theorem isWrong_any (s : Int) (A : Option Addr) (n c : Nat) (w : World) :
    Calls Try.prog 33 #[.agg #[.int .i64 s, .slice A n c]] w (ValQ w (.bool (wrong s n))) := by
  by_cases h1 : s < 0
  · have HV := Lib.hid (show wrong s n = true from decide_eq_true (.inl h1))
    go_enter Try.func33, Try.ntmps33
    go_wp2
    go_ret
    exact ⟨by rw [HV.out]; rfl, (Below.refl _ _).alloc (Nat.le_refl _) _⟩
  by_cases h2 : 1099511627776 < s
  · have HV := Lib.hid (show wrong s n = true from decide_eq_true (.inr (.inl h2)))
    go_enter Try.func33, Try.ntmps33
    go_wp2
    go_ret
    exact ⟨by rw [HV.out]; rfl, (Below.refl _ _).alloc (Nat.le_refl _) _⟩
  by_cases h3 : (n : Int) < 1
  · have HV := Lib.hid (show wrong s n = true from decide_eq_true (.inr (.inr (.inl h3))))
    obtain rfl : n = 0 := by omega
    go_enter Try.func33, Try.ntmps33
    go_wp2
    go_ret
    exact ⟨by rw [HV.out]; rfl, (Below.refl _ _).alloc (Nat.le_refl _) _⟩
  have hn : 0 < n := by omega
  by_cases h4 : (40 : Int) < (n : Int)
  · have HV := Lib.hid (show wrong s n = true from decide_eq_true (.inr (.inr (.inr h4))))
    go_enter Try.func33, Try.ntmps33
    go_wp2
    go_ret
    exact ⟨by rw [HV.out]; rfl, (Below.refl _ _).alloc (Nat.le_refl _) _⟩
  · have HV := Lib.hid (show wrong s n = false from decide_eq_false (by rintro (h | h | h | h) <;> omega))
    go_enter Try.func33, Try.ntmps33
    go_wp2
    go_ret
    exact ⟨by rw [HV.out]; rfl, (Below.refl _ _).alloc (Nat.le_refl _) _⟩
abbrev num3 (a b c : Int) : Value := .agg #[.int .i64 a, .int .i64 b, .int .i64 c]
theorem numbersOf_any (on : Bool) (nx dp dr : Int) (A : Option Addr) (n c : Nat) (w : World) :
    Calls Try.prog 29 #[jtV on nx dp dr A n c] w (ValQ w (num3 nx dp dr)) := by
  go_enter Try.func29, Try.ntmps29
  go_wp2
  exact bodyPost_ret (v := num3 nx dp dr) (by simp [results, Try.results29, go_sem]) rfl ⟨rfl, ((Below.refl _ _).alloc (Nat.le_refl _) _).alloc (by simp) _⟩
theorem least_any (w : World) :
    Calls Try.prog 51 #[] w (ValQ w (num3 0 1 0)) := by
  go_enter Try.func51, Try.ntmps51
  go_wp2
  exact bodyPost_ret (v := num3 0 1 0) (by simp [results, Try.results51, go_sem]) rfl ⟨rfl, (Below.refl _ _).alloc (Nat.le_refl _) _⟩
/-- the most that numbers may be -/
def mostX (on : Bool) : Int := if on then 2199023255552 else 0
def mostD (on : Bool) : Int := if on then 11 else 0
theorem most_any (on : Bool) (w : World) :
    Calls Try.prog 39 #[.bool on] w (ValQ w (num3 (mostX on) 16 (mostD on))) := by
  cases on
  · go_enter Try.func39, Try.ntmps39
    go_wp2
    exact bodyPost_ret (v := num3 0 16 0) (by simp [results, Try.results39, go_sem]) rfl ⟨rfl, (Below.refl _ _).alloc (Nat.le_refl _) _⟩
  · go_enter Try.func39, Try.ntmps39
    go_wp2
    exact bodyPost_ret (v := num3 2199023255552 16 11) (by simp [results, Try.results39, go_sem]) rfl ⟨rfl, (Below.refl _ _).alloc (Nat.le_refl _) _⟩
theorem fresh_any (d : Int) (w : World) :
    Calls Try.prog 28 #[.int .i64 d] w (ValQ w (jtV false 0 d 0 none 0 0)) := by
  go_enter Try.func28, Try.ntmps28
  go_wp2
  exact bodyPost_ret (v := jtV false 0 d 0 none 0 0) (by simp [results, Try.results28, go_sem]) rfl ⟨rfl, (Below.refl _ _).alloc (Nat.le_refl _) _⟩
/-- whether packets from one number to another may stand there -/
def fitsB (on : Bool) (nx lo hi : Int) : Bool := if on then decide (nx ≤ lo) && decide (hi < nx + 64) else decide (hi < lo + 64)
set_option maxHeartbeats 1000000 in
theorem fits_any (on : Bool) (nx dp dr lo hi : Int) (A : Option Addr) (n c : Nat) (w : World) (h1 : 0 ≤ nx) (h2 : nx ≤ 2199023255552) (h3 : 0 ≤ lo) (h4 : lo ≤ 1099511627776) :
    Calls Try.prog 40 #[jtV on nx dp dr A n c, .int .i64 lo, .int .i64 hi] w (ValQ w (.bool (fitsB on nx lo hi))) := by
  cases on
  · go_enter Try.func40, Try.ntmps40
    go_wp2
    go_ret
    exact ⟨rfl, (Below.refl _ _).alloc (Nat.le_refl _) _⟩
  · by_cases h : nx ≤ lo
    · have HV := Lib.hid (show fitsB true nx lo hi = decide (hi < nx + 64) by simp [fitsB, h])
      go_enter Try.func40, Try.ntmps40
      go_wp2
      go_ret
      exact ⟨by rw [HV.out]; rfl, (Below.refl _ _).alloc (Nat.le_refl _) _⟩
    · have HV := Lib.hid (show fitsB true nx lo hi = false by simp [fitsB, h])
      go_enter Try.func40, Try.ntmps40
      go_wp2
      go_ret
      exact ⟨by rw [HV.out]; rfl, (Below.refl _ _).alloc (Nat.le_refl _) _⟩
set_option maxHeartbeats 1000000 in
theorem last_any (on : Bool) (nx dp dr : Int) (A : Option Addr) (n c : Nat) (ls : List Pk) (x : Pk) (w : World) (hr : Hid (RdP w A n ls)) (hn : n ≤ 281474976710656) (h0 : 0 < n) (hx : Hid (ls[n - 1]? = some x)) :
    Calls Try.prog 41 #[jtV on nx dp dr A n c] w (ValQ w (.int .i64 x.s)) := by
  obtain ⟨L, y, rfl, hL, hy, c0, c1, -⟩ := hr.out.at_ (k := n - 1) (by omega)
  obtain rfl : y = x := by rw [hx.out] at hy; injection hy with hy; exact hy.symm
  obtain ⟨m, rfl⟩ : ∃ m, n = m + 1 := ⟨n - 1, by omega⟩
  rw [show m + 1 - 1 = m from rfl] at c0 c1
  have hL2 : (L.add (m * 2)).block < w.heap.size := by rw [block_of_add]; exact hL
  clear hy hx c1
  go_enter Try.func41, Try.ntmps41
  go_wp2
  go_ret
  exact ⟨rfl, (Below.refl _ _).alloc (Nat.le_refl _) _⟩
set_option maxHeartbeats 1000000 in
theorem first_any (on : Bool) (nx dp dr : Int) (A : Option Addr) (n c : Nat) (ls : List Pk) (x : Pk) (w : World) (hr : Hid (RdP w A n ls)) (h0 : on = false → 0 < n) (hx : Hid (on = false → ls[0]? = some x)) :
    Calls Try.prog 42 #[jtV on nx dp dr A n c] w (ValQ w (.int .i64 (if on then nx else x.s))) := by
  cases on
  · obtain ⟨L, y, rfl, hL, hy, c0, c1, -⟩ := hr.out.at_ (k := 0) (h0 rfl)
    obtain rfl : y = x := by rw [hx.out rfl] at hy; injection hy with hy; exact hy.symm
    have n0 : 0 < n := h0 rfl
    rw [Nat.zero_mul, Addr.add_zero'] at c0
    clear hy hx c1 h0
    go_enter Try.func42, Try.ntmps42
    go_wp2
    go_ret
    exact ⟨rfl, (Below.refl _ _).alloc (Nat.le_refl _) _⟩
  · go_enter Try.func42, Try.ntmps42
    go_wp2
    go_ret
    exact ⟨rfl, (Below.refl _ _).alloc (Nat.le_refl _) _⟩
end Go.Proofs.Ytffapinabidkiaa.Lp
