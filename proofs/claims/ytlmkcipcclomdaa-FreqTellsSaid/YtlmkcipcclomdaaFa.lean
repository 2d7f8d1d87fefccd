/-
  What isSize, outside, slices.IndexFunc and slices.ContainsFunc with it, and sum answer.
-/
import Derived.Test.YtlmkcipcclomdaaChecked
import Derived.Test.YtlmkcipcclomdaaFm
import Derived.WalkKit
import Derived.WalkSpells
import Derived.WalkLawsBesides
import Derived.Lib.Small
import Derived.Lib.Walk
import Derived.Lib.Hide
import Derived.Deep.QuietTactic
import Derived.BigQuiet
namespace Go.Proofs.Ytlmkcipcclomdaa.Fq
open Go.RowKit

theorem isSize_yes (n : Int) (w : World) (h1 : 1 ≤ n) (h2 : n ≤ 256) :
    Calls Try.prog 24 #[.int .i64 n] w fun e w' => e = .returned (.bool true) ∧ w = w' := by
  go_enter Try.func24, Try.ntmps24
  go_wp2
  all_goals (go_ret; exact ⟨rfl, rfl⟩)
theorem isSize_no (n : Int) (w : World) (h : n < 1 ∨ 256 < n) :
    Calls Try.prog 24 #[.int .i64 n] w fun e w' => e = .returned (.bool false) ∧ w = w' := by
  rcases h with h | h
  · have h' : decide (1 ≤ n) = false := by simp; omega
    go_enter Try.func24, Try.ntmps24
    go_wp2
    all_goals (go_ret; exact ⟨rfl, rfl⟩)
  · have h' : decide (1 ≤ n) = true := by simp; omega
    have h2 : decide (n ≤ 256) = false := by simp; omega
    go_enter Try.func24, Try.ntmps24
    go_wp2
    all_goals (go_ret; exact ⟨rfl, rfl⟩)
/-- the function value that outside answers -/
def outV (g : Nat) : Value := .func (.func 36) #[] #[.pointer (some ⟨g, 0, none⟩), .pointer (some ⟨g + 1, 0, none⟩)]
/-- its two variables hold a and b -/
def OutIn (w : World) (g : Nat) (a b : Int) : Prop := w.cell? ⟨g, 0, none⟩ = some (.int .i64 a) ∧ w.cell? ⟨g + 1, 0, none⟩ = some (.int .i64 b)
theorem outside_any (a b : Int) (w : World) :
    Calls Try.prog 27 #[.int .i64 a, .int .i64 b] w fun e w' => e = .returned (outV w.heap.size) ∧ OutIn w' w.heap.size a b ∧ Below w.heap.size w w' := by
  go_enter Try.func27, Try.ntmps27
  go_wp2
  go_ret
  refine ⟨rfl, ⟨?_, ?_⟩, ?_⟩
  · exact ((Blk.new w 3 #[.int .i64 a]).alloc _).cell 0
  · exact (Blk.newAt (w := w.alloc (.cells #[.int .i64 a] 3)) (t := 3) (cs := #[.int .i64 b]) (by simp)).cell 0
  · exact ((Below.refl _ w).alloc (Nat.le_refl _) _).alloc (by simp) _
/-- what is no count -/
def badI (a b x : Int) : Bool := decide (x < a) || decide (b < x)
theorem outside1_any (a b x : Int) (g : Nat) (r : Bool) (w : World) (h : OutIn w g a b) (hr : badI a b x = r) :
    Calls Try.prog 36 #[.int .i64 x, .pointer (some ⟨g, 0, none⟩), .pointer (some ⟨g + 1, 0, none⟩)] w fun e w' => e = .returned (.bool r) ∧ w = w' := by
  obtain ⟨h1, h2⟩ := h
  have HR := Lib.hid hr
  clear hr
  by_cases c1 : x < a
  · have d1 : decide (x < a) = true := by simpa using c1
    go_enter Try.func36, Try.ntmps36
    go_wp2
    all_goals (go_ret; exact ⟨by rw [← HR.out]; simp [badI, c1], rfl⟩)
  · have d1 : decide (x < a) = false := by simpa using c1
    by_cases c2 : b < x
    · have d2 : decide (b < x) = true := by simpa using c2
      go_enter Try.func36, Try.ntmps36
      go_wp2
      all_goals (go_ret; exact ⟨by rw [← HR.out]; simp [badI, c2], rfl⟩)
    · have d2 : decide (b < x) = false := by simpa using c2
      go_enter Try.func36, Try.ntmps36
      go_wp2
      all_goals (go_ret; exact ⟨by rw [← HR.out]; simp [badI, c1, c2], rfl⟩)
/-- whether there is one among them -/
def anyBad (a b : Int) (zs : List Int) : Bool := zs.any (badI a b)
/-- where the first one is -/
def firstBad (a b : Int) : List Int → Option Nat
  | [] => none
  | x :: l => if badI a b x = true then some 0 else (firstBad a b l).map (· + 1)
set_option maxHeartbeats 1000000 in
theorem indexFunc_none (a b : Int) (g : Nat) (A : Option Addr) (n c : Nat) (zs : List Int) (w : World) (ho : Hid (OutIn w g a b)) (hr : Hid (RdI w A n zs)) (hn : n ≤ 9223372036854775807) (hbad : Hid (∀ k, k < n → badI a b (zs.getD k 0) = false)) :
    Calls Try.prog 35 #[.slice A n c, outV g] w fun e w' => e = .returned (.int .i64 (-1)) ∧ w = w' := by
  unfold outV
  go_enter Try.func35, Try.ntmps35
  go_wp2
  go_loop [5, 8] (fun _ i => ∃ k : Nat, k ≤ n ∧ i = .int .i64 (k : Int)) (fun _ i => n - (intOf i).toNat)
  case atStart => exact ⟨0, by omega, rfl⟩
  case round =>
    obtain ⟨k, hk, rfl⟩ := hrel
    by_cases hlt : k < n
    · obtain ⟨ad, rfl, _, hcell⟩ := hr.out.at_ hlt
      have HK := Lib.hid (hbad.out k hlt)
      generalize zs.getD k 0 = x at hcell HK
      go_wp2_with (go_at_call 36; refine (outside1_any a b x g false _ ho.out HK.out).mono ?_; rintro e w' ⟨rfl, rfl⟩)
      go_round
      case rel => exact ⟨k + 1, by omega, by go_num⟩
      case measure => simp [intOf]; omega
    · go_wp2
      go_ret
      exact ⟨rfl, rfl⟩
set_option maxHeartbeats 1000000 in
theorem indexFunc_some (a b : Int) (g m : Nat) (A : Option Addr) (n c : Nat) (zs : List Int) (w : World) (ho : Hid (OutIn w g a b)) (hr : Hid (RdI w A n zs)) (hn : n ≤ 9223372036854775807) (hm : m < n) (hbad : Hid (∀ k, k < m → badI a b (zs.getD k 0) = false)) (hat : Hid (badI a b (zs.getD m 0) = true)) :
    Calls Try.prog 35 #[.slice A n c, outV g] w fun e w' => e = .returned (.int .i64 (m : Int)) ∧ w = w' := by
  unfold outV
  go_enter Try.func35, Try.ntmps35
  go_wp2
  go_loop [5, 8] (fun _ i => ∃ k : Nat, k ≤ m ∧ i = .int .i64 (k : Int)) (fun _ i => n - (intOf i).toNat)
  case atStart => exact ⟨0, by omega, rfl⟩
  case round =>
    obtain ⟨k, hk, rfl⟩ := hrel
    have hlt : k < n := by omega
    obtain ⟨ad, rfl, _, hcell⟩ := hr.out.at_ hlt
    by_cases hkm : k < m
    · have HK := Lib.hid (hbad.out k hkm)
      generalize zs.getD k 0 = x at hcell HK
      go_wp2_with (go_at_call 36; refine (outside1_any a b x g false _ ho.out HK.out).mono ?_; rintro e w' ⟨rfl, rfl⟩)
      go_round
      case rel => exact ⟨k + 1, by omega, by go_num⟩
      case measure => simp [intOf]; omega
    · obtain rfl : k = m := by omega
      have HK := Lib.hid hat.out
      clear hat
      generalize zs.getD k 0 = x at hcell HK
      go_wp2_with (go_at_call 36; refine (outside1_any a b x g true _ ho.out HK.out).mono ?_; rintro e w' ⟨rfl, rfl⟩)
      go_ret
      exact ⟨rfl, rfl⟩
theorem anyBad_false {a b : Int} {zs : List Int} (h : anyBad a b zs = false) (k : Nat) (hk : k < zs.length) : badI a b (zs.getD k 0) = false := by
  unfold anyBad at h
  rw [List.any_eq_false] at h
  have := h _ (mem_getD hk)
  simpa using this
theorem anyBad_true {a b : Int} {zs : List Int} (h : anyBad a b zs = true) : ∃ m, m < zs.length ∧ badI a b (zs.getD m 0) = true ∧ ∀ k, k < m → badI a b (zs.getD k 0) = false := by
  induction zs with
  | nil => simp [anyBad] at h
  | cons x l ih =>
    by_cases hx : badI a b x = true
    · exact ⟨0, by simp, by simpa using hx, fun k hk => by omega⟩
    · have hl : anyBad a b l = true := by
        unfold anyBad at h ⊢
        rw [List.any_cons] at h
        simpa [hx] using h
      obtain ⟨m, hm, h1, h2⟩ := ih hl
      refine ⟨m + 1, by simp; omega, by simpa using h1, fun k hk => ?_⟩
      cases k with
      | zero => simpa using hx
      | succ k => simpa using h2 k (by omega)
theorem containsFunc_any (a b : Int) (g : Nat) (A : Option Addr) (n c : Nat) (zs : List Int) (r : Bool) (w : World) (ho : OutIn w g a b) (hr : RdI w A n zs) (hn : n ≤ 9223372036854775807) (hb : anyBad a b zs = r) :
    Calls Try.prog 26 #[.slice A n c, outV g] w fun e w' => e = .returned (.bool r) ∧ w = w' := by
  cases r with
  | false =>
    have hcon := indexFunc_none a b g A n c zs w (Lib.hid ho) (Lib.hid hr) hn (Lib.hid fun k hk => anyBad_false hb k (by have := hr.1; omega))
    unfold outV at hcon ⊢
    clear hb ho hr
    go_enter Try.func26, Try.ntmps26
    go_wp2_with (go_at_call 35; refine hcon.mono ?_; rintro e w' ⟨rfl, rfl⟩)
    go_ret
    exact ⟨rfl, rfl⟩
  | true =>
    obtain ⟨m, hm, h1, h2⟩ := anyBad_true hb
    have hcon := indexFunc_some a b g m A n c zs w (Lib.hid ho) (Lib.hid hr) hn (by have := hr.1; omega) (Lib.hid h2) (Lib.hid h1)
    unfold outV at hcon ⊢
    clear hb ho hr hm h1 h2
    go_enter Try.func26, Try.ntmps26
    go_wp2_with (go_at_call 35; refine hcon.mono ?_; rintro e w' ⟨rfl, rfl⟩)
    go_ret
    exact ⟨rfl, rfl⟩
set_option maxHeartbeats 1000000 in
theorem sum_any (A : Option Addr) (n c : Nat) (zs : List Int) (M : Int) (s : Int) (w : World) (hr : Hid (RdI w A n zs)) (hn : n ≤ 1000) (hM0 : 0 ≤ M) (hM : M ≤ 2251799813685248) (hz : Hid (∀ x ∈ zs, 0 ≤ x ∧ x ≤ M)) (hs : Hid (tot zs = s)) :
    Calls Try.prog 28 #[.slice A n c] w fun e w' => e = .returned (.int .i64 s) ∧ w = w' := by
  go_enter Try.func28, Try.ntmps28
  go_wp2
  go_loop [3, 5, 8] (fun v _ i => ∃ k : Nat, k ≤ n ∧ i = .int .i64 (k : Int) ∧ v = .int .i64 (tot (zs.take k))) (fun _ _ i => n - (intOf i).toNat)
  case atStart => exact ⟨0, by omega, rfl, rfl⟩
  case round =>
    obtain ⟨k, hk, rfl, rfl⟩ := hrel
    have HL := Lib.hid hr.out.1
    have hb := take_bd hz.out (by rw [HL.out]; exact Nat.le_refl n) hM0 k
    have hb1 : M * (n : Int) ≤ 2251799813685248 * 1000 := Int.le_trans (Int.mul_le_mul_of_nonneg_left (show (n : Int) ≤ 1000 by omega) hM0) (Int.mul_le_mul_of_nonneg_right hM (by omega))
    have b1 := hb.1
    have b2 : tot (zs.take k) ≤ 2251799813685248000 := by have := hb.2; omega
    clear hb hb1
    by_cases hlt : k < n
    · obtain ⟨ad, rfl, _, hcell⟩ := hr.out.at_ hlt
      have HT := Lib.hid (tot_snoc zs k (by rw [HL.out]; exact hlt))
      have hx := hz.out _ (mem_getD (l := zs) (k := k) (by rw [HL.out]; exact hlt))
      generalize zs.getD k 0 = x at hcell HT hx
      generalize tot (zs.take k) = t at HT b1 b2
      obtain ⟨x1, x2⟩ := hx
      have x3 : x ≤ 2251799813685248 := by omega
      go_wp2
      go_round
      case rel => exact ⟨k + 1, by omega, by go_num, by rw [HT.out]⟩
      case measure => simp [intOf]; omega
    · obtain rfl : k = n := by omega
      have HK := Lib.hid (show zs.take k = zs from List.take_of_length_le (by rw [HL.out]; exact Nat.le_refl _))
      rw [HK.out, hs.out]
      rw [HK.out, hs.out] at b1 b2
      go_wp2
      go_ret
      exact ⟨rfl, rfl⟩
end Go.Proofs.Ytlmkcipcclomdaa.Fq
