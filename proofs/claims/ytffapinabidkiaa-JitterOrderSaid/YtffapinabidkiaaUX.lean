/-
  Ints compared; whether a number is in a list; whether packets are few.
-/
import Derived.Test.YtffapinabidkiaaUW
import Derived.LoopTactic
set_option linter.unusedSimpArgs false
set_option linter.unusedVariables false
/- UX -/
namespace Go.Proofs.Ytffapinabidkiaa.Lp
open Go.RowKit Go.Proofs.Ytffapinabidkiaa.Fq
theorem eq_of_at {xs ys : List Int} (hl : xs.length = ys.length) (h : ∀ k, k < xs.length → xs.getD k 0 = ys.getD k 0) : xs = ys := by
  refine List.ext_getElem? fun k => ?_
  by_cases hk : k < xs.length
  · rw [get_of_lt hk, get_of_lt (zs := ys) (by omega), h k hk]
  · rw [List.getElem?_eq_none (by omega), List.getElem?_eq_none (by omega)]
theorem ne_at {xs ys : List Int} (hl : xs.length = ys.length) (h : xs ≠ ys) : ∃ p, p < xs.length ∧ xs.getD p 0 ≠ ys.getD p 0 ∧ ∀ k, k < p → xs.getD k 0 = ys.getD k 0 := by
  have key : ∀ N, (∃ p, p < N ∧ xs.getD p 0 ≠ ys.getD p 0 ∧ ∀ k, k < p → xs.getD k 0 = ys.getD k 0) ∨ ∀ k, k < N → xs.getD k 0 = ys.getD k 0 := by
    intro N
    induction N with
    | zero => exact .inr fun k hk => by omega
    | succ N ih =>
      rcases ih with ⟨m, hm, h5, h6⟩ | h5
      · exact .inl ⟨m, by omega, h5, h6⟩
      · by_cases h6 : xs.getD N 0 = ys.getD N 0
        · refine .inr fun k hk => ?_
          rcases Nat.lt_or_ge k N with h7 | h7
          · exact h5 k h7
          · have : k = N := by omega
            subst this; exact h6
        · exact .inl ⟨N, by omega, h6, h5⟩
  rcases key xs.length with h1 | h1
  · exact h1
  · exact absurd (eq_of_at hl h1) h
set_option maxRecDepth 100000 in
set_option maxHeartbeats 1000000 in
theorem requal_lens (A B : Option Addr) (n m c d : Nat) (w : World) (hne : ¬ n = m) :
    Calls Try.prog 18 #[.slice A n c, .slice B m d] w fun e w' => e = .returned (.bool false) ∧ ∃ q, w' = w.drewN q := by
  have d1 : ((n : Int) != (m : Int)) = true := by simp; omega
  have d2 : (n != m) = true := by simp; omega
  go_enter Try.func18, Try.ntmps18
  go_wp2
  go_ret
  exact ⟨rfl, 0, rfl⟩
set_option maxRecDepth 100000 in
set_option maxHeartbeats 1000000 in
theorem requal_yes (A B : Option Addr) (n c d : Nat) (xs : List Int) (w : World) (hn : n ≤ maxLen) (hx : Hid (RdI w A n xs)) (hy : Hid (RdI w B n xs)) :
    Calls Try.prog 18 #[.slice A n c, .slice B n d] w fun e w' => e = .returned (.bool true) ∧ ∃ q, w' = w.drewN q := by
  unfold maxLen at hn
  have d1 : ((n : Int) != (n : Int)) = false := by simp
  go_enter Try.func18, Try.ntmps18
  go_wp2
  go_loopw [5, 13] (fun _ i wr => ∃ k q : Nat, k ≤ n ∧ i = .int .i64 (k : Int) ∧ wr = w.drewN q) (fun _ i _ => n - (intOf i).toNat)
  case atStart => exact ⟨0, 0, by omega, rfl, rfl⟩
  case round =>
    obtain ⟨k, q, hk, rfl, rfl⟩ := hrel
    by_cases hlt : k < n
    · obtain ⟨ad, rfl, -, -⟩ := hx.out.at_ hlt
      obtain ⟨bd, rfl, -, -⟩ := hy.out.at_ hlt
      have x0 := hx.out.cell hlt
      have y0 := hy.out.cell hlt
      generalize xs.getD k 0 = a at x0 y0
      have d3 : (a != a) = false := by simp
      have i4 : (k : Int) < (n : Int) := by omega
      go_wp2_with fail
      go_quiet (fail)
      go_wp2
      go_roundw
      case rel => exact ⟨k + 1, q + nq, by omega, by go_num, by first | rfl | rw [World.drewN_drewN]⟩
      case measure => simp [intOf]; omega
    · go_wp2
      go_ret
      exact ⟨rfl, q, rfl⟩
set_option maxRecDepth 100000 in
set_option maxHeartbeats 1000000 in
theorem requal_no (A B : Option Addr) (n c d p : Nat) (xs ys : List Int) (w : World) (hn : n ≤ maxLen) (hx : Hid (RdI w A n xs)) (hy : Hid (RdI w B n ys)) (hp : p < n) (hd : Hid (xs.getD p 0 ≠ ys.getD p 0)) (hs : Hid (∀ k, k < p → xs.getD k 0 = ys.getD k 0)) :
    Calls Try.prog 18 #[.slice A n c, .slice B n d] w fun e w' => e = .returned (.bool false) ∧ ∃ q, w' = w.drewN q := by
  unfold maxLen at hn
  have d1 : ((n : Int) != (n : Int)) = false := by simp
  go_enter Try.func18, Try.ntmps18
  go_wp2
  go_loopw [5, 13] (fun _ i wr => ∃ k q : Nat, k ≤ p ∧ i = .int .i64 (k : Int) ∧ wr = w.drewN q) (fun _ i _ => n - (intOf i).toNat)
  case atStart => exact ⟨0, 0, by omega, rfl, rfl⟩
  case round =>
    obtain ⟨k, q, hk, rfl, rfl⟩ := hrel
    have hlt : k < n := by omega
    obtain ⟨ad, rfl, -, -⟩ := hx.out.at_ hlt
    obtain ⟨bd, rfl, -, -⟩ := hy.out.at_ hlt
    have x0 := hx.out.cell hlt
    have y0 := hy.out.cell hlt
    have i4 : (k : Int) < (n : Int) := by omega
    by_cases hkp : k < p
    · rw [← hs.out k hkp] at y0
      generalize xs.getD k 0 = a at x0 y0
      have d3 : (a != a) = false := by simp
      go_wp2_with fail
      go_quiet (fail)
      go_wp2
      go_roundw
      case rel => exact ⟨k + 1, q + nq, by omega, by go_num, by first | rfl | rw [World.drewN_drewN]⟩
      case measure => simp [intOf]; omega
    · obtain rfl : k = p := by omega
      have hne := hd.out
      clear hd
      generalize xs.getD k 0 = a at x0 hne
      generalize ys.getD k 0 = b at y0 hne
      have d3 : (a != b) = true := by simpa using hne
      go_wp2_with fail
      go_quiet (fail)
      go_wp2
      go_ret
      exact ⟨rfl, q + nq, by first | rfl | rw [World.drewN_drewN]⟩
theorem requal_any (A B : Option Addr) (n m c d : Nat) (xs ys : List Int) (r : Bool) (w : World) (hn : n ≤ maxLen) (hm : m ≤ maxLen) (hx : RdI w A n xs) (hy : RdI w B m ys) (hr : decide (xs = ys) = r) :
    Calls Try.prog 18 #[.slice A n c, .slice B m d] w fun e w' => e = .returned (.bool r) ∧ ∃ q, w' = w.drewN q := by
  by_cases he : n = m
  · subst he
    cases r with
    | true =>
      obtain rfl := of_decide_eq_true hr
      exact requal_yes A B n c d xs w hn (Lib.hid hx) (Lib.hid hy)
    | false =>
      have hl : xs.length = ys.length := by rw [hx.1, hy.1]
      obtain ⟨p, hp, h1, h2⟩ := ne_at hl (of_decide_eq_false hr)
      exact requal_no A B n c d p xs ys w hn (Lib.hid hx) (Lib.hid hy) (by rw [← hx.1]; exact hp) (Lib.hid h1) (Lib.hid h2)
  · have : r = false := by
      rw [← hr]
      refine decide_eq_false fun e => he ?_
      rw [← hx.1, ← hy.1, e]
    subst this
    exact requal_lens A B n m c d w he
set_option maxHeartbeats 2000000 in
theorem has_any (A : Option Addr) (n c : Nat) (xs : List Int) (x : Int) (w : World) (h : Hid (RdI w A n xs)) (hn : n ≤ 281474976710656) :
    Calls Try.prog 27 #[.slice A n c, .int .i64 x] w (ValQ w (.bool (decide (x ∈ xs)))) := by
  have h1 : n ≤ 9223372036854775807 := by omega
  clear hn
  go_enter Try.func27, Try.ntmps27
  go_wp2_with fail
  go_loop [9] (fun vi => ∃ k : Nat, vi = .int .i64 (k : Int) ∧ k ≤ n ∧ Hid (∀ j, j < k → xs.getD j 0 ≠ x)) (fun vi => n - (intOf vi).toNat)
  case atStart => exact ⟨0, rfl, by omega, Lib.hid (fun j hj => by omega)⟩
  case round =>
    obtain ⟨k, rfl, hk, HK⟩ := hrel
    by_cases hlt : k < n
    · have kn : (k : Int) < (n : Int) := by omega
      obtain ⟨ad, rfl, had, hc⟩ := h.out.at_ hlt
      by_cases hx : xs.getD k 0 = x
      · have d1 : (xs.getD k 0 == x) = true := by simpa using hx
        have HV := Lib.hid (show decide (x ∈ xs) = true from decide_eq_true (by rw [← hx]; have hl : k < xs.length := by rw [h.out.1]; exact hlt
                                                                                rw [List.getD_eq_getElem?_getD, List.getElem?_eq_getElem hl]; exact List.getElem_mem hl))
        generalize xs.getD k 0 = y at hc d1
        clear hx
        go_wp2_with fail
        go_ret
        exact ⟨by rw [HV.out]; rfl, Below.refl _ _⟩
      · have d1 : (xs.getD k 0 == x) = false := by simpa using hx
        have HX := Lib.hid hx
        generalize xs.getD k 0 = y at hc d1
        clear hx
        go_wp2_with fail
        go_round
        case rel =>
          refine ⟨k + 1, by first | rfl | go_num, by omega, Lib.hid fun j hj => ?_⟩
          by_cases hjk : j < k
          · exact HK.out j hjk
          · obtain rfl : j = k := by omega
            exact HX.out
        case measure => simp [intOf]; omega
    · obtain rfl : k = n := by omega
      have HV := Lib.hid (show decide (x ∈ xs) = false from decide_eq_false (fun hm => by
        obtain ⟨j, hj⟩ := List.mem_iff_getElem?.1 hm
        have hl := (List.getElem?_eq_some_iff.1 hj).1
        refine HK.out j (by rw [← h.out.1]; exact hl) ?_
        rw [List.getD_eq_getElem?_getD, hj]; rfl))
      go_wp2_with fail
      go_ret
      exact ⟨by rw [HV.out]; rfl, Below.refl _ _⟩
end Go.Proofs.Ytffapinabidkiaa.Lp
