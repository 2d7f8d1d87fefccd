/-
  What slices' symMerge, stable sort and SortStableFunc do with greatestFirst's comparison: they change places alone.
-/
import Derived.Test.YtlmkcipcclomdaaFn
namespace Go.Proofs.Ytlmkcipcclomdaa.Fq
open Go.RowKit

/-- symMerge changes places alone, where b - a is at most N -/
def SymUpTo (N : Nat) : Prop := ∀ (B C n c a m b : Nat) (ls : List Int) (xs : List Nat) (w wr : World), Hid (CmpOk w B C ls) → Hid (Ins xs ls.length) → Hid (xs.length = n) → Hid (CSt w wr B xs) → a < m → m < b → b ≤ n → n ≤ 1000000 → b - a ≤ N →
    Calls Try.prog 46 #[.slice (some ⟨B, 0, none⟩) n c, .int .i64 (a : Int), .int .i64 (m : Int), .int .i64 (b : Int), cmpV C] wr (ChP w B xs)
theorem SymUpTo.at_ {N : Nat} (h : SymUpTo N) (B C n c a m b : Nat) (ls : List Int) (xs : List Nat) (w wr : World) (hc : Hid (CmpOk w B C ls)) (hi : Hid (Ins xs ls.length)) (hl : Hid (xs.length = n)) (hs : Hid (CSt w wr B xs)) (ha : a < m) (hm : m < b) (hb : b ≤ n) (hn : n ≤ 1000000) (hN : b - a ≤ N) :
    Calls Try.prog 46 #[.slice (some ⟨B, 0, none⟩) n c, .int .i64 (a : Int), .int .i64 (m : Int), .int .i64 (b : Int), .func (.func 38) #[] #[.pointer (some ⟨C, 0, none⟩)]] wr (ChP w B xs) :=
  h B C n c a m b ls xs w wr hc hi hl hs ha hm hb hn hN
set_option maxRecDepth 100000 in
set_option maxHeartbeats 8000000 in
theorem symMany (N : Nat) (HN : Hid (SymUpTo N)) (B C n c a m b : Nat) (ls : List Int) (xs : List Nat) (w wr : World) (hc : Hid (CmpOk w B C ls)) (hi : Hid (Ins xs ls.length)) (hl : Hid (xs.length = n)) (hs : Hid (CSt w wr B xs)) (ha : a < m) (hm : m < b) (hb : b ≤ n) (hn : n ≤ 1000000) (hN : b - a ≤ N + 1) (h1 : ¬ m = a + 1) (h2 : ¬ b = m + 1) :
    Calls Try.prog 46 #[.slice (some ⟨B, 0, none⟩) n c, .int .i64 (a : Int), .int .i64 (m : Int), .int .i64 (b : Int), cmpV C] wr (ChP w B xs) := by
  unfold cmpV
  have d0 : ((m : Int) - (a : Int) == 1) = false := by simp; omega
  have d1 : ((b : Int) - (m : Int) == 1) = false := by simp; omega
  obtain ⟨mid, hmid⟩ : ∃ mid, mid = (a + b) / 2 := ⟨_, rfl⟩
  have e0 : ((a : Int) + (b : Int)) / 2 = (mid : Int) := by rw [hmid]; exact half_is a b
  have k1 : a + 1 < mid := by omega
  have k2 : mid + 1 < b := by omega
  have k3 : 2 * mid ≤ a + b := by omega
  have k4 : a + b ≤ 2 * mid + 1 := by omega
  obtain ⟨nn, hnn⟩ : ∃ nn, nn = mid + m := ⟨_, rfl⟩
  have e2 : (mid : Int) + (m : Int) = (nn : Int) := by omega
  have e3 : (nn : Int) - 1 = ((nn - 1 : Nat) : Int) := by omega
  obtain ⟨pp, hpp⟩ : ∃ pp, pp = nn - 1 := ⟨_, rfl⟩
  rw [← hpp] at e3
  obtain ⟨s0, r0, hsr⟩ : ∃ s0 r0 : Nat, (mid < m ∧ s0 = nn - b ∧ r0 = mid) ∨ (¬ mid < m ∧ s0 = a ∧ r0 = m) := by
    by_cases h : mid < m
    · exact ⟨_, _, .inl ⟨h, rfl, rfl⟩⟩
    · exact ⟨_, _, .inr ⟨h, rfl, rfl⟩⟩
  have q1 : a ≤ s0 := by omega
  have q2 : s0 ≤ r0 := by omega
  have q3 : nn ≤ b + s0 := by omega
  have q4 : r0 ≤ m := by omega
  have q5 : r0 ≤ mid := by omega
  have HNN := Lib.hid hnn
  have HPP := Lib.hid (show pp + 1 = nn by omega)
  have HSR := Lib.hid hsr
  have hend : ∀ s, s0 ≤ s → s ≤ r0 → ∃ ee : Nat, (nn : Int) - (s : Int) = (ee : Int) ∧ ee + s = nn := fun s g1 g2 => ⟨nn - s, by omega, by omega⟩
  have HEND := Lib.hid hend
  clear hnn hpp hsr hmid h1 h2 hend
  rcases HSR.out with ⟨g1, g2, g3⟩ | ⟨g1, g2, g3⟩
  · have e4 : (nn : Int) - (b : Int) = (s0 : Int) := by have := HNN.out; omega
    have HG := Lib.hid (show r0 = mid from g3)
    clear g2 g3
    go_enter Try.func46, Try.ntmps46
    go_wp2
    clear e0 e2 e3 e4 d0 d1
    go_loopw [20, 21, 23] (fun vi vj _ wr2 => ∃ i j : Nat, vi = .int .i64 (i : Int) ∧ vj = .int .i64 (j : Int) ∧ s0 ≤ i ∧ i ≤ j ∧ j ≤ r0 ∧ Hid (CSt w wr2 B xs)) (fun vi vj _ _ => (intOf vj).toNat - (intOf vi).toNat)
    case atStart => exact ⟨s0, mid, rfl, rfl, by omega, by have := HG.out; omega, by have := HG.out; omega, hs⟩
    case round =>
      obtain ⟨i, j, rfl, rfl, hmi, hij, hjb, HZ⟩ := hrel
      by_cases hlt : i < j
      · have hlt' : (i : Int) < (j : Int) := by omega
        obtain ⟨hh, hhe⟩ : ∃ hh, hh = (i + j) / 2 := ⟨_, rfl⟩
        have e1 : ((i : Int) + (j : Int)) / 2 = (hh : Int) := by rw [hhe]; exact half_is i j
        have b1 : i ≤ hh := by omega
        have b2 : hh < j := by omega
        clear hhe
        obtain ⟨dd, hdd⟩ : ∃ dd, dd + hh = pp := ⟨pp - hh, by have := HPP.out; have := HNN.out; omega⟩
        have e2 : (pp : Int) - (hh : Int) = (dd : Int) := by omega
        have b3 : dd < n := by have := HPP.out; have := HNN.out; omega
        have e3 : IntKind.i64.wrap (dd : Int) = (dd : Int) := IntWalk.i64_in _ (by omega)
        clear hdd
        obtain ⟨x, y, v, c1, c0, hcon⟩ := two_cells (p := dd) (q := hh) hc.out hi.out hl.out HZ.out (by omega) (by omega)
        have i1 : (hh : Int) < (n : Int) := by omega
        have i2 : (dd : Int) < (n : Int) := by omega
        have i3 : hh < n := by omega
        by_cases hv : v < 0
        · have dv : decide (v < 0) = true := by simpa using hv
          go_wp2_with fail
          go_quiet ((go_at_call 38; refine Calls.quiet_of (hcon _)))
          clear e1 e2 e3
          go_wp2
          go_roundw
          case rel => exact ⟨i, hh, rfl, rfl, by omega, by omega, by omega, Lib.hid (HZ.out.drewN _)⟩
          case measure => simp [intOf]; omega
        · have dv : decide (v < 0) = false := by simpa using hv
          go_wp2_with fail
          go_quiet ((go_at_call 38; refine Calls.quiet_of (hcon _)))
          clear e1 e2 e3
          go_wp2
          go_roundw
          case rel => exact ⟨hh + 1, j, by go_num, rfl, by omega, by omega, by omega, Lib.hid (HZ.out.drewN _)⟩
          case measure => simp [intOf]; omega
      · have hlt' : ¬ (i : Int) < (j : Int) := by omega
        obtain ⟨ee, e1, hee⟩ := HEND.out i hmi (by omega)
        have b1 : ee ≤ b := by omega
        have b4 : b - mid ≤ N := by omega
        have b5 : mid - a ≤ N := by omega
        clear hee
        go_wp2_with (first
          | (go_at_call 47; ((with_reducible refine (rotate_chain B n c i m ee _ xs w _ HZ hl (by omega) (by omega) (by omega) hn).mono ?_)); clear HZ; rintro e w1 ⟨rfl, hz⟩; have HZ := Lib.hid hz; clear hz)
          | (go_at_call 46; ((with_reducible refine (HN.out.at_ B C n c a i mid ls xs w _ hc hi hl HZ (by omega) (by omega) (by omega) hn b5).mono ?_)); clear HZ; rintro e w1 ⟨rfl, hz⟩; have HZ := Lib.hid hz; clear hz)
          | (go_at_call 46; ((with_reducible refine (HN.out.at_ B C n c mid ee b ls xs w _ hc hi hl HZ (by omega) (by omega) (by omega) hn b4).mono ?_)); clear HZ; rintro e w1 ⟨rfl, hz⟩; have HZ := Lib.hid hz; clear hz))
        all_goals exact bodyPost_end (results_none rfl _ _ _) rfl ⟨rfl, HZ.out⟩
  · have HG := Lib.hid (show s0 = a ∧ r0 = m from ⟨g2, g3⟩)
    clear g2 g3
    go_enter Try.func46, Try.ntmps46
    go_wp2
    clear e0 e2 e3 d0 d1
    go_loopw [20, 21, 23] (fun vi vj _ wr2 => ∃ i j : Nat, vi = .int .i64 (i : Int) ∧ vj = .int .i64 (j : Int) ∧ s0 ≤ i ∧ i ≤ j ∧ j ≤ r0 ∧ Hid (CSt w wr2 B xs)) (fun vi vj _ _ => (intOf vj).toNat - (intOf vi).toNat)
    case atStart => exact ⟨a, m, rfl, rfl, by have := HG.out; omega, by omega, by have := HG.out; omega, hs⟩
    case round =>
      obtain ⟨i, j, rfl, rfl, hmi, hij, hjb, HZ⟩ := hrel
      by_cases hlt : i < j
      · have hlt' : (i : Int) < (j : Int) := by omega
        obtain ⟨hh, hhe⟩ : ∃ hh, hh = (i + j) / 2 := ⟨_, rfl⟩
        have e1 : ((i : Int) + (j : Int)) / 2 = (hh : Int) := by rw [hhe]; exact half_is i j
        have b1 : i ≤ hh := by omega
        have b2 : hh < j := by omega
        clear hhe
        obtain ⟨dd, hdd⟩ : ∃ dd, dd + hh = pp := ⟨pp - hh, by have := HPP.out; have := HNN.out; omega⟩
        have e2 : (pp : Int) - (hh : Int) = (dd : Int) := by omega
        have b3 : dd < n := by have := HPP.out; have := HNN.out; omega
        have e3 : IntKind.i64.wrap (dd : Int) = (dd : Int) := IntWalk.i64_in _ (by omega)
        clear hdd
        obtain ⟨x, y, v, c1, c0, hcon⟩ := two_cells (p := dd) (q := hh) hc.out hi.out hl.out HZ.out (by omega) (by omega)
        have i1 : (hh : Int) < (n : Int) := by omega
        have i2 : (dd : Int) < (n : Int) := by omega
        have i3 : hh < n := by omega
        by_cases hv : v < 0
        · have dv : decide (v < 0) = true := by simpa using hv
          go_wp2_with fail
          go_quiet ((go_at_call 38; refine Calls.quiet_of (hcon _)))
          clear e1 e2 e3
          go_wp2
          go_roundw
          case rel => exact ⟨i, hh, rfl, rfl, by omega, by omega, by omega, Lib.hid (HZ.out.drewN _)⟩
          case measure => simp [intOf]; omega
        · have dv : decide (v < 0) = false := by simpa using hv
          go_wp2_with fail
          go_quiet ((go_at_call 38; refine Calls.quiet_of (hcon _)))
          clear e1 e2 e3
          go_wp2
          go_roundw
          case rel => exact ⟨hh + 1, j, by go_num, rfl, by omega, by omega, by omega, Lib.hid (HZ.out.drewN _)⟩
          case measure => simp [intOf]; omega
      · have hlt' : ¬ (i : Int) < (j : Int) := by omega
        obtain ⟨ee, e1, hee⟩ := HEND.out i hmi (by omega)
        have b1 : ee ≤ b := by omega
        have b4 : b - mid ≤ N := by omega
        have b5 : mid - a ≤ N := by omega
        clear hee
        go_wp2_with (first
          | (go_at_call 47; ((with_reducible refine (rotate_chain B n c i m ee _ xs w _ HZ hl (by omega) (by omega) (by omega) hn).mono ?_)); clear HZ; rintro e w1 ⟨rfl, hz⟩; have HZ := Lib.hid hz; clear hz)
          | (go_at_call 46; ((with_reducible refine (HN.out.at_ B C n c a i mid ls xs w _ hc hi hl HZ (by omega) (by omega) (by omega) hn b5).mono ?_)); clear HZ; rintro e w1 ⟨rfl, hz⟩; have HZ := Lib.hid hz; clear hz)
          | (go_at_call 46; ((with_reducible refine (HN.out.at_ B C n c mid ee b ls xs w _ hc hi hl HZ (by omega) (by omega) (by omega) hn b4).mono ?_)); clear HZ; rintro e w1 ⟨rfl, hz⟩; have HZ := Lib.hid hz; clear hz))
        all_goals exact bodyPost_end (results_none rfl _ _ _) rfl ⟨rfl, HZ.out⟩
theorem sym_all (N : Nat) : SymUpTo N := by
  induction N with
  | zero => intro B C n c a m b ls xs w wr hc hi hl hs ha hm hb hn hN; omega
  | succ N ih =>
    intro B C n c a m b ls xs w wr hc hi hl hs ha hm hb hn hN
    by_cases h1 : m = a + 1
    · exact symOne B C n c a m b ls xs w wr hc hi hl hs ha hm hb hn h1
    · by_cases h2 : b = m + 1
      · exact symTwo B C n c a m b ls xs w wr hc hi hl hs ha hm hb hn h1 h2
      · exact symMany N (Lib.hid ih) B C n c a m b ls xs w wr hc hi hl hs ha hm hb hn hN h1 h2
end Go.Proofs.Ytlmkcipcclomdaa.Fq
