/-
  What slices.SortStableFunc does with greatestFirst's comparison.
-/
import Derived.Test.YtlmkcipcclomdaaFo
namespace Go.Proofs.Ytlmkcipcclomdaa.Fq
open Go.RowKit

theorem insertion_chain (B C n c a b : Nat) (ls : List Int) (xs : List Nat) (w wr : World) (hc : Hid (CmpOk w B C ls)) (hi : Hid (Ins xs ls.length)) (hl : Hid (xs.length = n)) (hs : Hid (CSt w wr B xs)) (hab : a ≤ b) (hb : b ≤ n) (hn : n ≤ 1000000) :
    Calls Try.prog 45 #[.slice (some ⟨B, 0, none⟩) n c, .int .i64 (a : Int), .int .i64 (b : Int), cmpV C] wr (ChP w B xs) := by
  obtain ⟨ys, h1, h2⟩ := hs.out
  have hly : ys.length = n := by rw [h1.length_eq, hl.out]
  refine (insertion_any B C n c a b ls ys wr (Lib.hid (hc.out.only h2.1)) (Lib.hid h2.self) (Lib.hid hly) (Lib.hid (hi.out.perm h1)) hab hb hn).mono ?_
  rintro e w' ⟨rfl, h3⟩
  refine ⟨rfl, _, ?_, h2.trans h3⟩
  rcases Nat.lt_or_ge a b with h | h
  · exact (insO_perm ls a _ _ ys (by omega)).trans h1
  · rw [show b - (a + 1) = 0 by omega]
    exact h1
theorem sym_chain (B C n c a m b : Nat) (ls : List Int) (xs : List Nat) (w wr : World) (hc : Hid (CmpOk w B C ls)) (hi : Hid (Ins xs ls.length)) (hl : Hid (xs.length = n)) (hs : Hid (CSt w wr B xs)) (ha : a < m) (hm : m < b) (hb : b ≤ n) (hn : n ≤ 1000000) :
    Calls Try.prog 46 #[.slice (some ⟨B, 0, none⟩) n c, .int .i64 (a : Int), .int .i64 (m : Int), .int .i64 (b : Int), cmpV C] wr (ChP w B xs) :=
  sym_all (b - a) B C n c a m b ls xs w wr hc hi hl hs ha hm hb hn (Nat.le_refl _)
set_option maxRecDepth 100000 in
set_option maxHeartbeats 1000000 in
theorem stable_small (B C n c : Nat) (ls : List Int) (xs : List Nat) (w : World) (hc : Hid (CmpOk w B C ls)) (hs : Hid (St w w B xs)) (hl : Hid (xs.length = n)) (hi : Hid (Ins xs ls.length)) (hn : n < 20) :
    Calls Try.prog 41 #[.slice (some ⟨B, 0, none⟩) n c, .int .i64 (n : Int), cmpV C] w (StP w B (insO ls 0 (n - 1) 1 xs)) := by
  have d1 : decide ((20 : Int) ≤ (n : Int)) = false := by simp; omega
  have d2 : decide ((20 : Int) < (n : Int)) = false := by simp; omega
  generalize hf : cmpV C = f
  have HF := Lib.hid hf
  clear hf
  go_enter Try.func41, Try.ntmps41
  go_wp2
  go_loop [7, 8] (fun va vb => va = .int .i64 0 ∧ vb = .int .i64 20) (fun _ _ => 0)
  case atStart => exact ⟨rfl, rfl⟩
  case round =>
    obtain ⟨rfl, rfl⟩ := hrel
    go_wp2_with fail
    have hcon := insertion_any B C n c 0 n ls xs w hc hs hl hi (Nat.zero_le _) (Nat.le_refl _) (by omega)
    rw [HF.out] at hcon
    refine hcon.mono ?_
    rintro e w1 ⟨rfl, h1⟩
    have H1 := Lib.hid h1
    clear h1 hcon
    go_wp2
    go_loop [6] (fun vs => vs = .int .i64 20) (fun _ => 0)
    case atStart => rfl
    case round =>
      obtain rfl := hrel
      go_wp2
      exact bodyPost_end (results_none rfl _ _ _) rfl ⟨rfl, H1.out⟩
set_option maxRecDepth 100000 in
set_option maxHeartbeats 2000000 in
theorem stable_any (B C n c : Nat) (ls : List Int) (xs : List Nat) (w wr : World) (hc : Hid (CmpOk w B C ls)) (hi : Hid (Ins xs ls.length)) (hl : Hid (xs.length = n)) (hs : Hid (CSt w wr B xs)) (hn : n ≤ 100000) :
    Calls Try.prog 41 #[.slice (some ⟨B, 0, none⟩) n c, .int .i64 (n : Int), cmpV C] wr (ChP w B xs) := by
  have HN := Lib.hid (show n ≤ 1000000 by omega)
  obtain ⟨f, hf⟩ : ∃ f, cmpV C = f := ⟨_, rfl⟩
  have HI := Lib.hid (fun a b wr hs hab hb => hf ▸ insertion_chain B C n c a b ls xs w wr hc hi hl hs hab hb HN.out)
  have HS := Lib.hid (fun a m b wr hs ha hm hb => hf ▸ sym_chain B C n c a m b ls xs w wr hc hi hl hs ha hm hb HN.out)
  rw [hf]
  clear hf
  go_enter Try.func41, Try.ntmps41
  go_wp2
  go_loopw [7, 8] (fun va vb wr2 => ∃ a : Nat, va = .int .i64 (a : Int) ∧ vb = .int .i64 ((a : Int) + 20) ∧ a ≤ n ∧ Hid (CSt w wr2 B xs)) (fun va _ _ => n - (intOf va).toNat)
  case atStart => exact ⟨0, rfl, rfl, by omega, hs⟩
  case round =>
    obtain ⟨a, rfl, rfl, han, HZ⟩ := hrel
    by_cases hlt : a + 20 ≤ n
    · have hlt' : (a : Int) + 20 ≤ (n : Int) := by omega
      go_wp2_with fail
      have hcon := HI.out a (a + 20) _ HZ (by omega) hlt
      rw [show ((a + 20 : Nat) : Int) = (a : Int) + 20 by omega] at hcon
      refine hcon.mono ?_
      clear hcon HZ
      rintro e w1 ⟨rfl, hz⟩
      have HZ := Lib.hid hz
      clear hz
      go_wp2
      go_roundw
      case rel => exact ⟨a + 20, by go_num, by go_num, hlt, HZ⟩
      case measure => simp [intOf]; omega
    · have hlt' : ¬ (a : Int) + 20 ≤ (n : Int) := by omega
      go_wp2_with fail
      refine (HI.out a n _ HZ han (Nat.le_refl _)).mono ?_
      clear HZ
      rintro e w1 ⟨rfl, hz⟩
      have HZ := Lib.hid hz
      clear hz
      go_wp2
      go_loopw [6, 7, 8, 9] (fun vs _ _ _ wr2 => ∃ s : Nat, vs = .int .i64 (s : Int) ∧ 20 ≤ s ∧ s ≤ 200000 ∧ Hid (CSt w wr2 B xs)) (fun vs _ _ _ _ => n - (intOf vs).toNat)
      case atStart => exact ⟨20, rfl, by omega, by omega, HZ⟩
      case round =>
        obtain ⟨s, rfl, hs1, hs2, HZ⟩ := hrel
        by_cases hsn : s < n
        · have hsn' : (s : Int) < (n : Int) := by omega
          go_wp2
          go_loopw [7, 8] (fun va vb wr2 => ∃ a : Nat, va = .int .i64 (a : Int) ∧ vb = .int .i64 ((a : Int) + 2 * (s : Int)) ∧ a ≤ n ∧ Hid (CSt w wr2 B xs)) (fun va _ _ => n - (intOf va).toNat)
          case atStart => exact ⟨0, rfl, by go_num, by omega, HZ⟩
          case round =>
            obtain ⟨a, rfl, rfl, han, HZ⟩ := hrel
            by_cases hlt : a + 2 * s ≤ n
            · have hlt' : (a : Int) + 2 * (s : Int) ≤ (n : Int) := by omega
              go_wp2_with fail
              have hcon := HS.out a (a + s) (a + 2 * s) _ HZ (by omega) (by omega) hlt
              rw [show ((a + s : Nat) : Int) = (a : Int) + (s : Int) by omega, show ((a + 2 * s : Nat) : Int) = (a : Int) + 2 * (s : Int) by omega] at hcon
              refine hcon.mono ?_
              clear hcon HZ
              rintro e w1 ⟨rfl, hz⟩
              have HZ := Lib.hid hz
              clear hz
              go_wp2
              go_roundw
              case rel => exact ⟨a + 2 * s, by go_num, by go_num, hlt, HZ⟩
              case measure => simp [intOf]; omega
            · have hlt' : ¬ (a : Int) + 2 * (s : Int) ≤ (n : Int) := by omega
              by_cases hm : a + s < n
              · have hm' : (a : Int) + (s : Int) < (n : Int) := by omega
                go_wp2_with fail
                have hcon := HS.out a (a + s) n _ HZ (by omega) hm (Nat.le_refl _)
                rw [show ((a + s : Nat) : Int) = (a : Int) + (s : Int) by omega] at hcon
                refine hcon.mono ?_
                clear hcon HZ
                rintro e w1 ⟨rfl, hz⟩
                have HZ := Lib.hid hz
                clear hz
                go_wp2
                go_roundw
                case rel => exact ⟨s * 2, by go_num, by omega, by omega, HZ⟩
                case measure => simp [intOf]; omega
              · have hm' : ¬ (a : Int) + (s : Int) < (n : Int) := by omega
                go_wp2
                go_roundw
                case rel => exact ⟨s * 2, by go_num, by omega, by omega, HZ⟩
                case measure => simp [intOf]; omega
        · have hsn' : ¬ (s : Int) < (n : Int) := by omega
          go_wp2
          exact bodyPost_end (results_none rfl _ _ _) rfl ⟨rfl, HZ.out⟩
theorem sortStable_small (B C n c : Nat) (ls : List Int) (xs : List Nat) (w : World) (hc : Hid (CmpOk w B C ls)) (hs : Hid (St w w B xs)) (hl : Hid (xs.length = n)) (hi : Hid (Ins xs ls.length)) (hn : n < 20) :
    Calls Try.prog 37 #[.slice (some ⟨B, 0, none⟩) n c, cmpV C] w (StP w B (insO ls 0 (n - 1) 1 xs)) := by
  have hcon := stable_small B C n c ls xs w hc hs hl hi hn
  generalize cmpV C = f at hcon
  go_enter Try.func37, Try.ntmps37
  go_wp2_with fail
  refine hcon.mono ?_
  rintro e w1 ⟨rfl, h1⟩
  have H1 := Lib.hid h1
  clear h1 hcon
  go_wp2
  exact bodyPost_end (results_none rfl _ _ _) rfl ⟨rfl, H1.out⟩
theorem sortStable_any (B C n c : Nat) (ls : List Int) (xs : List Nat) (w wr : World) (hc : Hid (CmpOk w B C ls)) (hi : Hid (Ins xs ls.length)) (hl : Hid (xs.length = n)) (hs : Hid (CSt w wr B xs)) (hn : n ≤ 100000) :
    Calls Try.prog 37 #[.slice (some ⟨B, 0, none⟩) n c, cmpV C] wr (ChP w B xs) := by
  have hcon := stable_any B C n c ls xs w wr hc hi hl hs hn
  generalize cmpV C = f at hcon
  go_enter Try.func37, Try.ntmps37
  go_wp2_with fail
  refine hcon.mono ?_
  rintro e w1 ⟨rfl, h1⟩
  have H1 := Lib.hid h1
  clear h1 hcon
  go_wp2
  exact bodyPost_end (results_none rfl _ _ _) rfl ⟨rfl, H1.out⟩
end Go.Proofs.Ytlmkcipcclomdaa.Fq
