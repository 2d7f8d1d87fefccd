/-
  What slices' symMerge does: it changes places alone.
-/
import Derived.Test.YtlmkcipcclomdaaFl
namespace Go.Proofs.Ytlmkcipcclomdaa.Fq
open Go.RowKit

/-- the row holds the places xs in some order, and nothing else is another than in w -/
def CSt (w wr : World) (B : Nat) (xs : List Nat) : Prop := ∃ ys : List Nat, ys.Perm xs ∧ St w wr B ys
theorem CSt.drewN {w wr : World} {B : Nat} {xs : List Nat} (h : CSt w wr B xs) (n : Nat) : CSt w (wr.drewN n) B xs := by
  obtain ⟨ys, h1, h2⟩ := h
  exact ⟨ys, h1, h2.drewN n⟩
def ChP (w : World) (B : Nat) (xs : List Nat) (e : Ending) (w' : World) : Prop := e = .returned (.tuple #[]) ∧ CSt w w' B xs
theorem rotate_chain (B n c a m b : Nat) (f : Value) (xs : List Nat) (w wr : World) (hs : Hid (CSt w wr B xs)) (hl : Hid (xs.length = n)) (ha : a < m) (hm : m < b) (hb : b ≤ n) (hn : n ≤ 1000000) :
    Calls Try.prog 47 #[.slice (some ⟨B, 0, none⟩) n c, .int .i64 (a : Int), .int .i64 (m : Int), .int .i64 (b : Int), f] wr (ChP w B xs) := by
  obtain ⟨ys, h1, h2⟩ := hs.out
  refine (rotate_any B n c a m b f ys wr (Lib.hid ⟨ys, List.Perm.refl _, h2.self⟩) (Lib.hid (by rw [h1.length_eq, hl.out])) ha hm hb hn).mono ?_
  rintro e w' ⟨rfl, zs, h3, h4⟩
  exact ⟨rfl, zs, h3.trans h1, h2.trans h4⟩
/-- two cells of the row, and what the comparison of their numbers answers -/
theorem two_cells {w wr : World} {B C n p q : Nat} {ls : List Int} {xs : List Nat} (hc : CmpOk w B C ls) (hi : Ins xs ls.length) (hl : xs.length = n) (h : CSt w wr B xs) (hp : p < n) (hq : q < n) :
    ∃ (x y : Nat) (v : Int), wr.cell? ⟨B, p, none⟩ = some (.int .i64 (x : Int)) ∧ wr.cell? ⟨B, q, none⟩ = some (.int .i64 (y : Int)) ∧ (∀ m, Calls Try.prog 38 #[.int .i64 (x : Int), .int .i64 (y : Int), .pointer (some ⟨C, 0, none⟩)] (wr.drewN m) fun e w' => e = .returned (.int .i64 v) ∧ ∃ q, w' = (wr.drewN m).drewN q) := by
  obtain ⟨ys, h1, h2⟩ := h
  have hly : ys.length = n := by rw [h1.length_eq, hl]
  have hin := hi.perm h1
  exact ⟨_, _, _, ncells_at h2.2 (by omega), ncells_at h2.2 (by omega), fun m => less_any B C _ _ ls _ ((hc.only h2.1).drewN m) (hin.at_ (by omega)) (hin.at_ (by omega))⟩
/-- two cells of the row, exchanged -/
theorem swap_cells {w wr : World} {B n p q : Nat} {xs : List Nat} (hl : xs.length = n) (h : CSt w wr B xs) (hp : p < n) (hq : q < n) :
    ∃ (x y : Nat), wr.cell? ⟨B, p, none⟩ = some (.int .i64 (x : Int)) ∧ wr.cell? ⟨B, q, none⟩ = some (.int .i64 (y : Int)) ∧ wr.frozen? ⟨B, p, none⟩ = false ∧ wr.frozen? ⟨B, q, none⟩ = false ∧ Hid (CSt w ((wr.setCell ⟨B, p, none⟩ (.int .i64 (y : Int))).setCell ⟨B, q, none⟩ (.int .i64 (x : Int))).drew B xs) := by
  obtain ⟨ys, h1, h2⟩ := h
  have hly : ys.length = n := by rw [h1.length_eq, hl]
  exact ⟨_, _, ncells_at h2.2 (by omega), ncells_at h2.2 (by omega), Blk.frozen h2.2 p, Blk.frozen h2.2 q, Lib.hid ⟨swapL ys p q, (swapL_perm ys p q (by omega) (by omega)).trans h1, (h2.swap p q _ _ rfl rfl).drew⟩⟩
set_option maxRecDepth 100000 in
set_option maxHeartbeats 4000000 in
theorem symOne (B C n c a m b : Nat) (ls : List Int) (xs : List Nat) (w wr : World) (hc : Hid (CmpOk w B C ls)) (hi : Hid (Ins xs ls.length)) (hl : Hid (xs.length = n)) (hs : Hid (CSt w wr B xs)) (ha : a < m) (hm : m < b) (hb : b ≤ n) (hn : n ≤ 1000000) (h1 : m = a + 1) :
    Calls Try.prog 46 #[.slice (some ⟨B, 0, none⟩) n c, .int .i64 (a : Int), .int .i64 (m : Int), .int .i64 (b : Int), cmpV C] wr (ChP w B xs) := by
  unfold cmpV
  have d0 : ((m : Int) - (a : Int) == 1) = true := by simp; omega
  have HM := Lib.hid h1
  clear h1
  go_enter Try.func46, Try.ntmps46
  go_wp2
  clear d0
  go_loopw [10, 11, 12] (fun vi vj _ wr2 => ∃ i j : Nat, vi = .int .i64 (i : Int) ∧ vj = .int .i64 (j : Int) ∧ m ≤ i ∧ i ≤ j ∧ j ≤ b ∧ Hid (CSt w wr2 B xs)) (fun vi vj _ _ => (intOf vj).toNat - (intOf vi).toNat)
  case atStart => exact ⟨m, b, rfl, rfl, by omega, by omega, by omega, hs⟩
  case round =>
    obtain ⟨i, j, rfl, rfl, hmi, hij, hjb, HZ⟩ := hrel
    by_cases hlt : i < j
    · have hlt' : (i : Int) < (j : Int) := by omega
      obtain ⟨hh, hhe⟩ : ∃ hh, hh = (i + j) / 2 := ⟨_, rfl⟩
      have e1 : ((i : Int) + (j : Int)) / 2 = (hh : Int) := by rw [hhe]; exact half_is i j
      have b1 : i ≤ hh := by omega
      have b2 : hh < j := by omega
      clear hhe
      obtain ⟨x, y, v, c1, c0, hcon⟩ := two_cells (p := hh) (q := a) hc.out hi.out hl.out HZ.out (by omega) (by omega)
      have i1 : (hh : Int) < (n : Int) := by omega
      have i2 : (a : Int) < (n : Int) := by omega
      have i3 : hh < n := by omega
      have i4 : a < n := by omega
      by_cases hv : v < 0
      · go_wp2_with fail
        go_quiet ((go_at_call 38; refine Calls.quiet_of (hcon _)))
        clear e1
        go_wp2
        go_roundw
        case rel => exact ⟨hh + 1, j, by go_num, rfl, by omega, by omega, by omega, Lib.hid (HZ.out.drewN _)⟩
        case measure => simp [intOf]; omega
      · go_wp2_with fail
        go_quiet ((go_at_call 38; refine Calls.quiet_of (hcon _)))
        clear e1
        go_wp2
        go_roundw
        case rel => exact ⟨i, hh, rfl, rfl, by omega, by omega, by omega, Lib.hid (HZ.out.drewN _)⟩
        case measure => simp [intOf]; omega
    · have hlt' : ¬ (i : Int) < (j : Int) := by omega
      obtain ⟨i1, rfl⟩ : ∃ i1, i = i1 + 1 := ⟨i - 1, by omega⟩
      have ha1 : a ≤ i1 := by have := HM.out; omega
      go_wp2
      go_loopw [13] (fun vk wr2 => ∃ k : Nat, vk = .int .i64 (k : Int) ∧ a ≤ k ∧ k ≤ i1 ∧ Hid (CSt w wr2 B xs)) (fun vk _ => i1 - (intOf vk).toNat)
      case atStart => exact ⟨a, rfl, by omega, by omega, HZ⟩
      case round =>
        obtain ⟨k, rfl, hak, hki, HZ2⟩ := hrel
        clear HZ
        by_cases hk : k < i1
        · have hk' : (k : Int) < (i1 : Int) := by omega
          obtain ⟨x, y, c1, c0, f1, f0, HS⟩ := swap_cells (p := k) (q := k + 1) hl.out HZ2.out (by omega) (by omega)
          have j1 : (0 : Int) ≤ (k : Int) + 1 := by omega
          have j2 : ((k : Int) + 1).toNat = k + 1 := by omega
          have j3 : (k : Int) + 1 < (n : Int) := by omega
          have j4 : (k : Int) < (n : Int) := by omega
          have j5 : IntKind.i64.wrap ((k : Int) + 1) = (k : Int) + 1 := IntWalk.i64_in _ (by omega)
          have j6 : k + 1 < n := by omega
          have j7 : k < n := by omega
          go_wp2_with fail
          go_region
          all_goals
            go_wp2
            go_roundw
            case rel => exact ⟨k + 1, by go_num, by omega, by omega, by first | exact HS | exact Lib.hid HS.out⟩
            case measure => simp [intOf]; omega
        · have hk' : ¬ (k : Int) < (i1 : Int) := by omega
          go_wp2
          exact bodyPost_ret (results_none rfl _ _ _) rfl ⟨rfl, HZ2.out⟩
set_option maxRecDepth 100000 in
set_option maxHeartbeats 4000000 in
theorem symTwo (B C n c a m b : Nat) (ls : List Int) (xs : List Nat) (w wr : World) (hc : Hid (CmpOk w B C ls)) (hi : Hid (Ins xs ls.length)) (hl : Hid (xs.length = n)) (hs : Hid (CSt w wr B xs)) (ha : a < m) (hm : m < b) (hb : b ≤ n) (hn : n ≤ 1000000) (h1 : ¬ m = a + 1) (h2 : b = m + 1) :
    Calls Try.prog 46 #[.slice (some ⟨B, 0, none⟩) n c, .int .i64 (a : Int), .int .i64 (m : Int), .int .i64 (b : Int), cmpV C] wr (ChP w B xs) := by
  unfold cmpV
  have d0 : ((m : Int) - (a : Int) == 1) = false := by simp; omega
  have d1 : ((b : Int) - (m : Int) == 1) = true := by simp; omega
  have HM := Lib.hid h2
  clear h1 h2
  go_enter Try.func46, Try.ntmps46
  go_wp2
  clear d0 d1
  go_loopw [14, 15, 16] (fun vi vj _ wr2 => ∃ i j : Nat, vi = .int .i64 (i : Int) ∧ vj = .int .i64 (j : Int) ∧ a ≤ i ∧ i ≤ j ∧ j ≤ m ∧ Hid (CSt w wr2 B xs)) (fun vi vj _ _ => (intOf vj).toNat - (intOf vi).toNat)
  case atStart => exact ⟨a, m, rfl, rfl, by omega, by omega, by omega, hs⟩
  case round =>
    obtain ⟨i, j, rfl, rfl, hmi, hij, hjb, HZ⟩ := hrel
    by_cases hlt : i < j
    · have hlt' : (i : Int) < (j : Int) := by omega
      obtain ⟨hh, hhe⟩ : ∃ hh, hh = (i + j) / 2 := ⟨_, rfl⟩
      have e1 : ((i : Int) + (j : Int)) / 2 = (hh : Int) := by rw [hhe]; exact half_is i j
      have b1 : i ≤ hh := by omega
      have b2 : hh < j := by omega
      clear hhe
      obtain ⟨x, y, v, c1, c0, hcon⟩ := two_cells (p := m) (q := hh) hc.out hi.out hl.out HZ.out (by omega) (by omega)
      have i1 : (hh : Int) < (n : Int) := by omega
      have i2 : (m : Int) < (n : Int) := by omega
      have i3 : hh < n := by omega
      have i4 : m < n := by omega
      by_cases hv : v < 0
      · have dv : decide (v < 0) = true := by simpa using hv
        go_wp2_with fail
        go_quiet ((go_at_call 38; refine Calls.quiet_of (hcon _)))
        clear e1
        go_wp2
        go_roundw
        case rel => exact ⟨i, hh, rfl, rfl, by omega, by omega, by omega, Lib.hid (HZ.out.drewN _)⟩
        case measure => simp [intOf]; omega
      · have dv : decide (v < 0) = false := by simpa using hv
        go_wp2_with fail
        go_quiet ((go_at_call 38; refine Calls.quiet_of (hcon _)))
        clear e1
        go_wp2
        go_roundw
        case rel => exact ⟨hh + 1, j, by go_num, rfl, by omega, by omega, by omega, Lib.hid (HZ.out.drewN _)⟩
        case measure => simp [intOf]; omega
    · have hlt' : ¬ (i : Int) < (j : Int) := by omega
      go_wp2
      go_loopw [17] (fun vk wr2 => ∃ k : Nat, vk = .int .i64 (k : Int) ∧ i ≤ k ∧ k ≤ m ∧ Hid (CSt w wr2 B xs)) (fun vk _ => (intOf vk).toNat)
      case atStart => exact ⟨m, rfl, by omega, by omega, HZ⟩
      case round =>
        obtain ⟨k, rfl, hak, hki, HZ2⟩ := hrel
        clear HZ
        by_cases hk : i < k
        · obtain ⟨k, rfl⟩ : ∃ k1, k = k1 + 1 := ⟨k - 1, by omega⟩
          have hk' : (i : Int) < (k : Int) + 1 := by omega
          obtain ⟨x, y, c1, c0, f1, f0, HS⟩ := swap_cells (p := k + 1) (q := k) hl.out HZ2.out (by omega) (by omega)
          have j1 : (0 : Int) ≤ (k : Int) + 1 := by omega
          have j2 : ((k : Int) + 1).toNat = k + 1 := by omega
          have j3 : (k : Int) + 1 < (n : Int) := by omega
          have j4 : (k : Int) < (n : Int) := by omega
          have j5 : IntKind.i64.wrap (k : Int) = (k : Int) := IntWalk.i64_in _ (by omega)
          have j6 : k + 1 < n := by omega
          have j7 : k < n := by omega
          go_wp2_with fail
          go_region
          all_goals
            go_wp2
            go_roundw
            case rel => exact ⟨k, by first | rfl | go_num, by omega, by omega, by first | exact HS | exact Lib.hid HS.out⟩
            case measure => simp [intOf]
        · have hk' : ¬ (i : Int) < (k : Int) := by omega
          go_wp2
          exact bodyPost_ret (results_none rfl _ _ _) rfl ⟨rfl, HZ2.out⟩
end Go.Proofs.Ytlmkcipcclomdaa.Fq
