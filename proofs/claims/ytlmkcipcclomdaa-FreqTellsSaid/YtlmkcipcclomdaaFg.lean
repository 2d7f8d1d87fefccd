/-
  What sort.SearchInts answers over a table that may be; Find, the program's and the document's.
-/
import Derived.Test.YtlmkcipcclomdaaFf
namespace Go.Proofs.Ytlmkcipcclomdaa.Fq
open Go.RowKit

/-- x lies ahead of place s, and no number from s on is below it -/
def Cuts (zs : List Int) (x : Int) (s : Nat) : Prop := s ≤ zs.length ∧ (∀ j, j < s → zs.getD j 0 < x) ∧ ∀ j, s ≤ j → j < zs.length → x ≤ zs.getD j 0
theorem Cuts.uniq {zs : List Int} {x : Int} {s t : Nat} (h1 : Cuts zs x s) (h2 : Cuts zs x t) : s = t := by
  rcases Nat.lt_trichotomy s t with h | h | h
  · have a := h2.2.1 s h
    have b := h1.2.2 s (Nat.le_refl _) (by have := h2.1; omega)
    omega
  · exact h
  · have a := h1.2.1 t h
    have b := h2.2.2 t (Nat.le_refl _) (by have := h1.1; omega)
    omega
/-- the two variables of the function that SearchInts hands on -/
def SrcIn (w : World) (g : Nat) (A : Option Addr) (n c : Nat) (x : Int) : Prop := w.cell? ⟨g, 0, none⟩ = some (.slice A n c) ∧ w.cell? ⟨g + 1, 0, none⟩ = some (.int .i64 x)
set_option maxHeartbeats 1000000 in
theorem search1_any (ad : Addr) (n c k g : Nat) (x y : Int) (w : World) (h : SrcIn w g (some ad) n c x) (hk : k < n) (hc : w.cell? (ad.add k) = some (.int .i64 y)) :
    Calls Try.prog 34 #[.int .i64 (k : Int), .pointer (some ⟨g, 0, none⟩), .pointer (some ⟨g + 1, 0, none⟩)] w fun e w' => e = .returned (.bool (decide (x ≤ y))) ∧ ∃ q, w' = w.drewN q := by
  obtain ⟨h1, h2⟩ := h
  have i4 : (k : Int) < (n : Int) := by omega
  by_cases hd : x ≤ y
  · have d : decide (x ≤ y) = true := by simpa using hd
    go_enter Try.func34, Try.ntmps34
    go_wp2_with fail
    go_quiet (fail)
    go_wp2
    go_ret
    exact ⟨by simp [d], _, rfl⟩
  · have d : decide (x ≤ y) = false := by simpa using hd
    go_enter Try.func34, Try.ntmps34
    go_wp2_with fail
    go_quiet (fail)
    go_wp2
    go_ret
    exact ⟨by simp [d], _, rfl⟩
theorem half_is (i j : Nat) : ((i : Int) + (j : Int)) / 2 = (((i + j) / 2 : Nat) : Int) := by simp
def SrcP (zs : List Int) (x : Int) (w : World) (e : Ending) (w' : World) : Prop := ∃ (s q : Nat), e = .returned (.int .i64 (s : Int)) ∧ Cuts zs x s ∧ w' = w.drewN q
set_option maxRecDepth 100000 in
set_option maxHeartbeats 1000000 in
theorem search_any (ad : Addr) (n c g : Nat) (zs : List Int) (x : Int) (w : World) (h : Hid (SrcIn w g (some ad) n c x)) (hr : Hid (RdI w (some ad) n zs)) (hn : n ≤ 1000) (hm : Hid (∀ i j, i < j → j < n → zs.getD i 0 < zs.getD j 0)) :
    Calls Try.prog 33 #[.int .i64 (n : Int), .func (.func 34) #[] #[.pointer (some ⟨g, 0, none⟩), .pointer (some ⟨g + 1, 0, none⟩)]] w (SrcP zs x w) := by
  have HL := Lib.hid hr.out.1
  go_enter Try.func33, Try.ntmps33
  go_wp2
  go_loopw [5, 6, 7] (fun vi vj _ wr => ∃ (i j q : Nat), vi = .int .i64 (i : Int) ∧ vj = .int .i64 (j : Int) ∧ i ≤ j ∧ j ≤ n ∧ wr = w.drewN q ∧ Hid ((∀ t, t < i → zs.getD t 0 < x) ∧ ∀ t, j ≤ t → t < n → x ≤ zs.getD t 0)) (fun vi vj _ _ => (intOf vj).toNat - (intOf vi).toNat)
  case atStart => exact ⟨0, n, 0, rfl, rfl, by omega, by omega, rfl, Lib.hid ⟨fun t ht => by omega, fun t h1 h2 => by omega⟩⟩
  case round =>
    obtain ⟨i, j, q, rfl, rfl, hij, hjn, rfl, HI⟩ := hrel
    by_cases hlt : i < j
    · obtain ⟨hh, hhe⟩ : ∃ hh, hh = (i + j) / 2 := ⟨_, rfl⟩
      have e1 : ((i : Int) + (j : Int)) / 2 = (hh : Int) := by rw [hhe]; exact half_is i j
      have b1 : i ≤ hh := by omega
      have b2 : hh < j := by omega
      clear hhe
      have hcell := hr.out.cell (k := hh) (by omega)
      obtain ⟨y, hy⟩ : ∃ y, zs.getD hh 0 = y := ⟨_, rfl⟩
      rw [hy] at hcell
      have HY := Lib.hid hy
      clear hy
      have hcon := search1_any ad n c hh g x y (w.drewN q) h.out (by omega) hcell
      have hlt' : (i : Int) < (j : Int) := by omega
      clear hcell
      by_cases hd : x ≤ y
      · rw [show decide (x ≤ y) = true by simpa using hd] at hcon
        go_wp2_with (go_at_call 34; refine hcon.mono ?_; rintro e w' ⟨rfl, q', rfl⟩)
        clear hcon e1
        go_roundw
        case rel =>
          refine ⟨i, hh, q + q', rfl, rfl, b1, by omega, by first | rfl | rw [World.drewN_drewN], Lib.hid ⟨HI.out.1, fun t h1 h2 => ?_⟩⟩
          rcases Nat.eq_or_lt_of_le h1 with h3 | h3
          · subst h3; rw [HY.out]; exact hd
          · have := hm.out hh t h3 h2
            rw [HY.out] at this
            omega
        case measure => simp [intOf]; omega
      · rw [show decide (x ≤ y) = false by simpa using hd] at hcon
        go_wp2_with (go_at_call 34; refine hcon.mono ?_; rintro e w' ⟨rfl, q', rfl⟩)
        clear hcon e1
        go_roundw
        case rel =>
          refine ⟨hh + 1, j, q + q', by go_num, rfl, by omega, by omega, by first | rfl | rw [World.drewN_drewN], Lib.hid ⟨fun t ht => ?_, HI.out.2⟩⟩
          rcases Nat.lt_or_ge t hh with h3 | h3
          · have := hm.out t hh h3 (by omega)
            rw [HY.out] at this
            omega
          · have : t = hh := by omega
            subst this; rw [HY.out]; omega
        case measure => simp [intOf]; omega
    · obtain rfl : i = j := by omega
      have hlt' : ¬ (i : Int) < (i : Int) := by omega
      go_wp2
      go_ret
      exact ⟨i, q, rfl, ⟨by rw [HL.out]; exact hjn, HI.out.1, fun t h1 h2 => HI.out.2 t h1 (by rw [← HL.out]; exact h2)⟩, rfl⟩
end Go.Proofs.Ytlmkcipcclomdaa.Fq
