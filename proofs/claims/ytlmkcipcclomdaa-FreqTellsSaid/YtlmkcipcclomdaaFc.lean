/-
  What New answers.
-/
import Derived.Test.YtlmkcipcclomdaaFb
namespace Go.Proofs.Ytlmkcipcclomdaa.Fq
open Go.RowKit

def NewP (w : World) (cs : List Int) (e : Ending) (w' : World) : Prop :=
  ∃ g, e = .returned (.tuple #[freqV g cs.length, .int .i64 0]) ∧ w.heap.size ≤ g ∧ Blk w' g 3 (icells cs) ∧ Below w.heap.size w w'
def ErrP (w : World) (e : Ending) (w' : World) : Prop := e = .returned (.tuple #[.agg #[.slice none 0 0], .int .i64 1]) ∧ Below w.heap.size w w'
theorem blk0 {w : World} {t : TypeId} {v : Value} {g : Nat} (h : Blk w g t #[v]) : w.cell? ⟨g, 0, none⟩ = some v := h.cell 0
theorem OutIn.below {w w' : World} {g : Nat} {a b : Int} (h : OutIn w g a b) (hb : Below w.heap.size w w') : OutIn w' g a b :=
  ⟨(hb.cell (World.block_lt_of_cell? _ _ h.1)).trans h.1, (hb.cell (World.block_lt_of_cell? _ _ h.2)).trans h.2⟩
theorem okN_parts {zs : List Int} (h : okN zs = true) : 1 ≤ zs.length ∧ zs.length ≤ 256 ∧ anyBad 1 16384 zs = false ∧ (∀ x ∈ zs, 0 ≤ x ∧ x ≤ 16384) ∧ tot zs ≤ 16384 := by
  unfold okN at h
  obtain ⟨h1, h2, h3, h4⟩ := of_decide_eq_true h
  refine ⟨h1, h2, ?_, fun x hx => by have := h3 x hx; omega, h4⟩
  unfold anyBad
  rw [List.any_eq_false]
  intro x hx
  have := h3 x hx
  simp [badI]
  omega
theorem okN_not {zs : List Int} (h : okN zs = false) : (zs.length < 1 ∨ 256 < zs.length) ∨ 1 ≤ zs.length ∧ zs.length ≤ 256 ∧ (anyBad 1 16384 zs = true ∨ anyBad 1 16384 zs = false ∧ (∀ x ∈ zs, 0 ≤ x ∧ x ≤ 16384) ∧ 16384 < tot zs) := by
  unfold okN at h
  have h := of_decide_eq_false h
  by_cases h1 : 1 ≤ zs.length
  · by_cases h2 : zs.length ≤ 256
    · refine .inr ⟨h1, h2, ?_⟩
      cases hb : anyBad 1 16384 zs with
      | true => exact .inl rfl
      | false =>
        have hall : ∀ x ∈ zs, 1 ≤ x ∧ x ≤ 16384 := fun x hx => by
          unfold anyBad at hb
          rw [List.any_eq_false] at hb
          have := hb x hx
          simp [badI] at this
          omega
        refine .inr ⟨rfl, fun x hx => by have := hall x hx; omega, ?_⟩
        rcases Int.lt_or_le 16384 (tot zs) with h3 | h3
        · exact h3
        · exact absurd ⟨h1, h2, hall, h3⟩ h
    · exact .inl (.inr (by omega))
  · exact .inl (.inl (by omega))
set_option maxHeartbeats 1000000 in
theorem new_ok (A : Option Addr) (n c : Nat) (zs : List Int) (w : World) (hr : Hid (RdI w A n zs)) (hok : okN zs = true) :
    Calls Try.prog 19 #[.slice A n c] w (NewP w (acc zs)) := by
  obtain ⟨h1, h2, h3, h4, h5⟩ := okN_parts hok
  have hl := hr.out.1
  rw [hl] at h1 h2
  have HB := Lib.hid h3
  have HA := Lib.hid h4
  have ht0 := (tot_bd zs 16384 h4).1
  obtain ⟨s, hs⟩ : ∃ s, tot zs = s := ⟨_, rfl⟩
  rw [hs] at h5 ht0
  have HS := Lib.hid hs
  clear h3 h4 hl hs hok
  go_enter Try.func19, Try.ntmps19
  go_wp2_with fail
  refine (isSize_yes _ _ (by omega) (by omega)).mono ?_
  rintro e w' ⟨rfl, rfl⟩
  have HK0 := Lib.hid (Blk.new w 24 #[.slice none 0 0])
  have HW0 := Lib.hid ((Below.refl w.heap.size w).alloc (Nat.le_refl _) (.cells #[.slice none 0 0] 24))
  generalize w.alloc (.cells #[.slice none 0 0] 24) = w0 at HK0 HW0 ⊢
  go_wp2_with fail
  refine (outside_any 1 16384 _).mono ?_
  rintro e w1 ⟨rfl, ho, hb⟩
  have HO := Lib.hid ho
  have HK1 := Lib.hid (HK0.out.below hb HK0.out.lt)
  have HW1 := Lib.hid (HW0.out.trans (hb.mono HW0.out.size))
  clear ho hb
  go_wp2_with fail
  refine (containsFunc_any 1 16384 _ A n c zs false _ HO.out (hr.out.below HW1.out) (by omega) HB.out).mono ?_
  rintro e w' ⟨rfl, rfl⟩
  go_wp2_with fail
  refine (sum_any A n c zs 16384 s _ (Lib.hid (hr.out.below HW1.out)) (by omega) (by omega) (by omega) HA HS).mono ?_
  rintro e w' ⟨rfl, rfl⟩
  go_wp2_with fail
  refine (pile_any A n c zs _ (Lib.hid (hr.out.below HW1.out)) (by omega) (Lib.hid fun x hx => by have := HA.out x hx; omega)).mono ?_
  rintro e w2 ⟨g, rfl, hg, hB, hb⟩
  have HG := Lib.hid (Nat.le_trans HW1.out.size hg)
  have HB2 := Lib.hid hB
  have HK2 := Lib.hid (HK1.out.below hb HK1.out.lt)
  have HW2 := Lib.hid (HW1.out.trans (hb.mono HW1.out.size))
  have HGE := Lib.hid (show g ≠ w.heap.size by have := HK1.out.lt; omega)
  clear hg hB hb
  have c0 := HK2.out.cell 0
  have f0 := HK2.out.frozen 0
  simp at c0
  obtain ⟨m, hm⟩ : ∃ m, (acc zs).length = m := ⟨_, rfl⟩
  rw [hm]
  have HM := Lib.hid hm
  clear hm
  unfold freqV
  go_wp2
  refine bodyPost_ret (v := .tuple #[freqV g m, .int .i64 0]) (by simp [results, Try.results19, go_sem, c0, freqV]) rfl ⟨g, by rw [HM.out], HG.out, Blk.far HB2.out HGE.out _, HW2.out.setCell (Nat.le_refl _) _⟩
set_option maxHeartbeats 1000000 in
theorem new_size (A : Option Addr) (n c : Nat) (w : World) (hn : n < 1 ∨ 256 < n) :
    Calls Try.prog 19 #[.slice A n c] w (ErrP w) := by
  go_enter Try.func19, Try.ntmps19
  go_wp2_with fail
  refine (isSize_no _ _ (by omega)).mono ?_
  rintro e w' ⟨rfl, rfl⟩
  go_wp2
  exact bodyPost_ret (v := .tuple #[.agg #[.slice none 0 0], .int .i64 1]) (by simp [results, Try.results19, go_sem]) rfl ⟨rfl, (Below.refl w.heap.size w).alloc (Nat.le_refl _) _⟩
set_option maxHeartbeats 1000000 in
theorem new_bad (A : Option Addr) (n c : Nat) (zs : List Int) (w : World) (hr : Hid (RdI w A n zs)) (h1 : 1 ≤ n) (h2 : n ≤ 256) (HB : Hid (anyBad 1 16384 zs = true)) :
    Calls Try.prog 19 #[.slice A n c] w (ErrP w) := by
  go_enter Try.func19, Try.ntmps19
  go_wp2_with fail
  refine (isSize_yes _ _ (by omega) (by omega)).mono ?_
  rintro e w' ⟨rfl, rfl⟩
  have HK0 := Lib.hid (Blk.new w 24 #[.slice none 0 0])
  have HW0 := Lib.hid ((Below.refl w.heap.size w).alloc (Nat.le_refl _) (.cells #[.slice none 0 0] 24))
  generalize w.alloc (.cells #[.slice none 0 0] 24) = w0 at HK0 HW0 ⊢
  go_wp2_with fail
  refine (outside_any 1 16384 _).mono ?_
  rintro e w1 ⟨rfl, ho, hb⟩
  have HO := Lib.hid ho
  have HK1 := Lib.hid (HK0.out.below hb HK0.out.lt)
  have HW1 := Lib.hid (HW0.out.trans (hb.mono HW0.out.size))
  clear ho hb
  go_wp2_with fail
  refine (containsFunc_any 1 16384 _ A n c zs true _ HO.out (hr.out.below HW1.out) (by omega) HB.out).mono ?_
  rintro e w' ⟨rfl, rfl⟩
  have c0 := HK1.out.cell 0
  have f0 := HK1.out.frozen 0
  simp at c0
  go_wp2
  exact bodyPost_ret (v := .tuple #[.agg #[.slice none 0 0], .int .i64 1]) (by simp [results, Try.results19, go_sem, c0]) rfl ⟨rfl, HW1.out.setCell (Nat.le_refl _) _⟩
set_option maxHeartbeats 1000000 in
theorem new_big (A : Option Addr) (n c : Nat) (zs : List Int) (s : Int) (w : World) (hr : Hid (RdI w A n zs)) (h1 : 1 ≤ n) (h2 : n ≤ 256) (HB : Hid (anyBad 1 16384 zs = false)) (HA : Hid (∀ x ∈ zs, 0 ≤ x ∧ x ≤ 16384)) (HS : Hid (tot zs = s)) (h5 : 16384 < s) :
    Calls Try.prog 19 #[.slice A n c] w (ErrP w) := by
  go_enter Try.func19, Try.ntmps19
  go_wp2_with fail
  refine (isSize_yes _ _ (by omega) (by omega)).mono ?_
  rintro e w' ⟨rfl, rfl⟩
  have HK0 := Lib.hid (Blk.new w 24 #[.slice none 0 0])
  have HW0 := Lib.hid ((Below.refl w.heap.size w).alloc (Nat.le_refl _) (.cells #[.slice none 0 0] 24))
  generalize w.alloc (.cells #[.slice none 0 0] 24) = w0 at HK0 HW0 ⊢
  go_wp2_with fail
  refine (outside_any 1 16384 _).mono ?_
  rintro e w1 ⟨rfl, ho, hb⟩
  have HO := Lib.hid ho
  have HK1 := Lib.hid (HK0.out.below hb HK0.out.lt)
  have HW1 := Lib.hid (HW0.out.trans (hb.mono HW0.out.size))
  clear ho hb
  go_wp2_with fail
  refine (containsFunc_any 1 16384 _ A n c zs false _ HO.out (hr.out.below HW1.out) (by omega) HB.out).mono ?_
  rintro e w' ⟨rfl, rfl⟩
  go_wp2_with fail
  refine (sum_any A n c zs 16384 s _ (Lib.hid (hr.out.below HW1.out)) (by omega) (by omega) (by omega) HA HS).mono ?_
  rintro e w' ⟨rfl, rfl⟩
  have c0 := HK1.out.cell 0
  have f0 := HK1.out.frozen 0
  simp at c0
  go_wp2
  exact bodyPost_ret (v := .tuple #[.agg #[.slice none 0 0], .int .i64 1]) (by simp [results, Try.results19, go_sem, c0]) rfl ⟨rfl, HW1.out.setCell (Nat.le_refl _) _⟩
theorem new_err (A : Option Addr) (n c : Nat) (zs : List Int) (w : World) (hr : Hid (RdI w A n zs)) (hok : okN zs = false) :
    Calls Try.prog 19 #[.slice A n c] w (ErrP w) := by
  have hl := hr.out.1
  rcases okN_not hok with h | ⟨h1, h2, h | ⟨h3, h4, h5⟩⟩
  · rw [hl] at h
    exact new_size A n c w h
  · rw [hl] at h1 h2
    exact new_bad A n c zs w hr h1 h2 (Lib.hid h)
  · rw [hl] at h1 h2
    exact new_big A n c zs _ w hr h1 h2 (Lib.hid h3) (Lib.hid h4) (Lib.hid rfl) h5
end Go.Proofs.Ytlmkcipcclomdaa.Fq
