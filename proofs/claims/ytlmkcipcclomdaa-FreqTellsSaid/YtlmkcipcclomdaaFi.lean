/-
  What slices.Equal and the document's Equal answer; Same, the program's and the document's.
-/
import Derived.Test.YtlmkcipcclomdaaFh
namespace Go.Proofs.Ytlmkcipcclomdaa.Fq
open Go.RowKit

theorem eq_of_at {xs ys : List Int} (hl : xs.length = ys.length) (h : ∀ k, k < xs.length → xs.getD k 0 = ys.getD k 0) : xs = ys := by
  refine List.ext_getElem? fun k => ?_
  by_cases hk : k < xs.length
  · rw [get_of_lt hk, get_of_lt (zs := ys) (by omega), h k hk]
  · rw [List.getElem?_eq_none (by omega), List.getElem?_eq_none (by omega)]
theorem ne_at {xs ys : List Int} (hl : xs.length = ys.length) (h : xs ≠ ys) : ∃ p, p < xs.length ∧ xs.getD p 0 ≠ ys.getD p 0 ∧ ∀ k, k < p → xs.getD k 0 = ys.getD k 0 := by
  have key : ∀ N, (∃ p, p < N ∧ xs.getD p 0 ≠ ys.getD p 0 ∧ ∀ k, k < p → xs.getD k 0 = ys.getD k 0) ∨ ∀ k, k < N → xs.getD k 0 = ys.getD k 0 := by
    intro N
    induction N with
    | zero => exact .inr fun k hk => by omega
    | succ N ih =>
      rcases ih with ⟨m, hm, h5, h6⟩ | h5
      · exact .inl ⟨m, by omega, h5, h6⟩
      · by_cases h6 : xs.getD N 0 = ys.getD N 0
        · refine .inr fun k hk => ?_
          rcases Nat.lt_or_ge k N with h7 | h7
          · exact h5 k h7
          · have : k = N := by omega
            subst this; exact h6
        · exact .inl ⟨N, by omega, h6, h5⟩
  rcases key xs.length with h1 | h1
  · exact h1
  · exact absurd (eq_of_at hl h1) h
set_option maxRecDepth 100000 in
set_option maxHeartbeats 1000000 in
theorem equal_lens (A B : Option Addr) (n m c d : Nat) (w : World) (hne : ¬ n = m) :
    Calls Try.prog 25 #[.slice A n c, .slice B m d] w fun e w' => e = .returned (.bool false) ∧ ∃ q, w' = w.drewN q := by
  have d1 : ((n : Int) != (m : Int)) = true := by simp; omega
  have d2 : (n != m) = true := by simp; omega
  go_enter Try.func25, Try.ntmps25
  go_wp2
  go_ret
  exact ⟨rfl, 0, rfl⟩
set_option maxRecDepth 100000 in
set_option maxHeartbeats 1000000 in
theorem equal_yes (A B : Option Addr) (n c d : Nat) (xs : List Int) (w : World) (hn : n ≤ maxLen) (hx : Hid (RdI w A n xs)) (hy : Hid (RdI w B n xs)) :
    Calls Try.prog 25 #[.slice A n c, .slice B n d] w fun e w' => e = .returned (.bool true) ∧ ∃ q, w' = w.drewN q := by
  unfold maxLen at hn
  have d1 : ((n : Int) != (n : Int)) = false := by simp
  go_enter Try.func25, Try.ntmps25
  go_wp2
  go_loopw [5, 13] (fun _ i wr => ∃ k q : Nat, k ≤ n ∧ i = .int .i64 (k : Int) ∧ wr = w.drewN q) (fun _ i _ => n - (intOf i).toNat)
  case atStart => exact ⟨0, 0, by omega, rfl, rfl⟩
  case round =>
    obtain ⟨k, q, hk, rfl, rfl⟩ := hrel
    by_cases hlt : k < n
    · obtain ⟨ad, rfl, -, -⟩ := hx.out.at_ hlt
      obtain ⟨bd, rfl, -, -⟩ := hy.out.at_ hlt
      have x0 := hx.out.cell hlt
      have y0 := hy.out.cell hlt
      generalize xs.getD k 0 = a at x0 y0
      have d3 : (a != a) = false := by simp
      have i4 : (k : Int) < (n : Int) := by omega
      go_wp2_with fail
      go_quiet (fail)
      go_wp2
      go_roundw
      case rel => exact ⟨k + 1, q + nq, by omega, by go_num, by first | rfl | rw [World.drewN_drewN]⟩
      case measure => simp [intOf]; omega
    · go_wp2
      go_ret
      exact ⟨rfl, q, rfl⟩
set_option maxRecDepth 100000 in
set_option maxHeartbeats 1000000 in
theorem equal_no (A B : Option Addr) (n c d p : Nat) (xs ys : List Int) (w : World) (hn : n ≤ maxLen) (hx : Hid (RdI w A n xs)) (hy : Hid (RdI w B n ys)) (hp : p < n) (hd : Hid (xs.getD p 0 ≠ ys.getD p 0)) (hs : Hid (∀ k, k < p → xs.getD k 0 = ys.getD k 0)) :
    Calls Try.prog 25 #[.slice A n c, .slice B n d] w fun e w' => e = .returned (.bool false) ∧ ∃ q, w' = w.drewN q := by
  unfold maxLen at hn
  have d1 : ((n : Int) != (n : Int)) = false := by simp
  go_enter Try.func25, Try.ntmps25
  go_wp2
  go_loopw [5, 13] (fun _ i wr => ∃ k q : Nat, k ≤ p ∧ i = .int .i64 (k : Int) ∧ wr = w.drewN q) (fun _ i _ => n - (intOf i).toNat)
  case atStart => exact ⟨0, 0, by omega, rfl, rfl⟩
  case round =>
    obtain ⟨k, q, hk, rfl, rfl⟩ := hrel
    have hlt : k < n := by omega
    obtain ⟨ad, rfl, -, -⟩ := hx.out.at_ hlt
    obtain ⟨bd, rfl, -, -⟩ := hy.out.at_ hlt
    have x0 := hx.out.cell hlt
    have y0 := hy.out.cell hlt
    have i4 : (k : Int) < (n : Int) := by omega
    by_cases hkp : k < p
    · rw [← hs.out k hkp] at y0
      generalize xs.getD k 0 = a at x0 y0
      have d3 : (a != a) = false := by simp
      go_wp2_with fail
      go_quiet (fail)
      go_wp2
      go_roundw
      case rel => exact ⟨k + 1, q + nq, by omega, by go_num, by first | rfl | rw [World.drewN_drewN]⟩
      case measure => simp [intOf]; omega
    · obtain rfl : k = p := by omega
      have hne := hd.out
      clear hd
      generalize xs.getD k 0 = a at x0 hne
      generalize ys.getD k 0 = b at y0 hne
      have d3 : (a != b) = true := by simpa using hne
      go_wp2_with fail
      go_quiet (fail)
      go_wp2
      go_ret
      exact ⟨rfl, q + nq, by first | rfl | rw [World.drewN_drewN]⟩
theorem equal_any (A B : Option Addr) (n m c d : Nat) (xs ys : List Int) (r : Bool) (w : World) (hn : n ≤ maxLen) (hm : m ≤ maxLen) (hx : RdI w A n xs) (hy : RdI w B m ys) (hr : decide (xs = ys) = r) :
    Calls Try.prog 25 #[.slice A n c, .slice B m d] w fun e w' => e = .returned (.bool r) ∧ ∃ q, w' = w.drewN q := by
  by_cases he : n = m
  · subst he
    cases r with
    | true =>
      obtain rfl := of_decide_eq_true hr
      exact equal_yes A B n c d xs w hn (Lib.hid hx) (Lib.hid hy)
    | false =>
      have hl : xs.length = ys.length := by rw [hx.1, hy.1]
      obtain ⟨p, hp, h1, h2⟩ := ne_at hl (of_decide_eq_false hr)
      exact equal_no A B n c d p xs ys w hn (Lib.hid hx) (Lib.hid hy) (by rw [← hx.1]; exact hp) (Lib.hid h1) (Lib.hid h2)
  · have : r = false := by
      rw [← hr]
      refine decide_eq_false fun e => he ?_
      rw [← hx.1, ← hy.1, e]
    subst this
    exact equal_lens A B n m c d w he
set_option maxRecDepth 100000 in
set_option maxHeartbeats 1000000 in
theorem requal_lens (A B : Option Addr) (n m c d : Nat) (w : World) (hne : ¬ n = m) :
    Calls Try.prog 22 #[.slice A n c, .slice B m d] w fun e w' => e = .returned (.bool false) ∧ ∃ q, w' = w.drewN q := by
  have d1 : ((n : Int) != (m : Int)) = true := by simp; omega
  have d2 : (n != m) = true := by simp; omega
  go_enter Try.func22, Try.ntmps22
  go_wp2
  go_ret
  exact ⟨rfl, 0, rfl⟩
set_option maxRecDepth 100000 in
set_option maxHeartbeats 1000000 in
theorem requal_yes (A B : Option Addr) (n c d : Nat) (xs : List Int) (w : World) (hn : n ≤ maxLen) (hx : Hid (RdI w A n xs)) (hy : Hid (RdI w B n xs)) :
    Calls Try.prog 22 #[.slice A n c, .slice B n d] w fun e w' => e = .returned (.bool true) ∧ ∃ q, w' = w.drewN q := by
  unfold maxLen at hn
  have d1 : ((n : Int) != (n : Int)) = false := by simp
  go_enter Try.func22, Try.ntmps22
  go_wp2
  go_loopw [5, 13] (fun _ i wr => ∃ k q : Nat, k ≤ n ∧ i = .int .i64 (k : Int) ∧ wr = w.drewN q) (fun _ i _ => n - (intOf i).toNat)
  case atStart => exact ⟨0, 0, by omega, rfl, rfl⟩
  case round =>
    obtain ⟨k, q, hk, rfl, rfl⟩ := hrel
    by_cases hlt : k < n
    · obtain ⟨ad, rfl, -, -⟩ := hx.out.at_ hlt
      obtain ⟨bd, rfl, -, -⟩ := hy.out.at_ hlt
      have x0 := hx.out.cell hlt
      have y0 := hy.out.cell hlt
      generalize xs.getD k 0 = a at x0 y0
      have d3 : (a != a) = false := by simp
      have i4 : (k : Int) < (n : Int) := by omega
      go_wp2_with fail
      go_quiet (fail)
      go_wp2
      go_roundw
      case rel => exact ⟨k + 1, q + nq, by omega, by go_num, by first | rfl | rw [World.drewN_drewN]⟩
      case measure => simp [intOf]; omega
    · go_wp2
      go_ret
      exact ⟨rfl, q, rfl⟩
set_option maxRecDepth 100000 in
set_option maxHeartbeats 1000000 in
theorem requal_no (A B : Option Addr) (n c d p : Nat) (xs ys : List Int) (w : World) (hn : n ≤ maxLen) (hx : Hid (RdI w A n xs)) (hy : Hid (RdI w B n ys)) (hp : p < n) (hd : Hid (xs.getD p 0 ≠ ys.getD p 0)) (hs : Hid (∀ k, k < p → xs.getD k 0 = ys.getD k 0)) :
    Calls Try.prog 22 #[.slice A n c, .slice B n d] w fun e w' => e = .returned (.bool false) ∧ ∃ q, w' = w.drewN q := by
  unfold maxLen at hn
  have d1 : ((n : Int) != (n : Int)) = false := by simp
  go_enter Try.func22, Try.ntmps22
  go_wp2
  go_loopw [5, 13] (fun _ i wr => ∃ k q : Nat, k ≤ p ∧ i = .int .i64 (k : Int) ∧ wr = w.drewN q) (fun _ i _ => n - (intOf i).toNat)
  case atStart => exact ⟨0, 0, by omega, rfl, rfl⟩
  case round =>
    obtain ⟨k, q, hk, rfl, rfl⟩ := hrel
    have hlt : k < n := by omega
    obtain ⟨ad, rfl, -, -⟩ := hx.out.at_ hlt
    obtain ⟨bd, rfl, -, -⟩ := hy.out.at_ hlt
    have x0 := hx.out.cell hlt
    have y0 := hy.out.cell hlt
    have i4 : (k : Int) < (n : Int) := by omega
    by_cases hkp : k < p
    · rw [← hs.out k hkp] at y0
      generalize xs.getD k 0 = a at x0 y0
      have d3 : (a != a) = false := by simp
      go_wp2_with fail
      go_quiet (fail)
      go_wp2
      go_roundw
      case rel => exact ⟨k + 1, q + nq, by omega, by go_num, by first | rfl | rw [World.drewN_drewN]⟩
      case measure => simp [intOf]; omega
    · obtain rfl : k = p := by omega
      have hne := hd.out
      clear hd
      generalize xs.getD k 0 = a at x0 hne
      generalize ys.getD k 0 = b at y0 hne
      have d3 : (a != b) = true := by simpa using hne
      go_wp2_with fail
      go_quiet (fail)
      go_wp2
      go_ret
      exact ⟨rfl, q + nq, by first | rfl | rw [World.drewN_drewN]⟩
theorem requal_any (A B : Option Addr) (n m c d : Nat) (xs ys : List Int) (r : Bool) (w : World) (hn : n ≤ maxLen) (hm : m ≤ maxLen) (hx : RdI w A n xs) (hy : RdI w B m ys) (hr : decide (xs = ys) = r) :
    Calls Try.prog 22 #[.slice A n c, .slice B m d] w fun e w' => e = .returned (.bool r) ∧ ∃ q, w' = w.drewN q := by
  by_cases he : n = m
  · subst he
    cases r with
    | true =>
      obtain rfl := of_decide_eq_true hr
      exact requal_yes A B n c d xs w hn (Lib.hid hx) (Lib.hid hy)
    | false =>
      have hl : xs.length = ys.length := by rw [hx.1, hy.1]
      obtain ⟨p, hp, h1, h2⟩ := ne_at hl (of_decide_eq_false hr)
      exact requal_no A B n c d p xs ys w hn (Lib.hid hx) (Lib.hid hy) (by rw [← hx.1]; exact hp) (Lib.hid h1) (Lib.hid h2)
  · have : r = false := by
      rw [← hr]
      refine decide_eq_false fun e => he ?_
      rw [← hx.1, ← hy.1, e]
    subst this
    exact requal_lens A B n m c d w he
/-- whether both tables may be, and are the same -/
def sameB (xs ys : List Int) : Bool := okF xs && decide (xs = ys)
theorem two_boxes (w : World) (A B : Option Addr) (n m c d : Nat) (xs ys : List Int) (hx : RdI w A n xs) (hy : RdI w B m ys) :
    ∃ w0, w0 = (w.alloc (.cells #[.slice A n c] 24)).alloc (.cells #[.slice B m d] 24) ∧ Blk w0 w.heap.size 24 #[.slice A n c] ∧ Blk w0 (w.heap.size + 1) 24 #[.slice B m d] ∧ Below w.heap.size w w0 ∧ RdI w0 A n xs ∧ RdI w0 B m ys :=
  ⟨_, rfl, (Blk.new w _ _).alloc _, Blk.newAt (by simp), ((Below.refl w.heap.size w).alloc (Nat.le_refl _) _).alloc (by simp) _, (hx.alloc _).alloc _, (hy.alloc _).alloc _⟩
set_option maxHeartbeats 1000000 in
theorem same_any (A B : Option Addr) (n m c d : Nat) (xs ys : List Int) (r : Bool) (w : World) (hn : n ≤ maxLen) (hm : m ≤ maxLen) (hx : Hid (RdI w A n xs)) (hy : Hid (RdI w B m ys)) (hr : Hid (sameB xs ys = r)) :
    Calls Try.prog 17 #[frV A n c, frV B m d] w fun e w' => e = .returned (.bool r) ∧ Below w.heap.size w w' := by
  obtain ⟨w0, hw0, hK1, hK2, hW, hX, hY⟩ := two_boxes w A B n m c d xs ys hx.out hy.out
  have HK1 := Lib.hid hK1
  have HK2 := Lib.hid hK2
  have HW := Lib.hid hW
  have HX := Lib.hid hX
  have HY := Lib.hid hY
  have HE := Lib.hid hw0
  have HN := Lib.hid hn
  have HM := Lib.hid hm
  clear hK1 hK2 hW hX hY hw0 hn hm
  unfold frV
  go_enter Try.func17, Try.ntmps17
  go_wp2_with fail
  rw [← HE.out]
  obtain ⟨ok, hok⟩ : ∃ ok, okF xs = ok := ⟨_, rfl⟩
  have HOK := Lib.hid hok
  clear hok
  refine (check_any A n c xs ok _ HX HN.out HOK.out).mono ?_
  rintro e w1 ⟨rfl, hb1⟩
  have HX1 := Lib.hid (HX.out.below hb1)
  have HY1 := Lib.hid (HY.out.below hb1)
  have ck1 := blk0 (HK1.out.below hb1 HK1.out.lt)
  have ck2 := blk0 (HK2.out.below hb1 HK2.out.lt)
  have HW1 := Lib.hid (HW.out.trans (hb1.mono HW.out.size))
  clear hb1
  cases ok with
  | false =>
    rw [show errN false = 1 from rfl]
    have HRR := Lib.hid (show r = false by rw [← hr.out]; simp [sameB, HOK.out])
    go_wp2
    go_ret
    exact ⟨by rw [HRR.out]; rfl, HW1.out⟩
  | true =>
    rw [show errN true = 0 from rfl]
    have HRR := Lib.hid (show decide (xs = ys) = r by rw [← hr.out]; simp [sameB, HOK.out])
    go_wp2_with fail
    refine (equal_any A B n m c d xs ys r _ HN.out HM.out HX1.out HY1.out HRR.out).mono ?_
    rintro e w2 ⟨rfl, q, rfl⟩
    go_wp2
    go_ret
    exact ⟨rfl, below_drewN HW1.out q⟩
set_option maxHeartbeats 1000000 in
theorem rsame_any (A B : Option Addr) (n m c d : Nat) (xs ys : List Int) (r : Bool) (w : World) (hn : n ≤ maxLen) (hm : m ≤ maxLen) (hx : Hid (RdI w A n xs)) (hy : Hid (RdI w B m ys)) (hr : Hid (sameB xs ys = r)) :
    Calls Try.prog 18 #[frV A n c, frV B m d] w fun e w' => e = .returned (.bool r) ∧ Below w.heap.size w w' := by
  obtain ⟨w0, hw0, hK1, hK2, hW, hX, hY⟩ := two_boxes w A B n m c d xs ys hx.out hy.out
  have HK1 := Lib.hid hK1
  have HK2 := Lib.hid hK2
  have HW := Lib.hid hW
  have HX := Lib.hid hX
  have HY := Lib.hid hY
  have HE := Lib.hid hw0
  have HN := Lib.hid hn
  have HM := Lib.hid hm
  clear hK1 hK2 hW hX hY hw0 hn hm
  unfold frV
  go_enter Try.func18, Try.ntmps18
  go_wp2_with fail
  rw [← HE.out]
  obtain ⟨ok, hok⟩ : ∃ ok, okF xs = ok := ⟨_, rfl⟩
  have HOK := Lib.hid hok
  clear hok
  refine (rcheck_any A n c xs ok _ HX HN.out HOK.out).mono ?_
  rintro e w1 ⟨rfl, hb1⟩
  have HX1 := Lib.hid (HX.out.below hb1)
  have HY1 := Lib.hid (HY.out.below hb1)
  have HL1 := Lib.hid (HK1.out.below hb1 HK1.out.lt)
  have HL2 := Lib.hid (HK2.out.below hb1 HK2.out.lt)
  have ck1 := blk0 HL1.out
  have ck2 := blk0 HL2.out
  have HW1 := Lib.hid (HW.out.trans (hb1.mono HW.out.size))
  clear hb1
  cases ok with
  | false =>
    rw [show errN false = 1 from rfl]
    have HRR := Lib.hid (show r = false by rw [← hr.out]; simp [sameB, HOK.out])
    go_wp2
    go_ret
    exact ⟨by rw [HRR.out]; rfl, HW1.out⟩
  | true =>
    rw [show errN true = 0 from rfl]
    obtain ⟨ok2, hok2⟩ : ∃ ok2, okF ys = ok2 := ⟨_, rfl⟩
    have HOK2 := Lib.hid hok2
    clear hok2
    go_wp2_with fail
    refine (rcheck_any B m d ys ok2 _ HY1 HM.out HOK2.out).mono ?_
    rintro e w2 ⟨rfl, hb2⟩
    have HX2 := Lib.hid (HX1.out.below hb2)
    have HY2 := Lib.hid (HY1.out.below hb2)
    clear ck1 ck2
    have ck1 := blk0 (HL1.out.below hb2 HL1.out.lt)
    have ck2 := blk0 (HL2.out.below hb2 HL2.out.lt)
    have HW2 := Lib.hid (HW1.out.trans (hb2.mono HW1.out.size))
    clear hb2
    cases ok2 with
    | false =>
      rw [show errN false = 1 from rfl]
      have HRR := Lib.hid (show r = false by
        rw [← hr.out]
        by_cases e : xs = ys
        · subst e; have := HOK.out; rw [HOK2.out] at this; cases this
        · simp [sameB, e])
      go_wp2
      go_ret
      exact ⟨by rw [HRR.out]; rfl, HW2.out⟩
    | true =>
      rw [show errN true = 0 from rfl]
      have HRR := Lib.hid (show decide (xs = ys) = r by rw [← hr.out]; simp [sameB, HOK.out])
      go_wp2_with fail
      refine (requal_any A B n m c d xs ys r _ HN.out HM.out HX2.out HY2.out HRR.out).mono ?_
      rintro e w3 ⟨rfl, q, rfl⟩
      go_wp2
      go_ret
      exact ⟨rfl, below_drewN HW2.out q⟩
end Go.Proofs.Ytlmkcipcclomdaa.Fq
