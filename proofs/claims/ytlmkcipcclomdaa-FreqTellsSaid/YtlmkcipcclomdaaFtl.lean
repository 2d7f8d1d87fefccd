/-
  The walk of FreqTells.
-/
import Derived.Test.YtlmkcipcclomdaaFw
import Derived.Deep.RegionHeld3
namespace Go.Proofs.Ytlmkcipcclomdaa.Fq
open Go.RowKit

theorem spanV_some (xs : List Int) (s : Int) : ∃ a b e : Int, spanV xs s = spanT a b e := by
  unfold spanV
  split
  · exact ⟨_, _, _, rfl⟩
  · exact ⟨_, _, _, rfl⟩
/-- the program's Find and the document's answer the same -/
theorem find_both (xs : List Int) (x : Int) : ∃ k e : Int, ∀ (A : Option Addr) (n c : Nat) (w : World), RdI w A n xs → n ≤ maxLen →
    (Calls Try.prog 11 #[frV A n c, .int .i64 x] w fun e' w' => e' = .returned (findT k e) ∧ Below w.heap.size w w') ∧
    (Calls Try.prog 12 #[frV A n c, .int .i64 x] w fun e' w' => e' = .returned (findT k e) ∧ Below w.heap.size w w') := by
  cases hok : okF xs with
  | false =>
    refine ⟨0, 1, fun A n c w hr hn => ⟨find_no A n c xs false x 0 w (Lib.hid hr) hn (Lib.hid hok) (Lib.hid rfl) (by omega), rfind_no A n c xs false x 0 w (Lib.hid hr) hn (Lib.hid hok) (Lib.hid rfl) (by omega)⟩⟩
  | true =>
    obtain ⟨y, hy⟩ : ∃ y, totF true xs = y := ⟨_, rfl⟩
    have hy' : xs.getD (xs.length - 1) 0 = y := by rw [← hy]; rfl
    have hyb : y ≤ 16384 := by rw [← hy']; exact (okF_parts hok).2.2.2.1
    by_cases hx : 0 ≤ x ∧ x < y
    · obtain ⟨k, hk⟩ := isSym_some hok hx.1 (by rw [hy']; exact hx.2)
      exact ⟨(k : Int), 0, fun A n c w hr _ => ⟨find_yes A n c k xs x y w (Lib.hid hr) (Lib.hid hok) (Lib.hid hk) hx.1 (Lib.hid hy) hx.2 hyb, rfind_yes A n c k xs x y w (Lib.hid hr) (Lib.hid hok) (Lib.hid hk) hx.1 (Lib.hid hy) hx.2 hyb⟩⟩
    · exact ⟨0, 1, fun A n c w hr hn => ⟨find_no A n c xs true x y w (Lib.hid hr) hn (Lib.hid hok) (Lib.hid hy) (by omega), rfind_no A n c xs true x y w (Lib.hid hr) hn (Lib.hid hok) (Lib.hid hy) (by omega)⟩⟩
/-- both tables, and their boxes -/
def Tel (w w' : World) (b1 b2 : Nat) (A B : Option Addr) (n m c d : Nat) (xs ys : List Int) : Prop :=
  Blk w' b1 24 #[.slice A n c] ∧ Blk w' b2 24 #[.slice B m d] ∧ RdI w' A n xs ∧ RdI w' B m ys ∧ Below w.heap.size w w'
theorem Tel.next {w w1 w2 : World} {b1 b2 : Nat} {A B : Option Addr} {n m c d : Nat} {xs ys : List Int} (h : Tel w w1 b1 b2 A B n m c d xs ys) (hb : Below w1.heap.size w1 w2) : Tel w w2 b1 b2 A B n m c d xs ys :=
  ⟨h.1.below hb h.1.lt, h.2.1.below hb h.2.1.lt, h.2.2.1.below hb, h.2.2.2.1.below hb, h.2.2.2.2.trans (hb.mono h.2.2.2.2.size)⟩
theorem Tel.drew {w w1 : World} {b1 b2 : Nat} {A B : Option Addr} {n m c d : Nat} {xs ys : List Int} (h : Tel w w1 b1 b2 A B n m c d xs ys) : Tel w w1.drew b1 b2 A B n m c d xs ys :=
  ⟨h.1, h.2.1, h.2.2.1, h.2.2.2.1, Below.drew h.2.2.2.2⟩
theorem tells_many (A B : Option Addr) (n m c d : Nat) (s x : Int) (w : World) (hn : n ≤ maxLen) (hm : m ≤ maxLen) (h : 1000 < n ∨ n ≤ 1000 ∧ 1000 < m) :
    Calls Try.prog 3 #[frV A n c, frV B m d, .int .i64 s, .int .i64 x] w fun e w' => e = .returned (.bool true) ∧ Below w.heap.size w w' := by
  unfold maxLen at hn hm
  unfold frV
  go_enter Try.func3, Try.ntmps3
  go_wp2_with fail
  have HK1 := Lib.hid (show Blk ((w.alloc (.cells #[.slice A n c] 24)).alloc (.cells #[.slice B m d] 24)) w.heap.size 24 #[.slice A n c] from (Blk.new w _ _).alloc _)
  have HK2 := Lib.hid (show Blk ((w.alloc (.cells #[.slice A n c] 24)).alloc (.cells #[.slice B m d] 24)) (w.heap.size + 1) 24 #[.slice B m d] from Blk.newAt (by simp))
  have HW0 := Lib.hid (show Below w.heap.size w ((w.alloc (.cells #[.slice A n c] 24)).alloc (.cells #[.slice B m d] 24)) from ((Below.refl w.heap.size w).alloc (Nat.le_refl _) _).alloc (by simp) _)
  generalize (w.alloc (.cells #[.slice A n c] 24)).alloc (.cells #[.slice B m d] 24) = w0 at HK1 HK2 HW0 ⊢
  refine (live_any _).mono ?_
  rintro e w1 ⟨rfl, hb1⟩
  have H1 := Lib.hid (HW0.out.trans (hb1.mono HW0.out.size))
  have ck1 := blk0 (HK1.out.below hb1 HK1.out.lt)
  have ck2 := blk0 (HK2.out.below hb1 HK2.out.lt)
  clear hb1
  rcases h with h | ⟨h1, h⟩
  · have d1 : decide ((1000 : Int) < (n : Int)) = true := by simp; omega
    go_wp2
    go_ret
    exact ⟨rfl, H1.out⟩
  · have d1 : decide ((1000 : Int) < (n : Int)) = false := by simp; omega
    have d2 : decide ((1000 : Int) < (m : Int)) = true := by simp; omega
    go_wp2
    go_ret
    exact ⟨rfl, H1.out⟩
set_option maxRecDepth 100000 in
set_option maxHeartbeats 8000000 in
theorem tells_core (A B : Option Addr) (n m c d : Nat) (xs ys : List Int) (s x : Int) (w : World) (hx : Hid (RdI w A n xs)) (hy : Hid (RdI w B m ys)) (hn : n ≤ 1000) (hm : m ≤ 1000) :
    Calls Try.prog 3 #[frV A n c, frV B m d, .int .i64 s, .int .i64 x] w fun e w' => e = .returned (.bool true) ∧ Below w.heap.size w w' := by
  obtain ⟨sa, sb, se, hsp⟩ := spanV_some xs s
  obtain ⟨fk, fe, hfi⟩ := find_both xs x
  obtain ⟨r, hrr⟩ : ∃ r, okF xs = r := ⟨_, rfl⟩
  obtain ⟨ev, hev⟩ : ∃ ev, errN r = ev := ⟨_, rfl⟩
  obtain ⟨T, hT⟩ : ∃ T, totF r xs = T := ⟨_, rfl⟩
  obtain ⟨sm, hsm⟩ : ∃ sm, sameB xs ys = sm := ⟨_, rfl⟩
  have HSP := Lib.hid hsp
  have HFI := Lib.hid hfi
  have HRR := Lib.hid hrr
  have HEV := Lib.hid hev
  have HT := Lib.hid hT
  have HSM := Lib.hid hsm
  have HN := Lib.hid (show n ≤ maxLen by unfold maxLen; omega)
  have HM := Lib.hid (show m ≤ maxLen by unfold maxLen; omega)
  clear hsp hfi hrr hev hT hsm
  have d1 : decide ((1000 : Int) < (n : Int)) = false := by simp; omega
  have d2 : decide ((1000 : Int) < (m : Int)) = false := by simp; omega
  unfold frV
  go_enter Try.func3, Try.ntmps3
  go_wp2_with fail
  have HT0 := Lib.hid (show Tel w ((w.alloc (.cells #[.slice A n c] 24)).alloc (.cells #[.slice B m d] 24)) w.heap.size (w.heap.size + 1) A B n m c d xs ys from
    ⟨(Blk.new w _ _).alloc _, Blk.newAt (by simp), (hx.out.alloc _).alloc _, (hy.out.alloc _).alloc _, ((Below.refl w.heap.size w).alloc (Nat.le_refl _) _).alloc (by simp) _⟩)
  generalize (w.alloc (.cells #[.slice A n c] 24)).alloc (.cells #[.slice B m d] 24) = w0 at HT0 ⊢
  refine (live_any _).mono ?_
  rintro e w1 ⟨rfl, hb1⟩
  have HT1 := Lib.hid (HT0.out.next hb1)
  clear hb1 HT0
  have ck1 := blk0 HT1.out.1
  have ck2 := blk0 HT1.out.2.1
  go_wp2_with fail
  have hcon := span_any A n c xs s w1 (Lib.hid HT1.out.2.2.1) HN.out
  rw [HSP.out] at hcon
  refine hcon.mono ?_
  clear hcon ck1 ck2 d1 d2
  rintro e w2 ⟨rfl, hb2⟩
  have HT2 := Lib.hid (HT1.out.next hb2)
  clear hb2 HT1
  have ck1 := blk0 HT2.out.1
  unfold spanT
  go_wp2_with fail
  have hcon := rspan_any A n c xs s w2 (Lib.hid HT2.out.2.2.1) HN.out
  rw [HSP.out] at hcon
  refine hcon.mono ?_
  clear hcon ck1
  rintro e w3 ⟨rfl, hb3⟩
  have HT3 := Lib.hid (HT2.out.next hb3)
  clear hb3 HT2
  have ck1 := blk0 HT3.out.1
  unfold spanT
  go_wp2_with fail
  refine (HFI.out A n c w3 HT3.out.2.2.1 HN.out).1.mono ?_
  clear ck1
  rintro e w4 ⟨rfl, hb4⟩
  have HT4 := Lib.hid (HT3.out.next hb4)
  clear hb4 HT3
  have ck1 := blk0 HT4.out.1
  unfold findT
  go_wp2_with fail
  refine (HFI.out A n c w4 HT4.out.2.2.1 HN.out).2.mono ?_
  clear ck1
  rintro e w5 ⟨rfl, hb5⟩
  have HT5 := Lib.hid (HT4.out.next hb5)
  clear hb5 HT4
  unfold findT
  go_wp2_with fail
  obtain ⟨b1, hb⟩ : ∃ b1, b1 = w.heap.size := ⟨_, rfl⟩
  rw [← hb] at HT5 ⊢
  have HBB := Lib.hid hb
  clear hb
  have C1 := Lib.hid (show ∀ u, Tel w u b1 (b1 + 1) A B n m c d xs ys → Calls Try.prog 13 #[.agg #[.slice A n c]] u (fun e w' => e = .returned (.int .i64 ev) ∧ Tel w w' b1 (b1 + 1) A B n m c d xs ys) from fun u h => by
    rw [← HEV.out]
    exact (check_any A n c xs r u (Lib.hid h.2.2.1) HN.out HRR.out).mono fun e w' ⟨h1, h2⟩ => ⟨h1, h.next h2⟩)
  have C2 := Lib.hid (show ∀ u, Tel w u b1 (b1 + 1) A B n m c d xs ys → Calls Try.prog 14 #[.agg #[.slice A n c]] u (fun e w' => e = .returned (.int .i64 ev) ∧ Tel w w' b1 (b1 + 1) A B n m c d xs ys) from fun u h => by
    rw [← HEV.out]
    exact (rcheck_any A n c xs r u (Lib.hid h.2.2.1) HN.out HRR.out).mono fun e w' ⟨h1, h2⟩ => ⟨h1, h.next h2⟩)
  have C3 := Lib.hid (show ∀ u, Tel w u b1 (b1 + 1) A B n m c d xs ys → Calls Try.prog 15 #[.agg #[.slice A n c]] u (fun e w' => e = .returned (.int .i64 T) ∧ Tel w w' b1 (b1 + 1) A B n m c d xs ys) from fun u h =>
    (total_any A n c xs r T u (Lib.hid h.2.2.1) HN.out HRR.out HT.out).mono fun e w' ⟨h1, h2⟩ => ⟨h1, h.next h2⟩)
  have C4 := Lib.hid (show ∀ u, Tel w u b1 (b1 + 1) A B n m c d xs ys → Calls Try.prog 16 #[.agg #[.slice A n c]] u (fun e w' => e = .returned (.int .i64 T) ∧ Tel w w' b1 (b1 + 1) A B n m c d xs ys) from fun u h =>
    (rtotal_any A n c xs r T u (Lib.hid h.2.2.1) HN.out HRR.out HT.out).mono fun e w' ⟨h1, h2⟩ => ⟨h1, h.next h2⟩)
  have C5 := Lib.hid (show ∀ u, Tel w u b1 (b1 + 1) A B n m c d xs ys → Calls Try.prog 17 #[.agg #[.slice A n c], .agg #[.slice B m d]] u (fun e w' => e = .returned (.bool sm) ∧ Tel w w' b1 (b1 + 1) A B n m c d xs ys) from fun u h =>
    (same_any A B n m c d xs ys sm u HN.out HM.out (Lib.hid h.2.2.1) (Lib.hid h.2.2.2.1) HSM).mono fun e w' ⟨h1, h2⟩ => ⟨h1, h.next h2⟩)
  have C6 := Lib.hid (show ∀ u, Tel w u b1 (b1 + 1) A B n m c d xs ys → Calls Try.prog 18 #[.agg #[.slice A n c], .agg #[.slice B m d]] u (fun e w' => e = .returned (.bool sm) ∧ Tel w w' b1 (b1 + 1) A B n m c d xs ys) from fun u h =>
    (rsame_any A B n m c d xs ys sm u HN.out HM.out (Lib.hid h.2.2.1) (Lib.hid h.2.2.2.1) HSM).mono fun e w' ⟨h1, h2⟩ => ⟨h1, h.next h2⟩)
  clear HFI HSP HRR HEV HT HSM hx hy HN HM hn hm
  have g1 : (sa == sa) = true := by simp
  have g2 : (sb == sb) = true := by simp
  have g3 : (se == se) = true := by simp
  have g4 : (fk == fk) = true := by simp
  have g5 : (fe == fe) = true := by simp
  have g6 : (ev == ev) = true := by simp
  have g7 : (T == T) = true := by simp
  have g8 : (sm == sm) = true := by simp
  have x1 := blk0 HT5.out.1
  have x2 := blk0 HT5.out.2.1
  go_region_held3 (fun w' => w'.cell? ⟨b1, 0, none⟩ = some (.slice A n c) ∧ w'.cell? ⟨b1 + 1, 0, none⟩ = some (.slice B m d) ∧ Tel w w' b1 (b1 + 1) A B n m c d xs ys) (first | exact ⟨blk0 hT.1, blk0 hT.2.1, hT⟩ | exact ⟨x1, x2, HT5.out⟩ | exact ⟨x1, x2, HT5.out.drew⟩) (first
    | (go_at_call 13; refine (C1.out _ (by first | exact hT | exact HT5.out | exact HT5.out.drew)).mono ?_; rintro e w6 ⟨rfl, hT⟩)
    | (go_at_call 14; refine (C2.out _ (by first | exact hT | exact HT5.out | exact HT5.out.drew)).mono ?_; rintro e w6 ⟨rfl, hT⟩)
    | (go_at_call 15; refine (C3.out _ (by first | exact hT | exact HT5.out | exact HT5.out.drew)).mono ?_; rintro e w6 ⟨rfl, hT⟩)
    | (go_at_call 16; refine (C4.out _ (by first | exact hT | exact HT5.out | exact HT5.out.drew)).mono ?_; rintro e w6 ⟨rfl, hT⟩)
    | (go_at_call 17; refine (C5.out _ (by first | exact hT | exact HT5.out | exact HT5.out.drew)).mono ?_; rintro e w6 ⟨rfl, hT⟩)
    | (go_at_call 18; refine (C6.out _ (by first | exact hT | exact HT5.out | exact HT5.out.drew)).mono ?_; rintro e w6 ⟨rfl, hT⟩))
  all_goals
    have HT9 := Lib.hid hT
    clear hT
    go_wp2
    go_ret
    exact ⟨rfl, HT9.out.2.2.2.2⟩
theorem tells_any (A B : Option Addr) (n m c d : Nat) (xs ys : List Int) (s x : Int) (w : World) (hx : RdI w A n xs) (hy : RdI w B m ys) (hn : n ≤ maxLen) (hm : m ≤ maxLen) :
    Calls Try.prog 3 #[.agg #[.slice A n c], .agg #[.slice B m d], .int .i64 s, .int .i64 x] w fun e w' => e = .returned (.bool true) ∧ Below w.heap.size w w' := by
  by_cases h : 1000 < n ∨ n ≤ 1000 ∧ 1000 < m
  · exact tells_many A B n m c d s x w hn hm h
  · exact tells_core A B n m c d xs ys s x w (Lib.hid hx) (Lib.hid hy) (by omega) (by omega)
end Go.Proofs.Ytlmkcipcclomdaa.Fq
