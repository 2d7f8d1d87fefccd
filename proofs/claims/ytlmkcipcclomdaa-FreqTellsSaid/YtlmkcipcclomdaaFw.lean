/-
  Why Scale answers an error; what is scaled; the chapter's examples.
-/
import Derived.Test.YtlmkcipcclomdaaFv
namespace Go.Proofs.Ytlmkcipcclomdaa.Fq
open Go.RowKit

theorem scale_size (A : Option Addr) (n c : Nat) (total : Int) (w : World) (hn : n < 1 ∨ 256 < n) :
    Calls Try.prog 20 #[.int .i64 total, .slice A n c] w (ErrP w) := by
  go_enter Try.func20, Try.ntmps20
  go_wp2_with fail
  refine (isSize_no _ _ (by omega)).mono ?_
  rintro e w' ⟨rfl, rfl⟩
  go_wp2
  exact bodyPost_ret (v := .tuple #[.agg #[.slice none 0 0], .int .i64 1]) (by simp [results, Try.results20, go_sem]) rfl ⟨rfl, (Below.refl w.heap.size w).alloc (Nat.le_refl _) _⟩
theorem scale_total (A : Option Addr) (n c : Nat) (total : Int) (w : World) (h1 : 1 ≤ n) (h2 : n ≤ 256) (ht : total < (n : Int) ∨ (n : Int) ≤ total ∧ 16384 < total) :
    Calls Try.prog 20 #[.int .i64 total, .slice A n c] w (ErrP w) := by
  go_enter Try.func20, Try.ntmps20
  go_wp2_with fail
  refine (isSize_yes _ _ (by omega) (by omega)).mono ?_
  rintro e w' ⟨rfl, rfl⟩
  rcases ht with ht | ⟨ht1, ht⟩
  · have d1 : decide (total < (n : Int)) = true := by simpa using ht
    go_wp2
    exact bodyPost_ret (v := .tuple #[.agg #[.slice none 0 0], .int .i64 1]) (by simp [results, Try.results20, go_sem]) rfl ⟨rfl, (Below.refl w.heap.size w).alloc (Nat.le_refl _) _⟩
  · have d1 : decide (total < (n : Int)) = false := by simp; omega
    have d2 : decide (16384 < total) = true := by simpa using ht
    go_wp2
    exact bodyPost_ret (v := .tuple #[.agg #[.slice none 0 0], .int .i64 1]) (by simp [results, Try.results20, go_sem]) rfl ⟨rfl, (Below.refl w.heap.size w).alloc (Nat.le_refl _) _⟩
set_option maxHeartbeats 1000000 in
theorem scale_bad (A : Option Addr) (n c : Nat) (zs : List Int) (total : Int) (w : World) (hr : Hid (RdI w A n zs)) (h1 : 1 ≤ n) (h2 : n ≤ 256) (ht : (n : Int) ≤ total) (ht2 : total ≤ 16384) (HB : Hid (anyBad 0 1099511627776 zs = true)) :
    Calls Try.prog 20 #[.int .i64 total, .slice A n c] w (ErrP w) := by
  go_enter Try.func20, Try.ntmps20
  go_wp2_with fail
  refine (isSize_yes _ _ (by omega) (by omega)).mono ?_
  rintro e w' ⟨rfl, rfl⟩
  have HK0 := Lib.hid (Blk.new w 24 #[.slice none 0 0])
  have HW0 := Lib.hid ((Below.refl w.heap.size w).alloc (Nat.le_refl _) (.cells #[.slice none 0 0] 24))
  generalize w.alloc (.cells #[.slice none 0 0] 24) = w0 at HK0 HW0 ⊢
  have d1 : decide (total < (n : Int)) = false := by simp; omega
  have d2 : decide (16384 < total) = false := by simp; omega
  go_wp2_with fail
  refine (outside_any 0 1099511627776 _).mono ?_
  rintro e w1 ⟨rfl, ho, hb⟩
  have HO := Lib.hid ho
  have HK1 := Lib.hid (HK0.out.below hb HK0.out.lt)
  have HW1 := Lib.hid (HW0.out.trans (hb.mono HW0.out.size))
  clear ho hb
  go_wp2_with fail
  refine (containsFunc_any 0 1099511627776 _ A n c zs true _ HO.out (hr.out.below HW1.out) (by omega) HB.out).mono ?_
  rintro e w' ⟨rfl, rfl⟩
  have c0 := HK1.out.cell 0
  have f0 := HK1.out.frozen 0
  simp at c0
  go_wp2
  exact bodyPost_ret (v := .tuple #[.agg #[.slice none 0 0], .int .i64 1]) (by simp [results, Try.results20, go_sem, c0]) rfl ⟨rfl, HW1.out.setCell (Nat.le_refl _) _⟩
theorem scale_err (A : Option Addr) (n c : Nat) (zs : List Int) (total : Int) (w : World) (hr : Hid (RdI w A n zs)) (hok : ¬ okS total zs) :
    Calls Try.prog 20 #[.int .i64 total, .slice A n c] w (ErrP w) := by
  have hl := hr.out.1
  unfold okS at hok
  rw [hl] at hok
  by_cases h1 : n < 1 ∨ 256 < n
  · exact scale_size A n c total w h1
  · by_cases h2 : total < (n : Int) ∨ (n : Int) ≤ total ∧ 16384 < total
    · exact scale_total A n c total w (by omega) (by omega) h2
    · cases hb : anyBad 0 1099511627776 zs with
      | false => exact absurd ⟨by omega, by omega, by omega, by omega, hb⟩ hok
      | true => exact scale_bad A n c zs total w hr (by omega) (by omega) (by omega) (by omega) (Lib.hid hb)
/-- what is scaled has the total, and one for each at the least -/
theorem scaled_facts {total : Int} {zs : List Int} {n : Nat} {ys : List Nat} (hok : okS total zs) (hl : zs.length = n) (hp : ys.Perm (List.range n)) :
    (scaled total n zs ys).length = n ∧ tot (scaled total n zs ys) = total ∧ (∀ x ∈ scaled total n zs ys, 1 ≤ x) ∧ okN (scaled total n zs ys) = true := by
  have hA := okS_all hok
  obtain ⟨h1, h2, h3, h4, _⟩ := hok
  rw [hl] at h1 h2 h3
  obtain ⟨f1, f2, f3, _⟩ := sharC_facts (rest := total - (n : Int)) hl h1 (by omega) (fun x hx => (hA x hx).1)
  have e1 : (scaled total n zs ys).length = n := by unfold scaled; rw [bumps_length, f1]
  have e2 : tot (scaled total n zs ys) = total := by
    unfold scaled leftN
    rw [bumps_tot hp (by omega) _ _ f1]
    omega
  have e3 : ∀ x ∈ scaled total n zs ys, 1 ≤ x := bumps_pos ys n _ _ (fun x hx => (f2 x hx).1)
  refine ⟨e1, e2, e3, ?_⟩
  unfold okN
  refine decide_eq_true ⟨by omega, by omega, fun x hx => ⟨e3 x hx, ?_⟩, by omega⟩
  have := mem_le_tot (fun x hx => by have := e3 x hx; omega) x hx
  omega
theorem ex_new : acc [1, 3] = [0, 1, 4] := by decide +kernel
theorem ex_scale : acc (scaled 10 3 [0, 1, 2] (insO (sharL (10 - ((3 : Nat) : Int)) [0, 1, 2]) 0 (3 - 1) 1 (List.range 3))) = [0, 1, 4, 10] := by decide +kernel
set_option maxHeartbeats 1000000 in
theorem live_any (w : World) : Calls Try.prog 8 #[] w fun e w' => e = .returned (.bool true) ∧ Below w.heap.size w w' := by
  go_enter Try.func8, Try.ntmps8
  go_wp2_with fail
  have HR0 := Lib.hid (show RdI (w.alloc (.cells #[.int .i64 1, .int .i64 3] 3)) (some ⟨w.heap.size, 0, none⟩) 2 [1, 3] from RdI.of_blk (Blk.new w _ _) rfl)
  have HW0 := Lib.hid (show Below w.heap.size w (w.alloc (.cells #[.int .i64 1, .int .i64 3] 3)) from (Below.refl w.heap.size w).alloc (Nat.le_refl _) _)
  generalize w.alloc (.cells #[.int .i64 1, .int .i64 3] 3) = w0 at HR0 HW0 ⊢
  refine (new_ok _ 2 _ [1, 3] w0 HR0 (by decide +kernel)).mono ?_
  rintro e w1 ⟨g, rfl, hg, hB, hb⟩
  rw [ex_new] at hB ⊢
  have HB1 := Lib.hid hB
  have HW1 := Lib.hid (HW0.out.trans (hb.mono HW0.out.size))
  have HG := Lib.hid (Nat.le_trans HW0.out.size hg)
  clear hg hB hb
  unfold freqV
  go_wp2_with fail
  have HK2 := Lib.hid (show Blk ((w1.alloc (.cells #[.slice (some ⟨g, 0, none⟩) 3 3] 24)).alloc (.cells #[.int .i64 0, .int .i64 1, .int .i64 2] 3)) w1.heap.size 24 #[.slice (some ⟨g, 0, none⟩) 3 3] from (Blk.new w1 _ _).alloc _)
  have HR2 := Lib.hid (show RdI ((w1.alloc (.cells #[.slice (some ⟨g, 0, none⟩) 3 3] 24)).alloc (.cells #[.int .i64 0, .int .i64 1, .int .i64 2] 3)) (some ⟨w1.heap.size + 1, 0, none⟩) 3 [0, 1, 2] from RdI.of_blk (Blk.newAt (t := 3) (cs := #[.int .i64 0, .int .i64 1, .int .i64 2]) (by simp)) rfl)
  have HB2 := Lib.hid (show Blk ((w1.alloc (.cells #[.slice (some ⟨g, 0, none⟩) 3 3] 24)).alloc (.cells #[.int .i64 0, .int .i64 1, .int .i64 2] 3)) g 3 (icells [0, 1, 4]) from (HB1.out.alloc _).alloc _)
  have HW2 := Lib.hid (show Below w.heap.size w ((w1.alloc (.cells #[.slice (some ⟨g, 0, none⟩) 3 3] 24)).alloc (.cells #[.int .i64 0, .int .i64 1, .int .i64 2] 3)) from (HW1.out.alloc HW1.out.size _).alloc (HW1.out.alloc HW1.out.size _).size _)
  generalize (w1.alloc (.cells #[.slice (some ⟨g, 0, none⟩) 3 3] 24)).alloc (.cells #[.int .i64 0, .int .i64 1, .int .i64 2] 3) = w2 at HK2 HR2 HB2 HW2 ⊢
  generalize w1.heap.size = k1 at HK2 HR2 ⊢
  refine (scale_ok _ 3 _ [0, 1, 2] 10 w2 HR2 (Lib.hid (by unfold okS; decide +kernel))).mono ?_
  rintro e w3 ⟨ys, -, h20, q, rfl, hq, hB, hb⟩
  rw [h20 (by omega), ex_scale] at hB ⊢
  have HB3 := Lib.hid (HB2.out.below hb HB2.out.lt)
  have HK3 := Lib.hid (HK2.out.below hb HK2.out.lt)
  have HQ3 := Lib.hid hB
  have HW3 := Lib.hid (HW2.out.trans (hb.mono HW2.out.size))
  clear hq hB hb h20
  have ck := blk0 HK3.out
  have hk := HK3.out.lt
  unfold freqV
  go_wp2_with fail
  have HR4 := Lib.hid (show RdI ((w3.alloc (.cells #[.slice (some ⟨q, 0, none⟩) 4 4] 24)).alloc (.cells #[.int .i64 0, .int .i64 1, .int .i64 4] 3)) (some ⟨w3.heap.size + 1, 0, none⟩) 3 [0, 1, 4] from RdI.of_blk (Blk.newAt (t := 3) (cs := #[.int .i64 0, .int .i64 1, .int .i64 4]) (by simp)) rfl)
  have HB4 := Lib.hid (show RdI ((w3.alloc (.cells #[.slice (some ⟨q, 0, none⟩) 4 4] 24)).alloc (.cells #[.int .i64 0, .int .i64 1, .int .i64 4] 3)) (some ⟨g, 0, none⟩) 3 [0, 1, 4] from RdI.of_blk ((HB3.out.alloc _).alloc _) rfl)
  have HQ4 := Lib.hid (show Blk ((w3.alloc (.cells #[.slice (some ⟨q, 0, none⟩) 4 4] 24)).alloc (.cells #[.int .i64 0, .int .i64 1, .int .i64 4] 3)) q 3 (icells [0, 1, 4, 10]) from (HQ3.out.alloc _).alloc _)
  have HK4 := Lib.hid (show Blk ((w3.alloc (.cells #[.slice (some ⟨q, 0, none⟩) 4 4] 24)).alloc (.cells #[.int .i64 0, .int .i64 1, .int .i64 4] 3)) w3.heap.size 24 #[.slice (some ⟨q, 0, none⟩) 4 4] from (Blk.new w3 _ _).alloc _)
  have HW4 := Lib.hid (show Below w.heap.size w ((w3.alloc (.cells #[.slice (some ⟨q, 0, none⟩) 4 4] 24)).alloc (.cells #[.int .i64 0, .int .i64 1, .int .i64 4] 3)) from (HW3.out.alloc HW3.out.size _).alloc (HW3.out.alloc HW3.out.size _).size _)
  clear ck hk
  generalize (w3.alloc (.cells #[.slice (some ⟨q, 0, none⟩) 4 4] 24)).alloc (.cells #[.int .i64 0, .int .i64 1, .int .i64 4] 3) = w4 at HR4 HB4 HQ4 HK4 HW4 ⊢
  generalize w3.heap.size = k3 at HR4 HK4 ⊢
  refine (requal_any _ _ 3 3 _ _ [0, 1, 4] [0, 1, 4] true _ (by unfold maxLen; omega) (by unfold maxLen; omega) HB4.out HR4.out (by simp)).mono ?_
  rintro e w5 ⟨rfl, n5, rfl⟩
  have ck := blk0 (HK4.out.drewN n5)
  go_wp2_with fail
  have HR5 := Lib.hid (show RdI ((w4.drewN n5).alloc (.cells #[.int .i64 0, .int .i64 1, .int .i64 4, .int .i64 10] 3)) (some ⟨(w4.drewN n5).heap.size, 0, none⟩) 4 [0, 1, 4, 10] from RdI.of_blk (Blk.new _ _ _) rfl)
  have HB5 := Lib.hid (show RdI ((w4.drewN n5).alloc (.cells #[.int .i64 0, .int .i64 1, .int .i64 4, .int .i64 10] 3)) (some ⟨q, 0, none⟩) 4 [0, 1, 4, 10] from RdI.of_blk ((HQ4.out.drewN n5).alloc _) rfl)
  refine (requal_any _ _ 4 4 _ _ [0, 1, 4, 10] [0, 1, 4, 10] true _ (by unfold maxLen; omega) (by unfold maxLen; omega) HB5.out HR5.out (by simp)).mono ?_
  rintro e w6 ⟨rfl, n6, rfl⟩
  go_wp2
  go_ret
  exact ⟨rfl, below_drewN ((below_drewN HW4.out n5).alloc (below_drewN HW4.out n5).size _) n6⟩
end Go.Proofs.Ytlmkcipcclomdaa.Fq
