/-
  The walk of FreqEven.
-/
import Derived.Test.YtlmkcipcclomdaaFx
namespace Go.Proofs.Ytlmkcipcclomdaa.Fq
open Go.RowKit

theorem at_isI (x m : Int) (h1 : 1 ≤ m) (hm : m ≤ 1000000) : ∃ K : Nat, (K : Int) < m ∧ (wrap64 (x.tmod m + m)).tmod m = (K : Int) := by
  have h2 := Int.tmod_lt_of_pos x (show (0 : Int) < m by omega)
  have h3 : -m < x.tmod m := by
    have := Int.tmod_lt_of_pos (-x) (show (0 : Int) < m by omega)
    rw [Int.neg_tmod] at this
    omega
  have e : wrap64 (x.tmod m + m) = x.tmod m + m := by unfold wrap64; omega
  rw [e]
  have h0 : 0 ≤ x.tmod m + m := by omega
  refine ⟨((x.tmod m + m).tmod m).toNat, ?_, ?_⟩
  · have := Int.tmod_lt_of_pos (x.tmod m + m) (show (0 : Int) < m by omega)
    have := Int.tmod_nonneg m h0
    omega
  · have := Int.tmod_nonneg m h0
    omega
theorem tot_one (l : List Int) (h : l.length = 1) : l = [tot l] := by
  match l, h with
  | [x], _ => simp [tot_cons, tot_nil]
theorem acc_rep (n k : Nat) (h : k ≤ n) : (acc (List.replicate n 1)).getD k 0 = (k : Int) := by
  rw [acc_getD _ _ (by simpa using h), List.take_replicate, tot_rep, Nat.min_eq_left h]
theorem acc_one (x : Int) : acc [x] = [0, x] := by simp [acc, List.range_succ, tot_cons, tot_nil]
set_option maxRecDepth 100000 in
set_option maxHeartbeats 2000000 in
theorem even_core (n x total count : Int) (w : World) :
    Calls Try.prog 7 #[.int .i64 n, .int .i64 x, .int .i64 total, .int .i64 count] w fun e w' => e = .returned (.bool true) ∧ Below w.heap.size w w' := by
  obtain ⟨K0, hK0, e0⟩ := at_isI n 256 (by omega) (by omega)
  obtain ⟨N, hN⟩ : ∃ N : Nat, 1 + (K0 : Int) = (N : Int) := ⟨1 + K0, by omega⟩
  have N1 : 1 ≤ N := by omega
  have N2 : N ≤ 256 := by omega
  obtain ⟨X, hX, eX⟩ := at_isI x N (by omega) (by omega)
  obtain ⟨K2, hK2, e2⟩ := at_isI total 16384 (by omega) (by omega)
  obtain ⟨T, hT⟩ : ∃ T : Nat, 1 + (K2 : Int) = (T : Int) := ⟨1 + K2, by omega⟩
  have T1 : 1 ≤ T := by omega
  have T2 : T ≤ 16384 := by omega
  obtain ⟨Cn, hC, e3⟩ := at_isI count 1000 (by omega) (by omega)
  have X1 : X < N := by omega
  have N0 : ¬ (N : Int) = 0 := by omega
  have N0' : ((N : Int) == 0) = false := by simp; omega
  clear hK0 hK2 hX
  have HOF := Lib.hid (okF_acc (okN_rep N N1 N2))
  have HAL := Lib.hid (show (acc (List.replicate N 1)).length = N + 1 by rw [acc_length]; simp)
  have HTF := Lib.hid (show totF true (acc (List.replicate N 1)) = (N : Int) by rw [totF_acc, tot_rep])
  have HSY := Lib.hid (show IsSym (acc (List.replicate N 1)) (X : Int) X from ⟨by rw [HAL.out]; omega, by rw [acc_rep _ _ (by omega)]; omega, by rw [acc_rep _ _ (by omega)]; omega⟩)
  have HM := Lib.hid (show N + 1 ≤ maxLen by unfold maxLen; omega)
  go_enter Try.func7, Try.ntmps7
  go_wp2_with fail
  refine (live_any _).mono ?_
  rintro e w0 ⟨rfl, hb0⟩
  have H0 := Lib.hid hb0
  clear hb0
  go_wp2_with fail
  clear e0 hN eX e2 hT e3 N0 N0'
  refine (even_ok N _ N1 N2).mono ?_
  rintro e w1 ⟨g, rfl, hg, hB, hb1⟩
  rw [HAL.out]
  have H1 := Lib.hid (H0.out.trans (hb1.mono H0.out.size))
  have HB1 := Lib.hid hB
  clear hg hB hb1
  unfold freqV
  go_wp2_with fail
  have HX := Lib.hid (show BoxF (w1.alloc (.cells #[.slice (some ⟨g, 0, none⟩) (N + 1) (N + 1)] 24)) w1.heap.size g (N + 1) (acc (List.replicate N 1)) from ⟨Blk.new w1 _ _, RdI.of_blk (HB1.out.alloc _) HAL.out⟩)
  have HW := Lib.hid (show Below w.heap.size w (w1.alloc (.cells #[.slice (some ⟨g, 0, none⟩) (N + 1) (N + 1)] 24)) from H1.out.alloc H1.out.size _)
  generalize w1.alloc (.cells #[.slice (some ⟨g, 0, none⟩) (N + 1) (N + 1)] 24) = w2 at HX HW ⊢
  generalize w1.heap.size = bx at HX ⊢
  refine (find_yes (some ⟨g, 0, none⟩) (N + 1) (N + 1) X (acc (List.replicate N 1)) (X : Int) (N : Int) _ (Lib.hid HX.out.2) HOF HSY (by omega) HTF (by omega) (by omega)).mono ?_
  rintro e w3 ⟨rfl, hb3⟩
  have HX3 := Lib.hid (HX.out.below hb3)
  have HW3 := Lib.hid (HW.out.trans (hb3.mono HW.out.size))
  clear hb3 HX HW
  have ck := blk0 HX3.out.1
  unfold findT
  go_wp2_with fail
  refine (span_yes ⟨g, 0, none⟩ (N + 1) (N + 1) X (acc (List.replicate N 1)) (X : Int) ((X : Int) + 1) _ (Lib.hid HX3.out.2) (by omega) HOF (by omega) (Lib.hid (acc_rep _ _ (by omega))) (Lib.hid (by rw [acc_rep _ _ (by omega)]; omega))).mono ?_
  rintro e w4 ⟨rfl, hb4⟩
  have HX4 := Lib.hid (HX3.out.below hb4)
  have HW4 := Lib.hid (HW3.out.trans (hb4.mono HW3.out.size))
  clear hb4 HX3 HW3 ck
  unfold spanT
  go_wp2_with fail
  have HX5 := Lib.hid (HX4.out.alloc (.cells #[.int .i64 (Cn : Int)] 3))
  have HW5 := Lib.hid (HW4.out.alloc HW4.out.size (.cells #[.int .i64 (Cn : Int)] 3))
  have HR5 := Lib.hid (show RdI (w4.alloc (.cells #[.int .i64 (Cn : Int)] 3)) (some ⟨w4.heap.size, 0, none⟩) 1 [(Cn : Int)] from RdI.of_blk (Blk.new w4 3 #[.int .i64 (Cn : Int)]) rfl)
  generalize w4.alloc (.cells #[.int .i64 (Cn : Int)] 3) = w5 at HX5 HW5 HR5 ⊢
  generalize w4.heap.size = bc at HR5 ⊢
  have HOS := Lib.hid (show okS (T : Int) [(Cn : Int)] from ⟨by simp, by simp, by simp; omega, by omega, by simp [anyBad, badI]; omega⟩)
  refine (scale_ok _ 1 _ [(Cn : Int)] (T : Int) w5 HR5 HOS).mono ?_
  rintro e w6 ⟨ys, hp, -, q, rfl, hq, hB, hb6⟩
  obtain ⟨f1, f2, -, -⟩ := scaled_facts HOS.out rfl hp
  have hone := tot_one _ f1
  rw [f2] at hone
  rw [show scaled (T : Int) 1 [(Cn : Int)] ys = [(T : Int)] from hone, acc_one] at hB ⊢
  have HX6 := Lib.hid (HX5.out.below hb6)
  have HW6 := Lib.hid (HW5.out.trans (hb6.mono HW5.out.size))
  have HB6 := Lib.hid hB
  clear hq hB hb6 hp f1 f2 hone HX5 HW5
  unfold freqV
  have ck := blk0 HX6.out.1
  have hk := HX6.out.1.lt
  have q1 : ((X : Int) == (X : Int)) = true := by simp
  have q2 : ((X : Int) + 1 == (X : Int) + 1) = true := by simp
  go_wp2_with fail
  have HX7 := Lib.hid (HX6.out.alloc (.cells #[.slice (some ⟨q, 0, none⟩) 2 2] 24))
  have HW7 := Lib.hid (HW6.out.alloc HW6.out.size (.cells #[.slice (some ⟨q, 0, none⟩) 2 2] 24))
  have HB7 := Lib.hid (HB6.out.alloc (.cells #[.slice (some ⟨q, 0, none⟩) 2 2] 24))
  have HK7 := Lib.hid (Blk.new w6 24 #[.slice (some ⟨q, 0, none⟩) 2 2])
  clear ck hk
  generalize w6.alloc (.cells #[.slice (some ⟨q, 0, none⟩) 2 2] 24) = w7 at HX7 HW7 HB7 HK7 ⊢
  generalize w6.heap.size = bq at HK7 ⊢
  refine (total_any (some ⟨g, 0, none⟩) (N + 1) (N + 1) (acc (List.replicate N 1)) true (N : Int) _ (Lib.hid HX7.out.2) HM.out HOF.out HTF.out).mono ?_
  rintro e w8 ⟨rfl, hb8⟩
  have HW8 := Lib.hid (HW7.out.trans (hb8.mono HW7.out.size))
  have HB8 := Lib.hid (HB7.out.below hb8 HB7.out.lt)
  have HK8 := Lib.hid (HK7.out.below hb8 HK7.out.lt)
  clear hb8 HX7 HW7 HB7 HK7
  have ck := blk0 HK8.out
  have q3 : ((N : Int) == (N : Int)) = true := by simp
  go_wp2_with fail
  have HR9 := Lib.hid (show RdI (w8.alloc (.cells #[.int .i64 0, .int .i64 (T : Int)] 3)) (some ⟨w8.heap.size, 0, none⟩) 2 [0, (T : Int)] from RdI.of_blk (Blk.new w8 3 #[.int .i64 0, .int .i64 (T : Int)]) rfl)
  have HB9 := Lib.hid (show RdI (w8.alloc (.cells #[.int .i64 0, .int .i64 (T : Int)] 3)) (some ⟨q, 0, none⟩) 2 [0, (T : Int)] from RdI.of_blk (HB8.out.alloc _) rfl)
  have HW9 := Lib.hid (HW8.out.alloc HW8.out.size (.cells #[.int .i64 0, .int .i64 (T : Int)] 3))
  refine (requal_any _ _ 2 2 _ _ [0, (T : Int)] [0, (T : Int)] true _ (by unfold maxLen; omega) (by unfold maxLen; omega) HB9.out HR9.out (by simp)).mono ?_
  rintro e w10 ⟨rfl, n10, rfl⟩
  go_wp2
  go_ret
  exact ⟨rfl, below_drewN HW9.out n10⟩
end Go.Proofs.Ytlmkcipcclomdaa.Fq
