/-
  The walk of FreqOne.
-/
import Derived.Test.YtlmkcipcclomdaaFw
namespace Go.Proofs.Ytlmkcipcclomdaa.Fq
open Go.RowKit

theorem one_err (A : Option Addr) (n c : Nat) (zs : List Int) (w : World) (hr : Hid (RdI w A n zs)) (hok : Hid (okN zs = false)) :
    Calls Try.prog 4 #[.slice A n c] w fun e w' => e = .returned (.bool true) ∧ Below w.heap.size w w' := by
  go_enter Try.func4, Try.ntmps4
  go_wp2_with fail
  refine (live_any _).mono ?_
  rintro e w0 ⟨rfl, hb0⟩
  have H0 := Lib.hid hb0
  clear hb0
  go_wp2_with fail
  refine (new_err A n c zs _ (Lib.hid (hr.out.below H0.out)) hok.out).mono ?_
  rintro e w1 ⟨rfl, hb1⟩
  have H1 := Lib.hid (H0.out.trans (hb1.mono H0.out.size))
  clear hb1
  go_wp2
  go_ret
  exact ⟨rfl, H1.out.alloc H1.out.size _⟩
/-- a table in memory, laid in a box -/
def BoxF (w : World) (b g m : Nat) (cs : List Int) : Prop := Blk w b 24 #[.slice (some ⟨g, 0, none⟩) m m] ∧ RdI w (some ⟨g, 0, none⟩) m cs
theorem BoxF.below {w w' : World} {b g m : Nat} {cs : List Int} (h : BoxF w b g m cs) (hb : Below w.heap.size w w') : BoxF w' b g m cs := ⟨h.1.below hb h.1.lt, h.2.below hb⟩
theorem BoxF.alloc {w : World} {b g m : Nat} {cs : List Int} (h : BoxF w b g m cs) (o : Obj) : BoxF (w.alloc o) b g m cs := ⟨h.1.alloc o, h.2.alloc o⟩
theorem totF_acc (zs : List Int) : totF true (acc zs) = tot zs := by
  unfold totF
  rw [acc_length, Nat.add_sub_cancel, acc_getD _ _ (Nat.le_refl _)]
  simp
theorem sym_acc {zs : List Int} {k : Nat} {v : Int} (hk : k < zs.length) (h1 : tot (zs.take k) ≤ v) (h2 : v < tot (zs.take (k + 1))) : IsSym (acc zs) v k :=
  ⟨by rw [acc_length]; omega, by rw [acc_getD _ _ (by omega)]; exact h1, by rw [acc_getD _ _ (by omega)]; exact h2⟩
set_option maxRecDepth 100000 in
set_option maxHeartbeats 4000000 in
theorem one_ok (A : Option Addr) (n c : Nat) (zs : List Int) (w : World) (hr : Hid (RdI w A n zs)) (hok : Hid (okN zs = true)) :
    Calls Try.prog 4 #[.slice A n c] w fun e w' => e = .returned (.bool true) ∧ Below w.heap.size w w' := by
  obtain ⟨h1, h2, -, h4, h5⟩ := okN_parts hok.out
  have hl := hr.out.1
  rw [hl] at h1 h2
  have HL := Lib.hid hl
  have HP := Lib.hid (show ∀ x ∈ zs, 1 ≤ x ∧ x ≤ 16384 from fun x hx => by
    have := hok.out
    unfold okN at this
    exact (of_decide_eq_true this).2.2.1 x hx)
  have HOF := Lib.hid (okF_acc hok.out)
  have HTF := Lib.hid (totF_acc zs)
  obtain ⟨T, hT⟩ : ∃ T, tot zs = T := ⟨_, rfl⟩
  have T0 : 0 ≤ T := by rw [← hT]; exact (tot_bd zs 16384 h4).1
  have T1 : T ≤ 16384 := by rw [← hT]; exact h5
  have HTT := Lib.hid hT
  have HAL := Lib.hid (show (acc zs).length = n + 1 by rw [acc_length, hl])
  have HM := Lib.hid (show n + 1 ≤ maxLen by unfold maxLen; omega)
  have HTB := Lib.hid (fun k => (show 0 ≤ tot (zs.take k) ∧ tot (zs.take k) ≤ T from by
    have a := (tot_bd (zs.take k) 16384 fun x hx => h4 x (List.mem_of_mem_take hx)).1
    have b := (tot_bd (zs.drop k) 16384 fun x hx => h4 x (List.mem_of_mem_drop hx)).1
    have e : tot (zs.take k) + tot (zs.drop k) = tot zs := by rw [← tot_append, List.take_append_drop]
    omega))
  clear h4 h5 hl hT
  go_enter Try.func4, Try.ntmps4
  go_wp2_with fail
  refine (live_any _).mono ?_
  rintro e w0 ⟨rfl, hb0⟩
  have H0 := Lib.hid hb0
  clear hb0
  go_wp2_with fail
  refine (new_ok A n c zs _ (Lib.hid (hr.out.below H0.out)) hok.out).mono ?_
  rintro e w1 ⟨g, rfl, hg, hB, hb1⟩
  rw [HAL.out]
  have H1 := Lib.hid (H0.out.trans (hb1.mono H0.out.size))
  have HB1 := Lib.hid hB
  clear hg hB hb1
  unfold freqV
  go_wp2
  have HX := Lib.hid (show BoxF (w1.alloc (.cells #[.slice (some ⟨g, 0, none⟩) (n + 1) (n + 1)] 24)) w1.heap.size g (n + 1) (acc zs) from ⟨Blk.new w1 _ _, RdI.of_blk (HB1.out.alloc _) HAL.out⟩)
  have HW := Lib.hid (show Below w.heap.size w (w1.alloc (.cells #[.slice (some ⟨g, 0, none⟩) (n + 1) (n + 1)] 24)) from H1.out.alloc H1.out.size _)
  generalize w1.alloc (.cells #[.slice (some ⟨g, 0, none⟩) (n + 1) (n + 1)] 24) = w2 at HX HW ⊢
  generalize w1.heap.size = bx at HX ⊢
  go_loopw [6, 37] (fun va vk wr => ∃ k : Nat, vk = .int .i64 (k : Int) ∧ k ≤ n ∧ va = .int .i64 (tot (zs.take k)) ∧ Hid (BoxF wr bx g (n + 1) (acc zs) ∧ Below w.heap.size w wr)) (fun _ vk _ => n - (intOf vk).toNat)
  case atStart => exact ⟨0, rfl, by omega, rfl, Lib.hid ⟨HX.out, HW.out⟩⟩
  case round =>
    obtain ⟨k, rfl, hk, rfl, HZ⟩ := hrel
    clear HX HW
    by_cases hlt : k < n
    · have hlt' : (k : Int) < (n : Int) := by omega
      obtain ⟨ad, rfl, -, hcell⟩ := (hr.out.below HZ.out.2).at_ hlt
      have HSN := Lib.hid (tot_snoc zs k (by rw [HL.out]; exact hlt))
      have hx := HP.out _ (mem_getD (l := zs) (k := k) (by rw [HL.out]; exact hlt))
      have tb := HTB.out k
      have tb2 := HTB.out (k + 1)
      have HA := Lib.hid (acc_getD zs k (by rw [HL.out]; omega))
      have HA2 := Lib.hid (acc_getD zs (k + 1) (by rw [HL.out]; omega))
      have HSY := Lib.hid (fun v => sym_acc (v := v) (zs := zs) (k := k) (by rw [HL.out]; exact hlt))
      rw [HSN.out] at tb2 HA2 HSY
      generalize zs.getD k 0 = x at hcell hx HSN tb2 HA2 HSY
      generalize tot (zs.take k) = t at HSN tb tb2 HA HA2 HSY
      obtain ⟨x0, x1⟩ := hx
      obtain ⟨t0, t1⟩ := tb
      obtain ⟨-, t2⟩ := tb2
      have ck := blk0 HZ.out.1.1
      go_wp2_with fail
      refine (span_yes ⟨g, 0, none⟩ (n + 1) (n + 1) k (acc zs) t (t + x) _ (Lib.hid HZ.out.1.2) (by omega) HOF (by omega) HA HA2).mono ?_
      rintro e w3 ⟨rfl, hb3⟩
      have HX3 := Lib.hid (HZ.out.1.below hb3)
      have HW3 := Lib.hid (HZ.out.2.trans (hb3.mono HZ.out.2.size))
      clear hb3 ck hcell
      unfold spanT
      obtain ⟨y, hy⟩ : ∃ y, (t + (t + x)) / 2 = y := ⟨_, rfl⟩
      have y0 : t ≤ y := by omega
      have y1 : y < t + x := by omega
      have q1 : (t != t) = false := by simp
      have q2 : (t + x != t + x) = false := by simp
      go_wp2
      clear hy q1 q2
      have HX4 := Lib.hid (HX3.out.alloc (.cells #[.int .i64 t, .int .i64 y, .int .i64 (t + x - 1)] 3))
      have HW4 := Lib.hid (HW3.out.alloc HW3.out.size (.cells #[.int .i64 t, .int .i64 y, .int .i64 (t + x - 1)] 3))
      have HB4 := Lib.hid (show Blk (w3.alloc (.cells #[.int .i64 t, .int .i64 y, .int .i64 (t + x - 1)] 3)) w3.heap.size 3 (icells [t, y, t + x - 1]) from Blk.new w3 _ _)
      generalize w3.alloc (.cells #[.int .i64 t, .int .i64 y, .int .i64 (t + x - 1)] 3) = w4 at HX4 HW4 HB4 ⊢
      generalize w3.heap.size = bs at HB4 ⊢
      have HV := Lib.hid (show ∀ j, j < 3 → t ≤ [t, y, t + x - 1].getD j 0 ∧ [t, y, t + x - 1].getD j 0 < t + x from fun j hj => by
        match j, hj with
        | 0, _ => simp; omega
        | 1, _ => simp; omega
        | 2, _ => simp; omega)
      go_loopw [72] (fun vj wr => ∃ j : Nat, vj = .int .i64 (j : Int) ∧ j ≤ 3 ∧ Hid (BoxF wr bx g (n + 1) (acc zs) ∧ Below w.heap.size w wr ∧ Blk wr bs 3 (icells [t, y, t + x - 1]))) (fun vj _ => 3 - (intOf vj).toNat)
      case atStart => exact ⟨0, rfl, by omega, Lib.hid ⟨HX4.out, HW4.out, HB4.out⟩⟩
      case round =>
        obtain ⟨j, rfl, hj, HZ5⟩ := hrel
        clear HX4 HW4 HB4 HX3 HW3
        by_cases hj3 : j < 3
        · have hj3' : (j : Int) < 3 := by omega
          have cj := blk_at HZ5.out.2.2 (i := j) (by simpa using hj3)
          have hv := HV.out j hj3
          generalize [t, y, t + x - 1].getD j 0 = v at cj hv
          obtain ⟨v0, v1⟩ := hv
          have ck := blk0 HZ5.out.1.1
          go_wp2_with fail
          refine (find_yes (some ⟨g, 0, none⟩) (n + 1) (n + 1) k (acc zs) v T _ (Lib.hid HZ5.out.1.2) HOF (Lib.hid (HSY.out v v0 v1)) (by omega) (Lib.hid (by rw [HTF.out, HTT.out])) (by omega) (by omega)).mono ?_
          rintro e w6 ⟨rfl, hb6⟩
          have HZ6 := Lib.hid (show BoxF w6 bx g (n + 1) (acc zs) ∧ Below w.heap.size w w6 ∧ Blk w6 bs 3 (icells [t, y, t + x - 1]) from ⟨HZ5.out.1.below hb6, HZ5.out.2.1.trans (hb6.mono HZ5.out.2.1.size), HZ5.out.2.2.below hb6 HZ5.out.2.2.lt⟩)
          clear hb6 ck cj
          unfold findT
          have q1 : ((k : Int) != (k : Int)) = false := by simp
          go_wp2
          go_roundw
          case rel => exact ⟨j + 1, by go_num, by omega, HZ6⟩
          case measure => simp [intOf]; omega
        · have hj3' : ¬ (j : Int) < 3 := by omega
          go_wp2
          go_roundw
          case rel => exact ⟨k + 1, by go_num, by omega, by rw [HSN.out], Lib.hid ⟨HZ5.out.1, HZ5.out.2.1⟩⟩
          case measure => simp [intOf]; omega
    · have hlt' : ¬ (k : Int) < (n : Int) := by omega
      obtain rfl : k = n := by omega
      have HTK := Lib.hid (show tot (zs.take k) = T by rw [List.take_of_length_le (by rw [HL.out]; exact Nat.le_refl _), HTT.out])
      rw [HTK.out]
      have ck := blk0 HZ.out.1.1
      have HT := Lib.hid (show totF true (acc zs) = T by rw [HTF.out, HTT.out])
      go_wp2_with fail
      refine (find_no (some ⟨g, 0, none⟩) (k + 1) (k + 1) (acc zs) true T T _ (Lib.hid HZ.out.1.2) HM.out HOF HT (by omega)).mono ?_
      rintro e w3 ⟨rfl, hb3⟩
      have HX3 := Lib.hid (HZ.out.1.below hb3)
      have HW3 := Lib.hid (HZ.out.2.trans (hb3.mono HZ.out.2.size))
      clear hb3 ck
      have ck := blk0 HX3.out.1
      unfold findT
      go_wp2_with fail
      refine (total_any (some ⟨g, 0, none⟩) (k + 1) (k + 1) (acc zs) true T _ (Lib.hid HX3.out.2) HM.out HOF.out HT.out).mono ?_
      rintro e w4 ⟨rfl, hb4⟩
      have HX4 := Lib.hid (HX3.out.below hb4)
      have HW4 := Lib.hid (HW3.out.trans (hb4.mono HW3.out.size))
      clear hb4 ck
      have ck := blk0 HX4.out.1
      have q1 : (T == T) = true := by simp
      go_wp2_with fail
      refine (same_any (some ⟨g, 0, none⟩) (some ⟨g, 0, none⟩) (k + 1) (k + 1) (k + 1) (k + 1) (acc zs) (acc zs) true _ HM.out HM.out (Lib.hid HX4.out.2) (Lib.hid HX4.out.2) (Lib.hid (by simp [sameB, HOF.out]))).mono ?_
      rintro e w5 ⟨rfl, hb5⟩
      have HW5 := Lib.hid (HW4.out.trans (hb5.mono HW4.out.size))
      clear hb5 ck
      go_wp2
      go_ret
      exact ⟨rfl, HW5.out⟩
theorem one_any (A : Option Addr) (n c : Nat) (zs : List Int) (w : World) (hr : RdI w A n zs) :
    Calls Try.prog 4 #[.slice A n c] w fun e w' => e = .returned (.bool true) ∧ Below w.heap.size w w' := by
  cases h : okN zs with
  | true => exact one_ok A n c zs w (Lib.hid hr) (Lib.hid h)
  | false => exact one_err A n c zs w (Lib.hid hr) (Lib.hid h)
end Go.Proofs.Ytlmkcipcclomdaa.Fq
