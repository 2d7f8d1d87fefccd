/-
  The walk of FreqAgain.
-/
import Derived.Test.YtlmkcipcclomdaaFx
namespace Go.Proofs.Ytlmkcipcclomdaa.Fq
open Go.RowKit

theorem tot_twice (zs : List Int) : tot (zs.map fun x => 1 + 2 * x) = (zs.length : Int) + 2 * tot zs := by
  induction zs with
  | nil => rfl
  | cons x l ih => rw [List.map_cons, tot_cons, tot_cons, ih, List.length_cons]; omega
theorem again_okS {zs : List Int} {n : Nat} {T : Int} (hok : okN zs = true) (hl : zs.length = n) (hT : tot zs = T) (h8 : T ≤ 8000) : okS (2 * T + (n : Int)) zs := by
  obtain ⟨h1, h2, _, h4, _⟩ := okN_parts hok
  have h0 := (tot_bd zs _ h4).1
  refine ⟨h1, h2, by omega, by omega, ?_⟩
  unfold anyBad
  rw [List.any_eq_false]
  intro x hx
  have := h4 x hx
  simp [badI]
  omega
theorem tot_pos {zs : List Int} (h1 : 1 ≤ zs.length) (h : ∀ x ∈ zs, 1 ≤ x) : 1 ≤ tot zs := by
  match zs, h1 with
  | x :: l, _ =>
    have := h x (by simp)
    have := mem_le_tot (l := x :: l) (fun y hy => by have := h y hy; omega) x (by simp)
    omega
theorem again_scaled {zs : List Int} {n : Nat} {T : Int} {ys : List Nat} (hok : okN zs = true) (hl : zs.length = n) (hT : tot zs = T) : scaled (2 * T + (n : Int)) n zs ys = zs.map fun x => 1 + 2 * x := by
  have h := hok
  unfold okN at h
  obtain ⟨h1, _, h3, _⟩ := of_decide_eq_true h
  have hp := tot_pos h1 (fun x hx => (h3 x hx).1)
  have e : sharC (2 * T + (n : Int) - (n : Int)) zs = zs.map fun x => 1 + 2 * x := by
    unfold sharC
    rw [if_neg (by omega), hT]
    refine List.map_congr_left fun x _ => ?_
    unfold partF
    rw [show x * (2 * T + (n : Int) - (n : Int)) = (2 * x) * T by rw [show 2 * T + (n : Int) - (n : Int) = 2 * T by omega, ← Int.mul_assoc, Int.mul_comm x 2], Int.mul_ediv_cancel _ (by omega)]
  unfold scaled leftN
  rw [e, tot_twice, hl, hT]
  rw [show (2 * T + (n : Int) - ((n : Int) + 2 * T)).toNat = 0 by omega]
  rfl
theorem again_err (A : Option Addr) (n c : Nat) (zs : List Int) (w : World) (hr : Hid (RdI w A n zs)) (hok : Hid (okN zs = false)) :
    Calls Try.prog 6 #[.slice A n c] w fun e w' => e = .returned (.bool true) ∧ Below w.heap.size w w' := by
  go_enter Try.func6, Try.ntmps6
  go_wp2_with fail
  refine (live_any _).mono ?_
  rintro e w0 ⟨rfl, hb0⟩
  have H0 := Lib.hid hb0
  clear hb0
  go_wp2_with fail
  refine (new_err A n c zs _ (Lib.hid (hr.out.below H0.out)) hok.out).mono ?_
  rintro e w1 ⟨rfl, hb1⟩
  have H1 := Lib.hid (H0.out.trans (hb1.mono H0.out.size))
  clear hb1
  go_wp2
  go_ret
  exact ⟨rfl, H1.out.alloc H1.out.size _⟩
set_option maxRecDepth 100000 in
set_option maxHeartbeats 4000000 in
theorem again_ok (A : Option Addr) (n c : Nat) (zs : List Int) (w : World) (hr : Hid (RdI w A n zs)) (hok : Hid (okN zs = true)) :
    Calls Try.prog 6 #[.slice A n c] w fun e w' => e = .returned (.bool true) ∧ Below w.heap.size w w' := by
  obtain ⟨h1, h2, -, h4, h5⟩ := okN_parts hok.out
  have hl := hr.out.1
  rw [hl] at h1 h2
  have HL := Lib.hid hl
  have HP := Lib.hid h4
  have HOF := Lib.hid (okF_acc hok.out)
  obtain ⟨T, hT⟩ : ∃ T, tot zs = T := ⟨_, rfl⟩
  have T0 : 0 ≤ T := by rw [← hT]; exact (tot_bd zs 16384 h4).1
  have T1 : T ≤ 16384 := by rw [← hT]; exact h5
  have HTT := Lib.hid hT
  have HTF := Lib.hid (show totF true (acc zs) = T by rw [totF_acc, hT])
  have HAL := Lib.hid (show (acc zs).length = n + 1 by rw [acc_length, hl])
  have HM := Lib.hid (show n + 1 ≤ maxLen by unfold maxLen; omega)
  clear h4 h5 hl hT
  go_enter Try.func6, Try.ntmps6
  go_wp2_with fail
  refine (live_any _).mono ?_
  rintro e w0 ⟨rfl, hb0⟩
  have H0 := Lib.hid hb0
  clear hb0
  go_wp2_with fail
  refine (new_ok A n c zs _ (Lib.hid (hr.out.below H0.out)) hok.out).mono ?_
  rintro e w1 ⟨g, rfl, hg, hB, hb1⟩
  rw [HAL.out]
  have H1 := Lib.hid (H0.out.trans (hb1.mono H0.out.size))
  have HB1 := Lib.hid hB
  clear hg hB hb1
  unfold freqV
  go_wp2_with fail
  have HX := Lib.hid (show BoxF (w1.alloc (.cells #[.slice (some ⟨g, 0, none⟩) (n + 1) (n + 1)] 24)) w1.heap.size g (n + 1) (acc zs) from ⟨Blk.new w1 _ _, RdI.of_blk (HB1.out.alloc _) HAL.out⟩)
  have HW := Lib.hid (show Below w.heap.size w (w1.alloc (.cells #[.slice (some ⟨g, 0, none⟩) (n + 1) (n + 1)] 24)) from H1.out.alloc H1.out.size _)
  generalize w1.alloc (.cells #[.slice (some ⟨g, 0, none⟩) (n + 1) (n + 1)] 24) = w2 at HX HW ⊢
  generalize w1.heap.size = bx at HX ⊢
  refine (total_any (some ⟨g, 0, none⟩) (n + 1) (n + 1) (acc zs) true T _ (Lib.hid HX.out.2) HM.out HOF.out HTF.out).mono ?_
  rintro e w3 ⟨rfl, hb3⟩
  have HX3 := Lib.hid (HX.out.below hb3)
  have HW3 := Lib.hid (HW.out.trans (hb3.mono HW.out.size))
  clear hb3 HX HW
  by_cases h8 : 8000 < T
  · have d8 : decide (8000 < T) = true := by simpa using h8
    go_wp2
    go_ret
    exact ⟨rfl, HW3.out⟩
  · have d8 : decide (8000 < T) = false := by simpa using h8
    have ck := blk0 HX3.out.1
    have HOS := Lib.hid (again_okS hok.out HL.out HTT.out (by omega))
    go_wp2_with fail
    refine (total_any (some ⟨g, 0, none⟩) (n + 1) (n + 1) (acc zs) true T _ (Lib.hid HX3.out.2) HM.out HOF.out HTF.out).mono ?_
    rintro e w4 ⟨rfl, hb4⟩
    have HW4 := Lib.hid (HW3.out.trans (hb4.mono HW3.out.size))
    clear hb4 ck
    go_wp2_with fail
    refine (scale_ok A n c zs (2 * T + (n : Int)) _ (Lib.hid (hr.out.below HW4.out)) HOS).mono ?_
    rintro e w5 ⟨ys, hp, -, q, rfl, hq, hB, hb5⟩
    rw [again_scaled hok.out HL.out HTT.out] at hB ⊢
    obtain ⟨cs, hcs⟩ : ∃ cs, zs.map (fun x => 1 + 2 * x) = cs := ⟨_, rfl⟩
    rw [hcs] at hB ⊢
    have HCL := Lib.hid (show cs.length = n by rw [← hcs]; simp [HL.out])
    have HCA := Lib.hid (show (acc cs).length = n + 1 by rw [acc_length, HCL.out])
    have HCOF := Lib.hid (show okF (acc cs) = true by
      rw [← hcs, ← again_scaled (ys := ys) hok.out HL.out HTT.out]
      exact okF_acc (scaled_facts HOS.out HL.out hp).2.2.2)
    have HCG := Lib.hid (show ∀ k, k < n → cs.getD k 0 = 1 + 2 * zs.getD k 0 from fun k hk => by
      rw [← hcs, List.getD_eq_getElem?_getD, List.getElem?_map, get_of_lt (by rw [HL.out]; exact hk)]
      rfl)
    have HCT := Lib.hid (show ∀ k, 0 ≤ tot (cs.take k) ∧ tot (cs.take k) ≤ 33000 from fun k => by
      have hb : ∀ x ∈ cs, 0 ≤ x ∧ x ≤ 32769 := fun x hx => by
        rw [← hcs] at hx
        obtain ⟨y, hy, rfl⟩ := List.mem_map.1 hx
        have := HP.out y hy
        omega
      have a := (tot_bd (cs.take k) 32769 fun x hx => hb x (List.mem_of_mem_take hx)).1
      have b := (tot_bd (cs.drop k) 32769 fun x hx => hb x (List.mem_of_mem_drop hx)).1
      have e : tot (cs.take k) + tot (cs.drop k) = tot cs := by rw [← tot_append, List.take_append_drop]
      have e2 : tot cs = (n : Int) + 2 * T := by rw [← hcs, tot_twice, HL.out, HTT.out]
      omega)
    rw [HCA.out]
    have HW5 := Lib.hid (HW4.out.trans (hb5.mono HW4.out.size))
    have HB5 := Lib.hid hB
    clear hcs hq hB hb5 hp
    unfold freqV
    go_wp2
    have HX6 := Lib.hid (show BoxF (w5.alloc (.cells #[.slice (some ⟨q, 0, none⟩) (n + 1) (n + 1)] 24)) w5.heap.size q (n + 1) (acc cs) from ⟨Blk.new w5 _ _, RdI.of_blk (HB5.out.alloc _) HCA.out⟩)
    have HW6 := Lib.hid (show Below w.heap.size w (w5.alloc (.cells #[.slice (some ⟨q, 0, none⟩) (n + 1) (n + 1)] 24)) from HW5.out.alloc HW5.out.size _)
    generalize w5.alloc (.cells #[.slice (some ⟨q, 0, none⟩) (n + 1) (n + 1)] 24) = w6 at HX6 HW6 ⊢
    generalize w5.heap.size = bq at HX6 ⊢
    go_loopw [46] (fun vk wr => ∃ k : Nat, vk = .int .i64 (k : Int) ∧ k ≤ n ∧ Hid (BoxF wr bq q (n + 1) (acc cs) ∧ Below w.heap.size w wr)) (fun vk _ => n - (intOf vk).toNat)
    case atStart => exact ⟨0, rfl, by omega, Lib.hid ⟨HX6.out, HW6.out⟩⟩
    case round =>
      obtain ⟨k, rfl, hk, HZ⟩ := hrel
      clear HX6 HW6
      by_cases hlt : k < n
      · have hlt' : (k : Int) < (n : Int) := by omega
        obtain ⟨ad, rfl, -, hcell⟩ := (hr.out.below HZ.out.2).at_ hlt
        have HSN := Lib.hid (show tot (cs.take (k + 1)) = tot (cs.take k) + (1 + 2 * zs.getD k 0) by rw [tot_snoc cs k (by rw [HCL.out]; exact hlt), HCG.out k hlt])
        have hx := HP.out _ (mem_getD (l := zs) (k := k) (by rw [HL.out]; exact hlt))
        have tb := HCT.out k
        have HA := Lib.hid (acc_getD cs k (by rw [HCL.out]; omega))
        have HA2 := Lib.hid (acc_getD cs (k + 1) (by rw [HCL.out]; omega))
        rw [HSN.out] at HA2
        generalize zs.getD k 0 = x at hcell hx HSN HA2
        generalize tot (cs.take k) = t at HSN tb HA HA2
        obtain ⟨x0, x1⟩ := hx
        obtain ⟨t0, t1⟩ := tb
        have ck := blk0 HZ.out.1.1
        go_wp2_with fail
        refine (span_yes ⟨q, 0, none⟩ (n + 1) (n + 1) k (acc cs) t (t + (1 + 2 * x)) _ (Lib.hid HZ.out.1.2) (by omega) HCOF (by omega) HA HA2).mono ?_
        rintro e w7 ⟨rfl, hb7⟩
        have HZ7 := Lib.hid (show BoxF w7 bq q (n + 1) (acc cs) ∧ Below w.heap.size w w7 from ⟨HZ.out.1.below hb7, HZ.out.2.trans (hb7.mono HZ.out.2.size)⟩)
        clear hb7 ck hcell
        unfold spanT
        have q1 : t + (1 + 2 * x) - t = 2 * x + 1 := by omega
        have q2 : (2 * x + 1 != 2 * x + 1) = false := by simp
        go_wp2
        go_roundw
        case rel => exact ⟨k + 1, by go_num, by omega, HZ7⟩
        case measure => simp [intOf]; omega
      · have hlt' : ¬ (k : Int) < (n : Int) := by omega
        obtain rfl : k = n := by omega
        go_wp2_with fail
        refine (even_ok k _ h1 h2).mono ?_
        rintro e w7 ⟨p, rfl, hp, hB, hb7⟩
        have HEL := Lib.hid (show (acc (List.replicate k 1)).length = k + 1 by rw [acc_length]; simp)
        rw [HEL.out]
        have HB7 := Lib.hid hB
        have HW7 := Lib.hid (HZ.out.2.trans (hb7.mono HZ.out.2.size))
        clear hp hB hb7
        unfold freqV
        go_wp2_with fail
        refine (total_any (some ⟨p, 0, none⟩) (k + 1) (k + 1) (acc (List.replicate k 1)) true (k : Int) _ (Lib.hid (RdI.of_blk (HB7.out.alloc _) HEL.out)) HM.out (okF_acc (okN_rep k h1 h2)) (by rw [totF_acc, tot_rep])).mono ?_
        rintro e w8 ⟨rfl, hb8⟩
        have HW8 := Lib.hid ((HW7.out.alloc HW7.out.size _).trans (hb8.mono (HW7.out.alloc HW7.out.size _).size))
        clear hb8
        have q1 : ((k : Int) == (k : Int)) = true := by simp
        go_wp2
        go_ret
        exact ⟨rfl, HW8.out⟩
theorem again_any (A : Option Addr) (n c : Nat) (zs : List Int) (w : World) (hr : RdI w A n zs) :
    Calls Try.prog 6 #[.slice A n c] w fun e w' => e = .returned (.bool true) ∧ Below w.heap.size w w' := by
  cases h : okN zs with
  | true => exact again_ok A n c zs w (Lib.hid hr) (Lib.hid h)
  | false => exact again_err A n c zs w (Lib.hid hr) (Lib.hid h)
end Go.Proofs.Ytlmkcipcclomdaa.Fq
