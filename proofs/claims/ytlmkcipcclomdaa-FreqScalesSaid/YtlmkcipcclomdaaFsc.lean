/-
  The walk of FreqScales.
-/
import Derived.Test.YtlmkcipcclomdaaFx
namespace Go.Proofs.Ytlmkcipcclomdaa.Fq
open Go.RowKit

theorem sharC_mono {rest : Int} {zs : List Int} {n : Nat} (hl : zs.length = n) (hr : 0 ≤ rest) (hz : ∀ x ∈ zs, 0 ≤ x) {s t : Nat} (hs : s < n) (ht : t < n) (h : zs.getD t 0 ≤ zs.getD s 0) : (sharC rest zs).getD t 0 ≤ (sharC rest zs).getD s 0 := by
  unfold sharC
  by_cases h0 : tot zs = 0
  · rw [if_pos h0, hl]
    simp [List.getD_eq_getElem?_getD, hs, ht]
  · rw [if_neg h0]
    have ha : 0 < tot zs := by
      have := mem_le_tot hz
      have h2 : 0 ≤ tot zs := (tot_bd zs (tot zs) fun z h => ⟨hz z h, this z h⟩).1
      omega
    rw [List.getD_eq_getElem?_getD, List.getD_eq_getElem?_getD, List.getElem?_map, List.getElem?_map, get_of_lt (by omega), get_of_lt (by omega)]
    show partF rest (tot zs) (zs.getD t 0) ≤ partF rest (tot zs) (zs.getD s 0)
    unfold partF
    have := Int.ediv_le_ediv ha (Int.mul_le_mul_of_nonneg_right h hr)
    omega
theorem scaled_near {total : Int} {zs : List Int} {n : Nat} {ys : List Nat} (hok : okS total zs) (hl : zs.length = n) (hp : ys.Perm (List.range n)) {s t : Nat} (hs : s < n) (ht : t < n) (h : zs.getD t 0 ≤ zs.getD s 0) :
    (scaled total n zs ys).getD t 0 ≤ (scaled total n zs ys).getD s 0 + 1 := by
  have hA := okS_all hok
  obtain ⟨h1, h2, h3, h4, _⟩ := hok
  rw [hl] at h1 h2 h3
  obtain ⟨f1, _⟩ := sharC_facts (rest := total - (n : Int)) hl h1 (by omega) (fun x hx => (hA x hx).1)
  have hm := sharC_mono (rest := total - (n : Int)) hl (by omega) (fun x hx => (hA x hx).1) hs ht h
  unfold scaled
  have b1 := bumps_near hp (by omega) (leftN total (sharC (total - (n : Int)) zs)) _ f1 s hs
  have b2 := bumps_near hp (by omega) (leftN total (sharC (total - (n : Int)) zs)) _ f1 t ht
  omega
theorem scales_many (A : Option Addr) (n c : Nat) (total : Int) (w : World) (hn : 300 < n) (hb : n ≤ maxLen) :
    Calls Try.prog 5 #[.int .i64 total, .slice A n c] w fun e w' => e = .returned (.bool true) ∧ Below w.heap.size w w' := by
  unfold maxLen at hb
  go_enter Try.func5, Try.ntmps5
  go_wp2_with fail
  refine (live_any _).mono ?_
  rintro e w0 ⟨rfl, hb0⟩
  have H0 := Lib.hid hb0
  clear hb0
  go_wp2
  go_ret
  exact ⟨rfl, H0.out⟩
theorem scales_err (A : Option Addr) (n c : Nat) (zs : List Int) (total : Int) (w : World) (hr : Hid (RdI w A n zs)) (hn : n ≤ 300) (hok : Hid (¬ okS total zs)) :
    Calls Try.prog 5 #[.int .i64 total, .slice A n c] w fun e w' => e = .returned (.bool true) ∧ Below w.heap.size w w' := by
  go_enter Try.func5, Try.ntmps5
  go_wp2_with fail
  refine (live_any _).mono ?_
  rintro e w0 ⟨rfl, hb0⟩
  have H0 := Lib.hid hb0
  clear hb0
  go_wp2_with fail
  refine (scale_err A n c zs total _ (Lib.hid (hr.out.below H0.out)) hok.out).mono ?_
  rintro e w1 ⟨rfl, hb1⟩
  have H1 := Lib.hid (H0.out.trans (hb1.mono H0.out.size))
  clear hb1
  go_wp2
  go_ret
  exact ⟨rfl, H1.out.alloc H1.out.size _⟩
theorem rdi_own {w : World} {g n k : Nat} {zs : List Int} (h : RdI w (some ⟨g, 0, none⟩) n zs) (hk : k < n) : w.cell? ⟨g, k, none⟩ = some (.int .i64 (zs.getD k 0)) := by
  rw [← add_own]
  exact h.cell hk
/-- what the innermost test is over -/
def Near (a b x y : Int) : Prop := (b < a → y ≤ x + 1) ∧ (a = b → y ≤ x + 1 ∧ x ≤ y + 1)
set_option maxRecDepth 100000 in
set_option maxHeartbeats 4000000 in
theorem scales_ok (A : Option Addr) (n c : Nat) (zs : List Int) (total : Int) (w : World) (hr : Hid (RdI w A n zs)) (hok : Hid (okS total zs)) :
    Calls Try.prog 5 #[.int .i64 total, .slice A n c] w fun e w' => e = .returned (.bool true) ∧ Below w.heap.size w w' := by
  obtain ⟨h1, h2, h3, h4, -⟩ := hok.out
  have hl := hr.out.1
  rw [hl] at h1 h2 h3
  have HL := Lib.hid hl
  have HM := Lib.hid (show n + 1 ≤ maxLen by unfold maxLen; omega)
  clear hl
  go_enter Try.func5, Try.ntmps5
  go_wp2_with fail
  refine (live_any _).mono ?_
  rintro e w0 ⟨rfl, hb0⟩
  have H0 := Lib.hid hb0
  clear hb0
  go_wp2_with fail
  refine (scale_ok A n c zs total _ (Lib.hid (hr.out.below H0.out)) hok).mono ?_
  rintro e w1 ⟨ys, hp, -, g, rfl, hg, hB, hb1⟩
  have hnear := fun s t hs ht => scaled_near (total := total) (ys := ys) hok.out HL.out hp (s := s) (t := t) hs ht
  obtain ⟨f1, f2, f3, f4⟩ := scaled_facts hok.out HL.out hp
  obtain ⟨cs, hcs⟩ : ∃ cs, scaled total n zs ys = cs := ⟨_, rfl⟩
  rw [hcs] at hB f1 f2 f3 f4 ⊢
  have HNE := Lib.hid (show ∀ s t, s < n → t < n → Near (zs.getD s 0) (zs.getD t 0) (cs.getD s 0) (cs.getD t 0) from fun s t hs ht => by
    rw [← hcs]
    refine ⟨fun h => hnear s t hs ht (by omega), fun h => ⟨hnear s t hs ht (by omega), hnear t s ht hs (by omega)⟩⟩)
  clear hnear hcs
  have HOF := Lib.hid (okF_acc f4)
  have HAL := Lib.hid (show (acc cs).length = n + 1 by rw [acc_length, f1])
  have HTF := Lib.hid (show totF true (acc cs) = total by rw [totF_acc, f2])
  have HF1 := Lib.hid f1
  have HTB := Lib.hid (show ∀ k, 0 ≤ tot (cs.take k) ∧ tot (cs.take k) ≤ 16384 from fun k => by
    have hb : ∀ x ∈ cs, 0 ≤ x ∧ x ≤ tot cs := fun x hx => ⟨by have := f3 x hx; omega, mem_le_tot (fun x hx => by have := f3 x hx; omega) x hx⟩
    have a := (tot_bd (cs.take k) _ fun x hx => hb x (List.mem_of_mem_take hx)).1
    have b := (tot_bd (cs.drop k) _ fun x hx => hb x (List.mem_of_mem_drop hx)).1
    have e : tot (cs.take k) + tot (cs.drop k) = tot cs := by rw [← tot_append, List.take_append_drop]
    omega)
  have HF3 := Lib.hid (show ∀ k, k < n → 1 ≤ cs.getD k 0 from fun k hk => f3 _ (mem_getD (by rw [f1]; exact hk)))
  rw [HAL.out]
  have H1 := Lib.hid (H0.out.trans (hb1.mono H0.out.size))
  have HB1 := Lib.hid hB
  clear hg hB hb1 hp f1 f2 f3 f4
  unfold freqV
  go_wp2_with fail
  have HX := Lib.hid (show BoxF (w1.alloc (.cells #[.slice (some ⟨g, 0, none⟩) (n + 1) (n + 1)] 24)) w1.heap.size g (n + 1) (acc cs) from ⟨Blk.new w1 _ _, RdI.of_blk (HB1.out.alloc _) HAL.out⟩)
  have HW := Lib.hid (show Below w.heap.size w (w1.alloc (.cells #[.slice (some ⟨g, 0, none⟩) (n + 1) (n + 1)] 24)) from H1.out.alloc H1.out.size _)
  generalize w1.alloc (.cells #[.slice (some ⟨g, 0, none⟩) (n + 1) (n + 1)] 24) = w2 at HX HW ⊢
  generalize w1.heap.size = bx at HX ⊢
  refine (rcheck_any (some ⟨g, 0, none⟩) (n + 1) (n + 1) (acc cs) true _ (Lib.hid HX.out.2) HM.out HOF.out).mono ?_
  rintro e w3 ⟨rfl, hb3⟩
  have HX3 := Lib.hid (HX.out.below hb3)
  have HW3 := Lib.hid (HW.out.trans (hb3.mono HW.out.size))
  clear hb3 HX HW
  rw [show errN true = 0 from rfl]
  have ck := blk0 HX3.out.1
  go_wp2_with fail
  refine (total_any (some ⟨g, 0, none⟩) (n + 1) (n + 1) (acc cs) true total _ (Lib.hid HX3.out.2) HM.out HOF.out HTF.out).mono ?_
  rintro e w4 ⟨rfl, hb4⟩
  have HX4 := Lib.hid (HX3.out.below hb4)
  have HW4 := Lib.hid (HW3.out.trans (hb4.mono HW3.out.size))
  clear hb4 ck HX3 HW3
  have ck := blk0 HX4.out.1
  have q1 : (total != total) = false := by simp
  go_wp2
  clear q1
  go_loopw [54] (fun vk wr => ∃ k q : Nat, vk = .int .i64 (k : Int) ∧ k ≤ n ∧ wr = w4.drewN q) (fun vk _ => n - (intOf vk).toNat)
  case atStart => exact ⟨0, 0, rfl, by omega, rfl⟩
  case round =>
    obtain ⟨s, q, rfl, hs, rfl⟩ := hrel
    by_cases hlt : s < n
    · have hlt' : (s : Int) < (n : Int) := by omega
      go_wp2
      go_loopw [59] (fun vk wr => ∃ k q : Nat, vk = .int .i64 (k : Int) ∧ k ≤ n ∧ wr = w4.drewN q) (fun vk _ => n - (intOf vk).toNat)
      case atStart => exact ⟨0, q, rfl, by omega, rfl⟩
      case round =>
        obtain ⟨t, q, rfl, ht, rfl⟩ := hrel
        by_cases hlt2 : t < n
        · have hlt2' : (t : Int) < (n : Int) := by omega
          obtain ⟨ad, rfl, -, -⟩ := (hr.out.below HW4.out).at_ hlt
          have la := (hr.out.below HW4.out).cell hlt
          have lb := (hr.out.below HW4.out).cell hlt2
          have a0 := rdi_own HX4.out.2 (k := s) (by omega)
          have a1 := rdi_own HX4.out.2 (k := s + 1) (by omega)
          have b0 := rdi_own HX4.out.2 (k := t) (by omega)
          have b1 := rdi_own HX4.out.2 (k := t + 1) (by omega)
          rw [acc_getD cs s (by rw [HF1.out]; omega)] at a0
          rw [acc_getD cs (s + 1) (by rw [HF1.out]; omega), tot_snoc cs s (by rw [HF1.out]; exact hlt)] at a1
          rw [acc_getD cs t (by rw [HF1.out]; omega)] at b0
          rw [acc_getD cs (t + 1) (by rw [HF1.out]; omega), tot_snoc cs t (by rw [HF1.out]; exact hlt2)] at b1
          have hN := HNE.out s t hlt hlt2
          have xb := HF3.out s hlt
          have yb := HF3.out t hlt2
          have t1 := HTB.out s
          have t2 := HTB.out t
          have t3 := (HTB.out (s + 1)).2
          have t4 := (HTB.out (t + 1)).2
          rw [tot_snoc cs s (by rw [HF1.out]; exact hlt)] at t3
          rw [tot_snoc cs t (by rw [HF1.out]; exact hlt2)] at t4
          generalize zs.getD s 0 = a at la hN
          generalize zs.getD t 0 = b at lb hN
          generalize cs.getD s 0 = x at a1 hN xb t3
          generalize cs.getD t 0 = y at b1 hN yb t4
          generalize tot (cs.take s) = ts at a0 a1 t1 t3
          generalize tot (cs.take t) = tt at b0 b1 t2 t4
          obtain ⟨t5, t6⟩ := t1
          obtain ⟨t7, t8⟩ := t2
          have HN := Lib.hid hN
          have xl : x ≤ 16384 := by omega
          have yl : y ≤ 16384 := by omega
          clear hN t3 t4
          have s1 : IntKind.i64.wrap ((s : Int) + 1) = (s : Int) + 1 := IntWalk.i64_in _ (by omega)
          have s2 : (0 : Int) ≤ (s : Int) + 1 := by omega
          have s3 : ((s : Int) + 1).toNat = s + 1 := by omega
          have s4 : (s : Int) < (n : Int) + 1 := by omega
          have u1 : IntKind.i64.wrap ((t : Int) + 1) = (t : Int) + 1 := IntWalk.i64_in _ (by omega)
          have u2 : (0 : Int) ≤ (t : Int) + 1 := by omega
          have u3 : ((t : Int) + 1).toNat = t + 1 := by omega
          have u4 : (t : Int) < (n : Int) + 1 := by omega
          have s5 : s < n + 1 := by omega
          have u5 : t < n + 1 := by omega
          have e1 : ts + x - ts = x := by omega
          have e2 : tt + y - tt = y := by omega
          have v1 : IntKind.i64.wrap x = x := IntWalk.i64_in _ (by omega)
          have v2 : IntKind.i64.wrap y = y := IntWalk.i64_in _ (by omega)
          have v3 : IntKind.i64.wrap (y - 1) = y - 1 := IntWalk.i64_in _ (by omega)
          have v4 : IntKind.i64.wrap (y + 1) = y + 1 := IntWalk.i64_in _ (by omega)
          have v5 : IntKind.i64.wrap (x + 1) = x + 1 := IntWalk.i64_in _ (by omega)
          rcases Int.lt_trichotomy a b with hab | hab | hab
          · have g1 : decide (b < a) = false := by simp; omega
            have g2 : (a == b) = false := by simp; omega
            go_wp2_with fail
            go_quiet (fail)
            go_wp2_with fail
            go_quiet (fail)
            go_wp2_with fail
            go_quiet (fail)
            clear s1 s2 s3 u1 u2 u3 e1 e2 v1 v2 v3 v4 v5
            go_wp2
            go_roundw
            case rel => exact ⟨t + 1, _, by go_num, by omega, by first | rfl | rw [World.drewN_drewN]⟩
            case measure => simp [intOf]; omega
          · subst hab
            obtain ⟨n1, n2⟩ := HN.out.2 rfl
            have g1 : decide (a < a) = false := by simp
            have g2 : (a == a) = true := by simp
            have g3 : decide (y + 1 < x) = false := by simp; omega
            have g4 : decide (x + 1 < y) = false := by simp; omega
            go_wp2_with fail
            go_quiet (fail)
            go_wp2_with fail
            go_quiet (fail)
            go_wp2_with fail
            go_quiet (fail)
            clear s1 s2 s3 u1 u2 u3 e1 e2 v1 v2 v3 v4 v5
            go_wp2
            go_roundw
            case rel => exact ⟨t + 1, _, by go_num, by omega, by first | rfl | rw [World.drewN_drewN]⟩
            case measure => simp [intOf]; omega
          · have n1 := HN.out.1 hab
            have g1 : decide (b < a) = true := by simpa using hab
            have g2 : (a == b) = false := by simp; omega
            have g3 : decide (x < y - 1) = false := by simp; omega
            go_wp2_with fail
            go_quiet (fail)
            go_wp2_with fail
            go_quiet (fail)
            go_wp2_with fail
            go_quiet (fail)
            clear s1 s2 s3 u1 u2 u3 e1 e2 v1 v2 v3 v4 v5
            go_wp2
            go_roundw
            case rel => exact ⟨t + 1, _, by go_num, by omega, by first | rfl | rw [World.drewN_drewN]⟩
            case measure => simp [intOf]; omega
        · have hlt2' : ¬ (t : Int) < (n : Int) := by omega
          go_wp2
          go_roundw
          case rel => exact ⟨s + 1, q, by go_num, by omega, rfl⟩
          case measure => simp [intOf]; omega
    · have hlt' : ¬ (s : Int) < (n : Int) := by omega
      go_wp2
      go_ret
      exact ⟨rfl, below_drewN HW4.out q⟩
theorem scales_any (A : Option Addr) (n c : Nat) (zs : List Int) (total : Int) (w : World) (hr : RdI w A n zs) (hb : n ≤ maxLen) :
    Calls Try.prog 5 #[.int .i64 total, .slice A n c] w fun e w' => e = .returned (.bool true) ∧ Below w.heap.size w w' := by
  by_cases hn : 300 < n
  · exact scales_many A n c total w hn hb
  · by_cases hok : okS total zs
    · exact scales_ok A n c zs total w (Lib.hid hr) (Lib.hid hok)
    · exact scales_err A n c zs total w (Lib.hid hr) (by omega) (Lib.hid hok)
end Go.Proofs.Ytlmkcipcclomdaa.Fq
