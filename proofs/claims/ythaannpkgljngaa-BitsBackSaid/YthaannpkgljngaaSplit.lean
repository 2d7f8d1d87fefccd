/-
  The walk of BitsSplit: a number put at once, or in two parts, is the same bits; got in two parts it is the same number.
-/
import Derived.Test.YthaannpkgljngaaWi
import Derived.Deep.DeepCutAuto
namespace Go.Proofs.Ythaannpkgljngaa
open Go.RowKit

theorem RdL.one {w : World} {g : Nat} {A : Option Addr} {n c : Nat} {N : Int} {bs : List Nat} {t : TypeId} (h : Rd w A n bs) (hb : Blk w g t #[.slice A n c, .int .i64 N]) :
    RdL w (some ⟨g, 0, none⟩) 1 [⟨A, n, c, N, bs⟩] := by
  refine ⟨rfl, fun _ => ⟨_, rfl, fun j x hx => ?_⟩⟩
  match j, hx with
  | 0, hx =>
    simp only [List.getElem?_cons_zero, Option.some.injEq] at hx
    subst hx
    refine ⟨?_, ?_, h⟩
    · rw [add_own, hb.cell]; rfl
    · rw [add_own]; exact (hb.cell 1).trans rfl
theorem wrap64_nat (n : Nat) (hn : n ≤ maxLen) : wrap64 (0 + (n : Int)) = (n : Int) := by unfold maxLen at hn; unfold wrap64; omega
theorem lenW_nil : lenW [] = 0 := rfl
theorem lenW_one (x : It) (hn : x.n ≤ maxLen) : lenW [x] = (x.n : Int) := by
  have h := lenW_snoc [] x
  rw [List.nil_append, lenW_nil, wrap64_nat x.n hn] at h
  exact h
theorem few_one (A : Option Addr) (n c : Nat) (N : Int) (bs : List Nat) (t : Bool) (w : World) (h : Rd w A n bs) (hn : n ≤ maxLen) (ht : t = decide (n ≤ 20000)) :
    Calls Try.prog 10 #[.slice (some ⟨w.heap.size, 0, none⟩) 1 1] (w.alloc (.cells #[.slice A n c, .int .i64 N] 24)) fun e w' => e = .returned (.bool t) ∧ Below (w.alloc (.cells #[.slice A n c, .int .i64 N] 24)).heap.size (w.alloc (.cells #[.slice A n c, .int .i64 N] 24)) w' := by
  refine (few_any (some ⟨w.heap.size, 0, none⟩) 1 1 [⟨A, n, c, N, bs⟩] _ (by unfold maxLen; omega) (Lib.hid (RdL.one (h.alloc _) (Blk.new w 24 _)))).mono ?_
  rintro e w' ⟨rfl, hb⟩
  refine ⟨?_, hb⟩
  have e1 : lenW [⟨A, n, c, N, bs⟩] = (n : Int) := lenW_one ⟨A, n, c, N, bs⟩ hn
  have e2 : decide ((n : Int) ≤ 20000) = t := by
    rw [ht]
    by_cases h20 : n ≤ 20000
    · rw [decide_eq_true h20, decide_eq_true (by omega)]
    · rw [decide_eq_false h20, decide_eq_false (by omega)]
  rw [e1, e2]
theorem mod_is (x : Int) (m : Nat) (h1 : 1 ≤ m) (h65 : m ≤ 65) : ∃ K : Nat, K < m ∧ (wrap64 (x.tmod (m : Int) + (m : Int))).tmod (m : Int) = (K : Int) := by
  have a1 := Int.tmod_lt_of_pos x (show (0 : Int) < m by omega)
  have a2 : -(m : Int) < x.tmod (m : Int) := by
    have := Int.lt_tmod_of_pos x (show (0 : Int) < m by omega)
    omega
  generalize x.tmod (m : Int) = t at a1 a2
  have e : wrap64 (t + (m : Int)) = t + m := by unfold wrap64; omega
  rw [e, Int.tmod_eq_emod_of_nonneg (by omega)]
  have b1 := Int.emod_nonneg (t + m) (show (m : Int) ≠ 0 by omega)
  have b2 := Int.emod_lt_of_pos (t + m) (show (0 : Int) < m by omega)
  exact ⟨((t + m) % (m : Int)).toNat, by omega, by omega⟩

theorem mod65 (x : Int) : ∃ W : Nat, W ≤ 64 ∧ (wrap64 (x.tmod 65 + 65)).tmod 65 = (W : Int) := by
  obtain ⟨K, h, e⟩ := mod_is x 65 (by omega) (by omega)
  exact ⟨K, by omega, e⟩
theorem modW (x : Int) (W : Nat) (h : W ≤ 64) : ∃ C : Nat, C ≤ W ∧ (wrap64 (wrap64 (x.tmod ((W : Int) + 1) + (W : Int)) + 1)).tmod ((W : Int) + 1) = (C : Int) := by
  have a1 := Int.tmod_lt_of_pos x (show (0 : Int) < (W : Int) + 1 by omega)
  have a2 := Int.lt_tmod_of_pos x (show (0 : Int) < (W : Int) + 1 by omega)
  generalize x.tmod ((W : Int) + 1) = t at a1 a2
  have e : wrap64 (wrap64 (t + (W : Int)) + 1) = t + W + 1 := by unfold wrap64; omega
  rw [e, Int.tmod_eq_emod_of_nonneg (by omega)]
  have b1 := Int.emod_nonneg (t + W + 1) (show (W : Int) + 1 ≠ 0 by omega)
  have b2 := Int.emod_lt_of_pos (t + W + 1) (show (0 : Int) < (W : Int) + 1 by omega)
  exact ⟨((t + W + 1) % ((W : Int) + 1)).toNat, by omega, by omega⟩

theorem mask_is (v : Int) (W : Nat) (h0 : 0 ≤ v) (h1 : v ≤ 18446744073709551615) (hW : W < 64) :
    ∃ V : Nat, bits BinOp.and IntKind.u64 v (IntKind.u64.wrap (IntKind.u64.wrap (2 ^ W) - 1)) = (V : Int) ∧ V < 2 ^ W := by
  obtain ⟨x, rfl⟩ : ∃ x : Nat, v = (x : Int) := ⟨v.toNat, by omega⟩
  have hp : 2 ^ W ≤ 2 ^ 63 := Nat.pow_le_pow_right (by omega) (by omega)
  have hp1 : 0 < 2 ^ W := Nat.pow_pos (by omega)
  have e1 : ((2 : Int) ^ W) = ((2 ^ W : Nat) : Int) := by simp
  have e2 : IntKind.u64.wrap (IntKind.u64.wrap (2 ^ W) - 1) = ((2 ^ W - 1 : Nat) : Int) := by
    rw [e1]
    generalize 2 ^ W = q at hp hp1
    rw [IntKind.wrap_u64, IntKind.wrap_u64]
    omega
  refine ⟨x &&& (2 ^ W - 1), ?_, ?_⟩
  · rw [e2, u64_and_nat x _ (by omega) (by omega)]
  · rw [Nat.and_two_pow_sub_one_eq_mod]
    exact Nat.mod_lt _ hp1

theorem split_set {w w4 : World} {b g : Nat} {v0 v1 : Value} (h : One w b v0 v1 w4) (hg : b < g) (x y : Value) : One w b v0 v1 ((w4.setCell ⟨g, 0, none⟩ x).setCell ⟨g, 1, none⟩ y) :=
  ⟨(h.1.far (by simp; omega) _).far (by simp; omega) _, (h.2.setCell (by simp; omega) _).setCell (by simp; omega) _⟩
theorem IsB.rd {w : World} {A : Option Addr} {n c : Nat} {N : Int} {l : List Bool} (h : IsB w (.agg #[.slice A n c, .int .i64 N]) l) : Rd w A n (pack l) := by
  obtain ⟨A1, c1, e1, hr, _⟩ := h
  simp only [Value.agg.injEq, Array.mk.injEq, List.cons.injEq, Value.slice.injEq, Value.int.injEq, and_true, true_and] at e1
  obtain ⟨⟨rfl, rfl, rfl⟩, rfl⟩ := e1
  exact hr
theorem low_is (V C : Nat) (h0 : 1 ≤ C) (h64 : C ≤ 64) : IntKind.u64.wrap ((V : Int) * 2 ^ (64 - C)) / 2 ^ (64 - C) = ((V % 2 ^ C : Nat) : Int) := by
  have e1 : (V : Int) * 2 ^ (64 - C) = ((V * 2 ^ (64 - C) : Nat) : Int) := by simp
  have e2 : IntKind.u64.wrap ((V * 2 ^ (64 - C) : Nat) : Int) = ((V * 2 ^ (64 - C) % 2 ^ 64 : Nat) : Int) := by
    generalize V * 2 ^ (64 - C) = q
    rw [IntKind.wrap_u64]
    omega
  rw [e1, e2]
  have e3 : ((V * 2 ^ (64 - C) % 2 ^ 64 : Nat) : Int) / 2 ^ (64 - C) = ((V * 2 ^ (64 - C) % 2 ^ 64 / 2 ^ (64 - C) : Nat) : Int) := by simp
  rw [e3]
  congr 1
  have e4 : (2 : Nat) ^ 64 = 2 ^ C * 2 ^ (64 - C) := by rw [← Nat.pow_add, show C + (64 - C) = 64 by omega]
  rw [e4, Nat.mul_mod_mul_right, Nat.mul_div_cancel _ (Nat.pow_pos (by omega))]

set_option maxRecDepth 100000 in
set_option maxHeartbeats 1000000 in
theorem split_core (A : Option Addr) (n c : Nat) (N v width cut : Int) (bs : List Nat) (w : World) (hr : Hid (Rd w A n bs)) (hn : Hid (n ≤ maxLen)) (hv0 : 0 ≤ v) (hv1 : v ≤ 18446744073709551615) (hsmall : n ≤ 20000) :
    Calls Try.prog 7 #[.agg #[.slice A n c, .int .i64 N], .int .u64 v, .int .i64 width, .int .i64 cut] w fun e w' => e = .returned (.bool true) ∧ Below w.heap.size w w' := by
  obtain ⟨W, hW64, hW⟩ := mod65 width
  obtain ⟨C, hCW, hC⟩ := modW cut W hW64
  have HWE := Lib.hid hW
  have HCE := Lib.hid hC
  clear hW hC
  go_enter Try.func7, Try.ntmps7
  go_wp2_with fail
  refine (live_any _).mono ?_
  rintro e w0 ⟨rfl, hb0⟩
  have H0 := Lib.hid ((One.start w (.slice A n c) (.int .i64 N)).next hb0)
  have HR0 := Lib.hid ((hr.out.alloc _).below hb0)
  obtain ⟨b0, b1⟩ := H0.out.cells
  clear hb0
  go_wp2_with fail
  refine (few_one A n c N bs true _ HR0.out hn.out (by simp; omega)).mono ?_
  rintro e w1 ⟨rfl, hb1⟩
  have H1 := Lib.hid ((One.alloc H0.out _).next hb1)
  have HR1 := Lib.hid ((HR0.out.alloc _).below hb1)
  obtain ⟨b10, b11⟩ := H1.out.cells
  clear hb1 b0 b1
  go_upto_region 5 with (fail)
  rw [HWE.out]
  go_upto_if 42 with (fail)
  rw [HCE.out]
  go_cut [1] (fun s wx => ∃ V : Nat, s = .int .u64 (V : Int) ∧ V < 2 ^ W ∧ wx = w1)
  case first =>
    by_cases h64 : W < 64
    · obtain ⟨V, hV, hV2⟩ := mask_is v W hv0 hv1 h64
      go_wp2
      go_meet
      exact ⟨V, rfl, hV2, rfl⟩
    · obtain ⟨V, hV⟩ : ∃ V : Nat, v = (V : Int) := ⟨v.toNat, by omega⟩
      have HV := Lib.hid hV
      clear hV
      go_wp2
      go_meet
      exact ⟨V, by rw [HV.out], (by have e : W = 64 := by omega
                                    rw [e]; have := HV.out; omega), rfl⟩
  case rest =>
    obtain ⟨V, rfl, hV, rfl⟩ := hcut
    have HV := Lib.hid hV
    clear hV
    cases hok : okB bs N
    · have HOK := Lib.hid hok
      clear hok
      go_wp2_with fail
      refine (put_bad1 A n c N _ _ bs _ HR1 HOK).mono ?_
      rintro e w2 ⟨rfl, hb2⟩
      have HW2 := Lib.hid (H1.out.2.trans (hb2.mono (Nat.le_of_lt H1.out.1.lt)))
      clear hb2
      unfold zeroB
      go_wp2
      go_ret
      exact ⟨rfl, HW2.out.alloc HW2.out.size _⟩
    · obtain ⟨l, hIB, hbs, hN⟩ := IsB.of_ok (c := c) hok HR1.out
      subst hN hbs
      clear hok
      by_cases hfit : l.length + W ≤ 65536
      · have HIB := Lib.hid hIB
        have hxl : (l ++ bitsOf W V).length = l.length + W := by rw [List.length_append, bitsOf_length]
        obtain ⟨nx, hnx⟩ : ∃ nx, nx = (pack (l ++ bitsOf W V)).length := ⟨_, rfl⟩
        have HNX := Lib.hid hnx
        obtain ⟨NX, hNX⟩ : ∃ NX, NX = l.length + W := ⟨_, rfl⟩
        have HNN := Lib.hid hNX
        have HXL := Lib.hid (hxl.trans hNX.symm)
        have hNX1 : NX ≤ 65536 := by omega
        clear hIB hxl hnx hNX
        go_wp2_with fail
        refine (put_good _ l (l ++ bitsOf W V) _ _ V W nx NX _ HIB.out rfl rfl hW64 HV.out rfl (by rw [HXL.out]; exact hNX1) HNX.out HXL.out.symm).mono ?_
        rintro e w2 ⟨Ax, cx, rfl, hBx, hb2⟩
        have H2 := Lib.hid (H1.out.next hb2)
        have HB2 := Lib.hid (HIB.out.below hb2)
        have HBX2 := Lib.hid hBx
        obtain ⟨b20, b21⟩ := H2.out.cells
        clear hb2 hBx b10 b11
        obtain ⟨Lo, hLo⟩ : ∃ Lo, Lo = V % 2 ^ C := ⟨_, rfl⟩
        obtain ⟨Hi, hHi⟩ : ∃ Hi, Hi = V / 2 ^ C := ⟨_, rfl⟩
        have HLo := Lib.hid hLo
        have HHi := Lib.hid hHi
        clear hLo hHi
        go_upto_if 65 with (fail)
        go_cut [12] (fun s wx => s = .int .u64 (Lo : Int) ∧ wx = w2.alloc (.cells #[.slice Ax nx cx, .int .i64 (NX : Int)] 24))
        case first =>
          by_cases hC0 : 0 < C
          · go_wp2
            go_meet
            refine ⟨?_, rfl⟩
            rw [low_is V C (by omega) (by omega), HLo.out]
          · go_wp2
            go_meet
            refine ⟨?_, rfl⟩
            have e : C = 0 := by omega
            rw [HLo.out, e]
            simp [Nat.mod_one]
        case rest =>
          obtain ⟨rfl, rfl⟩ := hcut
          go_upto_if 76 with (fail)
          go_cut [13] (fun s wx => s = .int .u64 (Hi : Int) ∧ wx = w2.alloc (.cells #[.slice Ax nx cx, .int .i64 (NX : Int)] 24))
          case first =>
            by_cases hC64 : C < 64
            · go_wp2
              go_meet
              refine ⟨?_, rfl⟩
              rw [HHi.out]
              simp
            · go_wp2
              go_meet
              refine ⟨?_, rfl⟩
              have e : C = 64 := by omega
              have e2 : W = 64 := by omega
              have hv := HV.out
              rw [e2] at hv
              rw [HHi.out, e, Nat.div_eq_of_lt hv]
              rfl
          case rest =>
            obtain ⟨rfl, rfl⟩ := hcut
            have hlt2 : w.heap.size < w2.heap.size := H2.out.1.lt
            have hHi2 : Hi < 2 ^ (W - C) := by
              rw [HHi.out]
              refine Nat.div_lt_of_lt_mul ?_
              rw [← Nat.pow_add, show C + (W - C) = W by omega]
              exact HV.out
            have hLo2 : Lo < 2 ^ C := by rw [HLo.out]; exact Nat.mod_lt _ (Nat.pow_pos (by omega))
            have hl2 : (l ++ bitsOf (W - C) Hi).length = l.length + (W - C) := by rw [List.length_append, bitsOf_length]
            have hl3 : (l ++ bitsOf W V) = (l ++ bitsOf (W - C) Hi) ++ bitsOf C Lo := by
              rw [List.append_assoc, HHi.out, HLo.out, bitsOf_mod, bitsOf_split W C V hCW]
            obtain ⟨n2, hn2⟩ : ∃ n2, n2 = (pack (l ++ bitsOf (W - C) Hi)).length := ⟨_, rfl⟩
            obtain ⟨N2, hN2⟩ : ∃ N2, N2 = l.length + (W - C) := ⟨_, rfl⟩
            have hN2l : N2 ≤ 65536 := by omega
            rw [← hN2] at hl2
            have HHi2 := Lib.hid hHi2
            have HLo2 := Lib.hid hLo2
            have HL2 := Lib.hid hl2
            have HL3 := Lib.hid hl3
            have Hn2 := Lib.hid hn2
            have HN2 := Lib.hid hN2
            clear hHi2 hLo2 hl2 hl3 hn2 hN2
            go_wp2_with fail
            refine (put_good _ l (l ++ bitsOf (W - C) Hi) _ _ Hi (W - C) n2 N2 _ (HB2.out.alloc _) rfl (by omega) (by omega) HHi2.out rfl (by rw [HL2.out]; exact hN2l) Hn2.out HL2.out.symm).mono ?_
            rintro e w3 ⟨Ay, cy, rfl, hBy, hb3⟩
            have H3 := Lib.hid ((H2.out.alloc (.cells #[.slice Ax nx cx, .int .i64 (NX : Int)] 24)).next hb3)
            have HX3 := Lib.hid ((Blk.new w2 24 #[.slice Ax nx cx, .int .i64 (NX : Int)]).below hb3 (Blk.new _ _ _).lt)
            have HBX3 := Lib.hid ((HBX2.out.alloc _).below hb3)
            have HBY3 := Lib.hid hBy
            have hlt3 : w2.heap.size < w3.heap.size := HX3.out.lt
            clear hb3 hBy b20 b21
            go_wp2_with fail
            refine (put_good _ (l ++ bitsOf (W - C) Hi) (l ++ bitsOf W V) _ _ Lo C nx NX _ (HBY3.out.alloc _) rfl rfl (by omega) HLo2.out HL3.out (by rw [HXL.out]; exact hNX1) HNX.out HXL.out.symm).mono ?_
            rintro e w4 ⟨Az, cz, rfl, hBz, hb4⟩
            have H4 := Lib.hid ((H3.out.alloc (.cells #[.slice Ay n2 cy, .int .i64 (N2 : Int)] 24)).next hb4)
            have HX4 := Lib.hid ((HX3.out.alloc (.cells #[.slice Ay n2 cy, .int .i64 (N2 : Int)] 24)).below hb4 (HX3.out.alloc _).lt)
            have HY4 := Lib.hid ((Blk.new w3 24 #[.slice Ay n2 cy, .int .i64 (N2 : Int)]).below hb4 (Blk.new _ _ _).lt)
            have HBX4 := Lib.hid ((HBX3.out.alloc _).below hb4)
            have HBZ4 := Lib.hid hBz
            have y0 : w4.cell? ⟨w3.heap.size, 0, none⟩ = some (.slice Ay n2 cy) := HY4.out.cell 0
            have y1 : w4.cell? ⟨w3.heap.size, 1, none⟩ = some (.int .i64 (N2 : Int)) := HY4.out.cell 1
            have f0 := HY4.out.frozen 0
            have f1 := HY4.out.frozen 1
            obtain ⟨b40, b41⟩ := H4.out.cells
            have x0 : w4.cell? ⟨w2.heap.size, 0, none⟩ = some (.slice Ax nx cx) := HX4.out.cell 0
            have x1 : w4.cell? ⟨w2.heap.size, 1, none⟩ = some (.int .i64 (NX : Int)) := HX4.out.cell 1
            have H5 := Lib.hid (split_set (g := w3.heap.size) H4.out (by omega) (.slice Az nx cz) (.int .i64 (NX : Int)))
            have HX5 := Lib.hid ((HX4.out.far (p := ⟨w3.heap.size, 0, none⟩) (by simp; omega) (.slice Az nx cz)).far (p := ⟨w3.heap.size, 1, none⟩) (by simp; omega) (.int .i64 (NX : Int)))
            have HY5 := Lib.hid (show Blk ((w4.setCell ⟨w3.heap.size, 0, none⟩ (.slice Az nx cz)).setCell ⟨w3.heap.size, 1, none⟩ (.int .i64 (NX : Int))) w3.heap.size 24 #[.slice Az nx cz, .int .i64 (NX : Int)] from by
              have := (HY4.out.set_ 0 (.slice Az nx cz)).set_ 1 (.int .i64 (NX : Int))
              simpa using this)
            have HBX5 := Lib.hid (HBX4.out.res y0 y1 (.slice Az nx cz) (.int .i64 (NX : Int)))
            have HBZ5 := Lib.hid (HBZ4.out.res y0 y1 (.slice Az nx cz) (.int .i64 (NX : Int)))
            clear hb4 hBz
            go_wp2_with fail
            obtain ⟨w5, hw5⟩ : ∃ w5, w5 = (w4.setCell ⟨w3.heap.size, 0, none⟩ (.slice Az nx cz)).setCell ⟨w3.heap.size, 1, none⟩ (.int .i64 (NX : Int)) := ⟨_, rfl⟩
            rw [← hw5] at H5 HX5 HY5 HBX5 HBZ5
            rw [← hw5]
            clear hw5 y0 y1 f0 f1 b40 b41 x0 x1
            have hg1 : Hi = num (((l ++ bitsOf W V).drop l.length).take (W - C)) := by
              rw [List.drop_left, ← bitsOf_split W C V hCW, List.take_left' (bitsOf_length _ _), num_bitsOf, ← HHi.out, Nat.mod_eq_of_lt HHi2.out]
            have hg2 : Lo = num (((l ++ bitsOf W V).drop (l.length + (W - C))).take C) := by
              rw [← List.drop_drop, List.drop_left, ← bitsOf_split W C V hCW, List.drop_left' (bitsOf_length _ _), List.take_of_length_le (by rw [bitsOf_length]; omega), num_bitsOf, ← HLo.out]
            have HG1 := Lib.hid hg1
            have HG2 := Lib.hid hg2
            clear hg1 hg2
            refine (get_n _ (l ++ bitsOf W V) _ _ l.length (W - C) Hi _ HBX5.out rfl (by omega) (by omega) (by have := HXL.out; have := HNN.out; omega) HG1.out).mono ?_
            rintro e w6 ⟨rfl, hb6⟩
            have H6 := Lib.hid (H5.out.next hb6)
            have HX6 := Lib.hid (HX5.out.below hb6 HX5.out.lt)
            have HY6 := Lib.hid (HY5.out.below hb6 HY5.out.lt)
            have HBX6 := Lib.hid (HBX5.out.below hb6)
            have HBZ6 := Lib.hid (HBZ5.out.below hb6)
            obtain ⟨b60, b61⟩ := H6.out.cells
            have x60 : w6.cell? ⟨w2.heap.size, 0, none⟩ = some (.slice Ax nx cx) := HX6.out.cell 0
            have x61 : w6.cell? ⟨w2.heap.size, 1, none⟩ = some (.int .i64 (NX : Int)) := HX6.out.cell 1
            clear hb6
            go_wp2_with fail
            refine (get_n _ (l ++ bitsOf W V) _ _ (l.length + (W - C)) C Lo _ HBX6.out (by omega) rfl (by omega) (by have := HXL.out; have := HNN.out; omega) HG2.out).mono ?_
            rintro e w7 ⟨rfl, hb7⟩
            have H7 := Lib.hid (H6.out.next hb7)
            have HX7 := Lib.hid (HX6.out.below hb7 HX6.out.lt)
            have HY7 := Lib.hid (HY6.out.below hb7 HY6.out.lt)
            have HBX7 := Lib.hid (HBX6.out.below hb7)
            have HBZ7 := Lib.hid (HBZ6.out.below hb7)
            have x70 : w7.cell? ⟨w2.heap.size, 0, none⟩ = some (.slice Ax nx cx) := HX7.out.cell 0
            have x71 : w7.cell? ⟨w2.heap.size, 1, none⟩ = some (.int .i64 (NX : Int)) := HX7.out.cell 1
            have y70 : w7.cell? ⟨w3.heap.size, 0, none⟩ = some (.slice Az nx cz) := HY7.out.cell 0
            have y71 : w7.cell? ⟨w3.heap.size, 1, none⟩ = some (.int .i64 (NX : Int)) := HY7.out.cell 1
            clear hb7 b60 b61 x60 x61
            go_wp2_with fail
            refine (same_yes Ax Az nx nx cx cz NX (pack (l ++ bitsOf W V)) _ (Lib.hid HBX7.out.rd) (Lib.hid HBZ7.out.rd)).mono ?_
            rintro e w8 ⟨rfl, hb8⟩
            have H8 := Lib.hid (H7.out.next hb8)
            clear hb8 x70 x71 y70 y71
            go_wp2
            go_ret
            exact ⟨rfl, H8.out.2⟩
      · have HIB := Lib.hid hIB
        clear hIB
        go_wp2_with fail
        refine (put_any _ l V W _ HIB.out hW64 HV.out).mono ?_
        rintro e w2 ⟨A2, n2, c2, N2, er, rfl, hb2, hq⟩
        obtain ⟨rfl, hz⟩ : er = 2 ∧ Value.agg #[.slice A2 n2 c2, .int .i64 N2] = zeroB := by
          rcases hq with ⟨h1, _⟩ | ⟨_, h2, h3⟩
          · rw [List.length_append, bitsOf_length] at h1; omega
          · exact ⟨h2, h3⟩
        rw [hz]
        have HW2 := Lib.hid (H1.out.2.trans (hb2.mono (Nat.le_of_lt H1.out.1.lt)))
        clear hb2 hq hz
        unfold zeroB
        go_wp2
        go_ret
        exact ⟨rfl, HW2.out.alloc HW2.out.size _⟩
set_option maxRecDepth 100000 in
set_option maxHeartbeats 1000000 in
theorem split_big (A : Option Addr) (n c : Nat) (N v width cut : Int) (bs : List Nat) (w : World) (hr : Hid (Rd w A n bs)) (hn : Hid (n ≤ maxLen)) (hbig : ¬ n ≤ 20000) :
    Calls Try.prog 7 #[.agg #[.slice A n c, .int .i64 N], .int .u64 v, .int .i64 width, .int .i64 cut] w fun e w' => e = .returned (.bool true) ∧ Below w.heap.size w w' := by
  go_enter Try.func7, Try.ntmps7
  go_wp2_with fail
  refine (live_any _).mono ?_
  rintro e w0 ⟨rfl, hb0⟩
  have H0 := Lib.hid ((One.start w (.slice A n c) (.int .i64 N)).next hb0)
  have HR0 := Lib.hid ((hr.out.alloc _).below hb0)
  obtain ⟨b0, b1⟩ := H0.out.cells
  clear hb0
  go_wp2_with fail
  refine (few_one A n c N bs false _ HR0.out hn.out (by simp; omega)).mono ?_
  rintro e w1 ⟨rfl, hb1⟩
  have H1 := Lib.hid ((One.alloc H0.out _).next hb1)
  clear hb1 b0 b1
  go_wp2
  go_ret
  exact ⟨rfl, H1.out.2⟩

end Go.Proofs.Ythaannpkgljngaa
