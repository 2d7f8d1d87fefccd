/-
  Own texts, laid together: Ca.
-/
import Derived.Test.YtgelgbfnioagbaaCm
import Derived.Test.YtgelgbfnioagbaaBb
import Derived.Test.YtgelgbfnioagbaaFa
/- Ca -/
namespace Go.Proofs.Ytgelgbfnioagbaa.Cd
open Go.RowKit
/-- an interval that needs no widening -/
def wideB (low high : Nat) : Bool := decide (low < high ∧ high < 4294967296 ∧ kind low high = 3)
theorem rwide_any (low high : Nat) (r : Bool) (w : World) (hr : wideB low high = r) :
    Calls Try.prog 68 #[.int .u64 (low : Int), .int .u64 (high : Int)] w fun e w' => e = .returned (.bool r) ∧ w = w' := by
  have key : ∀ r : Bool, Hid (wideB low high = r) → Calls Try.prog 68 #[.int .u64 (low : Int), .int .u64 (high : Int)] w fun e w' => e = .returned (.bool r) ∧ w = w' := by
    intro r HR
    by_cases h1 : low < high
    · have d1 : decide (high ≤ low) = false := by simp; omega
      by_cases h2 : high < 4294967296
      · have d2 : decide (4294967296 ≤ (high : Int)) = false := by simp; omega
        rcases kind_cases low high with ⟨hk, k1⟩ | ⟨hk, k1, k2⟩ | ⟨hk, k1, k2, k3, k4⟩ | ⟨hk, k1, k2, k3⟩
        · have HE := Lib.hid (show r = false by rw [← HR.out]; simp [wideB, hk])
          have d3 : decide (2147483648 ≤ (high : Int)) = false := by simp; omega
          clear hk
          go_enter Try.func68, Try.ntmps68
          go_wp2
          go_ret
          exact ⟨by rw [HE.out]; rfl, rfl⟩
        · have HE := Lib.hid (show r = false by rw [← HR.out]; simp [wideB, hk])
          have d3 : decide (2147483648 ≤ (high : Int)) = true := by simp; omega
          have d4 : decide ((low : Int) < 2147483648) = false := by simp; omega
          clear hk
          go_enter Try.func68, Try.ntmps68
          go_wp2
          go_ret
          exact ⟨by rw [HE.out]; rfl, rfl⟩
        · have HE := Lib.hid (show r = false by rw [← HR.out]; simp [wideB, hk])
          have d3 : decide (2147483648 ≤ (high : Int)) = true := by simp; omega
          have d4 : decide ((low : Int) < 2147483648) = true := by simp; omega
          have d5 : decide (1073741824 ≤ (low : Int)) = true := by simp; omega
          have d6 : decide ((high : Int) < 3221225472) = true := by simp; omega
          clear hk
          go_enter Try.func68, Try.ntmps68
          go_wp2
          go_ret
          exact ⟨by rw [HE.out]; rfl, rfl⟩
        · have HE := Lib.hid (show r = true by rw [← HR.out]; simp [wideB, hk, h1, h2])
          have d3 : decide (2147483648 ≤ (high : Int)) = true := by simp; omega
          have d4 : decide ((low : Int) < 2147483648) = true := by simp; omega
          clear hk
          by_cases k5 : 1073741824 ≤ low
          · have d5 : decide (1073741824 ≤ (low : Int)) = true := by simp; omega
            have d6 : decide ((high : Int) < 3221225472) = false := by simp; omega
            go_enter Try.func68, Try.ntmps68
            go_wp2
            go_ret
            exact ⟨by rw [HE.out]; rfl, rfl⟩
          · have d5 : decide (1073741824 ≤ (low : Int)) = false := by simp; omega
            go_enter Try.func68, Try.ntmps68
            go_wp2
            go_ret
            exact ⟨by rw [HE.out]; rfl, rfl⟩
      · have d2 : decide (4294967296 ≤ (high : Int)) = true := by simp; omega
        have HE := Lib.hid (show r = false by rw [← HR.out]; simp [wideB]; omega)
        go_enter Try.func68, Try.ntmps68
        go_wp2
        go_ret
        exact ⟨by rw [HE.out]; rfl, rfl⟩
    · have d1 : decide (high ≤ low) = true := by simp; omega
      have HE := Lib.hid (show r = false by rw [← HR.out]; simp [wideB, h1])
      go_enter Try.func68, Try.ntmps68
      go_wp2
      go_ret
      exact ⟨by rw [HE.out]; rfl, rfl⟩
  exact key r (Lib.hid hr)
theorem emit_nil (l : List Bool) (x : Bool) : emit l x 0 = l ++ [x] := by simp [emit]
theorem emit_snoc (l : List Bool) (x : Bool) (k : Nat) : emit l x k ++ [!x] = emit l x (k + 1) := by
  unfold emit
  rw [List.append_assoc, List.cons_append, ← List.replicate_succ', List.replicate_succ]
theorem bitsOf_one (x : Bool) : bitsOf 1 x.toNat = [x] := by cases x <;> rfl
theorem two_set {w : World} {g : Nat} {t : TypeId} {a b : Value} (h : Blk w g t #[a, b]) (c d : Value) : Blk ((w.setCell ⟨g, 0, none⟩ c).setCell ⟨g, 1, none⟩ d) g t #[c, d] := by
  have := (h.set_ 0 c).set_ 1 d
  simpa using this
theorem blk2 {w : World} {t : TypeId} {a b : Value} {g : Nat} (h : Blk w g t #[a, b]) : w.cell? ⟨g, 0, none⟩ = some a ∧ w.cell? ⟨g, 1, none⟩ = some b ∧ w.frozen? ⟨g, 0, none⟩ = false ∧ w.frozen? ⟨g, 1, none⟩ = false := ⟨h.cell 0, h.cell 1, h.frozen 0, h.frozen 1⟩
theorem pWhat_cases {l : List Bool} {N E : Int} {bs : List Nat} (h : pWhat l = (N, E, bs)) : (l.length ≤ 65536 ∧ N = (l.length : Int) ∧ E = 0 ∧ bs = pack l) ∨ (65536 < l.length ∧ N = 0 ∧ E = 2 ∧ bs = []) := by
  unfold pWhat at h
  split at h
  · simp only [Prod.mk.injEq] at h
    exact .inl ⟨by assumption, h.1.symm, h.2.1.symm, h.2.2.symm⟩
  · simp only [Prod.mk.injEq] at h
    exact .inr ⟨by omega, h.1.symm, h.2.1.symm, h.2.2.symm⟩
theorem rd_box {w : World} {A : Option Addr} {n g : Nat} {bs : List Nat} {t : TypeId} {v0 : Option Addr} {v1 v2 : Nat} {v3 : Int} (h : Rd w A n bs) (hb : Blk w g t #[.slice v0 v1 v2, .int .i64 v3]) (a b : Value) : Rd ((w.setCell ⟨g, 0, none⟩ a).setCell ⟨g, 1, none⟩ b) A n bs := by
  have h1 := h.setCell (p := ⟨g, 0, none⟩) a (fun x => by rw [hb.cell 0]; simp [byteV])
  refine h1.setCell b (fun x => ?_)
  rw [(hb.set_ 0 a).cell 1]
  simp [byteV]
theorem emit_mono (l : List Bool) (x : Bool) {k m : Nat} (h : k ≤ m) : (emit l x k).length ≤ (emit l x m).length := by rw [emit_length, emit_length]; omega
/-- what the box of out holds behind k of those that wait -/
def OutS (w wr : World) (b : Nat) (l : List Bool) (x : Bool) (k : Nat) (E : Int) : Prop :=
  ∃ A n c N bs, pWhat (emit l x k) = (N, E, bs) ∧ Blk wr b 25 #[.slice A n c, .int .i64 N] ∧ Blk wr (b + 1) 25 #[.slice none 0 0, .int .i64 0] ∧ Rd wr A n bs ∧ Below w.heap.size w wr
set_option maxRecDepth 100000 in
set_option maxHeartbeats 4000000 in
theorem rout_any (A : Option Addr) (n c : Nat) (l : List Bool) (x : Bool) (t wait : Nat) (N0 N E : Int) (bs : List Nat) (w : World) (h : Hid (IsB w (.agg #[.slice A n c, .int .i64 N0]) l)) (ht : Hid (t = x.toNat)) (ht1 : t ≤ 1) (hw : wait ≤ 100000) (hp : Hid (pWhat (emit l x wait) = (N, E, bs))) :
    Calls Try.prog 45 #[.agg #[.slice A n c, .int .i64 N0], .int .u64 (t : Int), .int .i64 (wait : Int)] w (JOut w N E bs) := by
  obtain ⟨b, hb⟩ : ∃ b, b = w.heap.size := ⟨_, rfl⟩
  go_enter Try.func45, Try.ntmps45
  go_wp2_with fail
  have HK1 := Lib.hid (show Blk ((w.alloc (.cells #[.slice A n c, .int .i64 N0] 25)).alloc (.cells #[.slice none 0 0, .int .i64 0] 25)) w.heap.size 25 #[.slice A n c, .int .i64 N0] from (Blk.new w _ _).alloc _)
  have HK2 := Lib.hid (show Blk ((w.alloc (.cells #[.slice A n c, .int .i64 N0] 25)).alloc (.cells #[.slice none 0 0, .int .i64 0] 25)) (w.heap.size + 1) 25 #[.slice none 0 0, .int .i64 0] from Blk.newAt (by simp))
  have HW0 := Lib.hid (show Below w.heap.size w ((w.alloc (.cells #[.slice A n c, .int .i64 N0] 25)).alloc (.cells #[.slice none 0 0, .int .i64 0] 25)) from ((Below.refl w.heap.size w).alloc (Nat.le_refl _) _).alloc (by simp) _)
  have HI0 := Lib.hid ((h.out.alloc (.cells #[.slice A n c, .int .i64 N0] 25)).alloc (.cells #[.slice none 0 0, .int .i64 0] 25))
  generalize (w.alloc (.cells #[.slice A n c, .int .i64 N0] 25)).alloc (.cells #[.slice none 0 0, .int .i64 0] 25) = w0 at HK1 HK2 HW0 HI0 ⊢
  rw [← hb] at HK1 HK2 ⊢
  have HBB := Lib.hid hb
  clear hb
  obtain ⟨N1, E1, bs1, hp1⟩ : ∃ N1 E1 bs1, pWhat (emit l x 0) = (N1, E1, bs1) := ⟨_, _, _, rfl⟩
  refine (rput_any _ l _ _ t 1 N1 E1 bs1 w0 HI0.out rfl rfl (by omega) (by omega) (by rw [ht.out, bitsOf_one, ← emit_nil]; exact hp1)).mono ?_
  rintro e w1 ⟨A1, n1, c1, rfl, hb1, hr1⟩
  have HL1 := Lib.hid (HK1.out.below hb1 HK1.out.lt)
  have HL2 := Lib.hid (HK2.out.below hb1 HK2.out.lt)
  have HW1 := Lib.hid (HW0.out.trans (hb1.mono HW0.out.size))
  have HR1 := Lib.hid hr1
  have HP1 := Lib.hid hp1
  clear hb1 hr1 hp1 HI0 HK1 HK2 HW0
  obtain ⟨x1, x2, x3, x4⟩ := blk2 HL1.out
  go_wp2
  clear x1 x2 x3 x4
  have HS1 := Lib.hid (show OutS w ((w1.setCell ⟨b, 0, none⟩ (.slice A1 n1 c1)).setCell ⟨b, 1, none⟩ (.int .i64 N1)) b l x 0 E1 from
    ⟨A1, n1, c1, N1, bs1, HP1.out, two_set HL1.out _ _, Blk.far (Blk.far HL2.out (by simp) _) (by simp) _, rd_box HR1.out HL1.out _ _, (HW1.out.setCell (by have := HBB.out; simp; omega) _).setCell (by have := HBB.out; simp; omega) _⟩)
  generalize (w1.setCell ⟨b, 0, none⟩ (.slice A1 n1 c1)).setCell ⟨b, 1, none⟩ (.int .i64 N1) = w2 at HS1 ⊢
  clear HR1 HL1 HL2 HW1 HP1
  obtain ⟨t', ht'⟩ : ∃ t' : Nat, t' = (!x).toNat := ⟨_, rfl⟩
  have et : (1 : Int) - (t : Int) = (t' : Int) := by rw [ht', ht.out]; cases x <;> rfl
  have ht2 : t' ≤ 1 := by omega
  have HT' := Lib.hid ht'
  clear ht'
  go_loopw [2, 8] (fun vm ve wr => ∃ (m k : Nat) (E2 : Int), vm = .int .i64 (m : Int) ∧ ve = .int .i64 E2 ∧ m ≤ 100000 ∧ Hid (m + k = wait ∧ OutS w wr b l x k E2)) (fun vm _ _ => (intOf vm).toNat)
  case atStart => exact ⟨wait, 0, E1, rfl, rfl, hw, Lib.hid ⟨rfl, HS1.out⟩⟩
  case round =>
    obtain ⟨m, k, E2, rfl, rfl, hm, HZ⟩ := hrel
    clear HS1
    obtain ⟨hmk, A2, n2, c2, N2, bs2, hp2, hB2, hC2, hR2, hW2⟩ := HZ.out
    have HP2 := Lib.hid hp2
    have HB2 := Lib.hid hB2
    have HC2 := Lib.hid hC2
    have HR2 := Lib.hid hR2
    have HW2 := Lib.hid hW2
    have HMK := Lib.hid hmk
    clear hmk hp2 hB2 hC2 hR2 hW2
    obtain ⟨x1, x2, x3, x4⟩ := blk2 HB2.out
    obtain ⟨y1, y2, y3, y4⟩ := blk2 HC2.out
    by_cases hgo : 0 < m ∧ E2 = 0
    · obtain ⟨m, rfl⟩ : ∃ m', m = m' + 1 := ⟨m - 1, by omega⟩
      obtain ⟨-, rfl⟩ := hgo
      have d1 : decide ((0 : Int) < (m : Int) + 1) = true := by simp <;> omega
      have HIB := Lib.hid (show (emit l x k).length ≤ 65536 ∧ IsB wr (.agg #[.slice A2 n2 c2, .int .i64 N2]) (emit l x k) from by
        rcases pWhat_cases HP2.out with ⟨a1, a2, _, a4⟩ | ⟨_, _, a3, _⟩
        · refine ⟨a1, A2, c2, ?_, ?_, a1⟩
          · have hl := HR2.out.1
            rw [a4] at hl
            rw [a2, ← hl]
          · have h2 := HR2.out
            have hl := h2.1
            rw [a4] at hl h2
            rw [hl]
            exact h2
        · omega)
      obtain ⟨N3, E3, bs3, hp3⟩ : ∃ N3 E3 bs3, pWhat (emit l x (k + 1)) = (N3, E3, bs3) := ⟨_, _, _, rfl⟩
      have HP3 := Lib.hid hp3
      clear hp3
      go_wp2_with fail
      refine (rput_any _ (emit l x k) _ _ t' 1 N3 E3 bs3 _ HIB.out.2 rfl rfl (by omega) (by omega) (by rw [HT'.out, bitsOf_one, emit_snoc]; exact HP3.out)).mono ?_
      rintro e w3 ⟨A3, n3, c3, rfl, hb3, hr3⟩
      have HB3 := Lib.hid (HB2.out.below hb3 HB2.out.lt)
      have HC3 := Lib.hid (HC2.out.below hb3 HC2.out.lt)
      have HW3 := Lib.hid (HW2.out.trans (hb3.mono HW2.out.size))
      have HR3 := Lib.hid hr3
      clear hb3 hr3 x1 x2 x3 x4 y1 y2 y3 y4
      obtain ⟨x1, x2, x3, x4⟩ := blk2 HB3.out
      go_wp2
      go_roundw
      case rel =>
        refine ⟨m, k + 1, E3, by first | rfl | go_num, rfl, by omega, Lib.hid ⟨by have := HMK.out; omega, A3, n3, c3, N3, bs3, HP3.out, two_set HB3.out _ _, Blk.far (Blk.far HC3.out (by simp) _) (by simp) _, rd_box HR3.out HB3.out _ _, (HW3.out.setCell (by have := HBB.out; simp; omega) _).setCell (by have := HBB.out; simp; omega) _⟩⟩
      case measure => simp [intOf]
    · have HFIN := Lib.hid (show N2 = N ∧ E2 = E ∧ bs2 = bs from by
        rcases Nat.eq_zero_or_pos m with hm0 | hm0
        · have hk : k = wait := by have := HMK.out; omega
          have h1 := HP2.out
          rw [hk, hp.out] at h1
          simp only [Prod.mk.injEq] at h1
          exact ⟨h1.1.symm, h1.2.1.symm, h1.2.2.symm⟩
        · have hE : E2 ≠ 0 := fun e => hgo ⟨hm0, e⟩
          rcases pWhat_cases HP2.out with ⟨_, _, a3, _⟩ | ⟨a1, a2, a3, a4⟩
          · exact absurd a3 hE
          · have hl := emit_mono l x (show k ≤ wait by have := HMK.out; omega)
            rcases pWhat_cases hp.out with ⟨b1, _⟩ | ⟨_, b2, b3, b4⟩
            · omega
            · exact ⟨by rw [a2, b2], by rw [a3, b3], by rw [a4, b4]⟩)
      rcases Nat.eq_zero_or_pos m with hm0 | hm0
      · subst hm0
        clear hgo
        go_wp2
        refine bodyPost_ret (v := .tuple #[.agg #[.slice A2 n2 c2, .int .i64 N2], .int .i64 E2]) (by simp [results, Try.results45, go_sem, y1, y2]) rfl ⟨A2, n2, c2, by rw [HFIN.out.1, HFIN.out.2.1], (HW2.out.setCell (by have := HBB.out; simp; omega) _).setCell (by have := HBB.out; simp; omega) _, ?_⟩
        rw [← HFIN.out.2.2]
        exact rd_box HR2.out HC2.out _ _
      · have e2 : (E2 == 0) = false := by
          have : ¬ E2 = 0 := fun e => hgo ⟨hm0, e⟩
          simpa using this
        have e3 : ¬ E2 = 0 := fun e => hgo ⟨hm0, e⟩
        have d1 : decide ((0 : Int) < (m : Int)) = true := by simp; omega
        clear hgo
        go_wp2
        refine bodyPost_ret (v := .tuple #[.agg #[.slice A2 n2 c2, .int .i64 N2], .int .i64 E2]) (by simp [results, Try.results45, go_sem, y1, y2]) rfl ⟨A2, n2, c2, by rw [HFIN.out.1, HFIN.out.2.1], (HW2.out.setCell (by have := HBB.out; simp; omega) _).setCell (by have := HBB.out; simp; omega) _, ?_⟩
        rw [← HFIN.out.2.2]
        exact rd_box HR2.out HC2.out _ _
end Go.Proofs.Ytgelgbfnioagbaa.Cd
