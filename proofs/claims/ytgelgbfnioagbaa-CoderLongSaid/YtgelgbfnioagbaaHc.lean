/-
  Own texts, laid together: Hc.
-/
import Derived.Test.YtgelgbfnioagbaaHa
/- Hc -/
namespace Go.Proofs.Ytgelgbfnioagbaa.Cd
open Go.RowKit
/-- the states one behind the other are fine -/
theorem fine_take {ps : List Pr} (h0 : allErr e0 ps = 0) (k : Nat) : Fine (stE e0 (ps.take k)) := by
  have key : ∀ (ps : List Pr) (e : En) (k : Nat), Fine e → allErr e ps = 0 → Fine (stE e (ps.take k)) := by
    intro ps
    induction ps with
    | nil => intro e k h _; simpa [stE] using h
    | cons q r ih =>
      intro e k h h0
      cases k with
      | zero => exact h
      | succ k =>
        cases hq : okP q with
        | false => rw [allErr_no hq] at h0; cases h0
        | true =>
          rcases putC_cases (put1 e q) with ⟨c, _, _⟩ | c
          · rw [allErr_ok hq c] at h0
            rw [List.take_succ_cons, stE_cons]
            exact ih (put1 e q) k (h.put hq c) h0
          · rw [allErr_long hq c] at h0; cases h0
  exact key ps e0 k fine0 h0
/-- how much was told so far -/
def LongR (e : En) (M : Nat) : Prop := 4294967296 * 2 ^ len e ≤ wid e * 2 ^ M
theorem long0 : LongR e0 0 := by unfold LongR; decide
theorem LongR.put {e : En} {q : Pr} {M n : Nat} (h : LongR e M) (hf : Fine e) (hq : okP q = true) (hn : spT q.2 ≤ (spB q - spA q) * 2 ^ n) : LongR (put1 e q) (M + (n + 1)) := put_long hf.1 hf.2.1 (symP_of hq).2.2.2 hn M h
theorem pow14 {n T ba : Nat} (h : ba * 2 ^ n < T) (hT : T ≤ 16384) (hb : 1 ≤ ba) : n < 14 := by
  have h1 : 2 ^ n ≤ ba * 2 ^ n := Nat.le_mul_of_pos_left _ hb
  have h2 : 2 ^ n < 2 ^ 14 := by
    have : (2 : Nat) ^ 14 = 16384 := by decide
    omega
  exact (Nat.pow_lt_pow_iff_right (by omega)).1 h2
theorem sh_small {n ba : Nat} (hn : n ≤ 15) (hb : ba ≤ 16384) : ba * 2 ^ n ≤ 536870912 := by
  have h1 : 2 ^ n ≤ 2 ^ 15 := Nat.pow_le_pow_right (by omega) hn
  have h2 := Nat.mul_le_mul hb h1
  have : 16384 * 2 ^ 15 = 536870912 := by decide
  omega
set_option maxRecDepth 100000 in
set_option maxHeartbeats 4000000 in
theorem long_law (A : Option Addr) (n c : Nat) (ss : List Int) (L : Option Addr) (m d : Nat) (ts : List Tb) (w : World) (hn : Hid (n ≤ maxLen)) (hm : Hid (m ≤ maxLen)) (hs : Hid (Fq.RdI w A n ss)) (ht : Hid (RdT w L m ts)) :
    Calls Try.prog 8 #[.slice A n c, .slice L m d] w fun e w' => e = .returned (.bool true) ∧ Below w.heap.size w w' := by
  have b1 : n ≤ 9223372036854775807 := by have := hn.out; unfold maxLen at this; omega
  go_enter Try.func8, Try.ntmps8
  go_wp2_with fail
  refine (live_c w).mono ?_
  rintro e w1 ⟨rfl, hb1⟩
  have H1 := Lib.hid hb1
  clear hb1
  go_wp2_with fail
  refine (few_c none 0 0 0 L m d ts w1 (Lib.hid (by unfold maxLen; omega)) hm (Lib.hid (ht.out.below H1.out))).mono ?_
  rintro e w2 ⟨r, rfl, hr, hb2⟩
  have H2 := Lib.hid (H1.out.trans (hb2.mono H1.out.size))
  have HR := Lib.hid hr
  clear hb2 H1 hr
  cases r with
  | false =>
    go_wp2
    go_ret
    exact ⟨rfl, H2.out⟩
  | true =>
    have hm1 : m ≤ 100 := (HR.out rfl).2
    clear HR
    by_cases h1 : 100 < n
    · have d1 : decide ((100 : Int) < (n : Int)) = true := by simp; omega
      go_wp2
      go_ret
      exact ⟨rfl, H2.out⟩
    · have d1 : decide ((100 : Int) < (n : Int)) = false := by simp; omega
      go_wp2_with fail
      refine (all_told A n c L m d ss ts w2 hn hm (Lib.hid (hs.out.below H2.out)) (Lib.hid (ht.out.below H2.out))).mono ?_
      rintro e w4 (⟨er, her, rfl, hb4⟩ | ⟨hnm, h0, hlen, hAP⟩)
      · have H4 := Lib.hid (H2.out.trans (hb4.mono H2.out.size))
        have d2 : (er != 0) = true := by simpa using her
        clear hb4 her
        go_wp2
        go_ret
        exact ⟨rfl, H4.out.alloc H4.out.size _⟩
      · obtain ⟨A4, n4, c4, N4, rfl, hI4, hN4, hb4⟩ := hAP
        obtain ⟨ps, hps⟩ : ∃ ps, ps = prs ss ts := ⟨_, rfl⟩
        rw [← hps] at h0 hN4 hlen
        have HPS := Lib.hid hps
        have H00 := Lib.hid h0
        have HNM := Lib.hid hnm
        have HN4 := Lib.hid (show N4 = len (stE e0 ps) + 2 by rw [hN4, endBits_length])
        have N4b : N4 ≤ 65536 := by omega
        have HB4 := Lib.hid (show LB w w4.heap.size (.slice A4 n4 c4) (.int .i64 (N4 : Int)) (w4.alloc (.cells #[.slice A4 n4 c4, .int .i64 (N4 : Int)] 25)) from ⟨Blk.new w4 _ _, (H2.out.trans (hb4.mono H2.out.size)).alloc (H2.out.trans (hb4.mono H2.out.size)).size _⟩)
        clear hb4 H2 hps h0 hI4 hN4 hlen hnm
        go_wp2
        generalize w4.alloc (.cells #[.slice A4 n4 c4, .int .i64 (N4 : Int)] 25) = w5 at HB4 ⊢
        generalize w4.heap.size = b6 at HB4 ⊢
        go_loopw [8, 37] (fun vw v wr => ∃ k M : Nat, v = .int .i64 (k : Int) ∧ vw = .int .i64 ((M + 2 : Nat) : Int) ∧ k ≤ n ∧ M ≤ 16 * k ∧ Hid (LongR (stE e0 (ps.take k)) M ∧ LB w b6 (.slice A4 n4 c4) (.int .i64 (N4 : Int)) wr)) (fun _ v _ => n - (intOf v).toNat)
        case atStart => exact ⟨0, 0, rfl, rfl, by omega, by omega, Lib.hid ⟨long0, HB4.out⟩⟩
        case round =>
          obtain ⟨k, M, rfl, rfl, hk, hM, HZ⟩ := hrel
          clear HB4
          by_cases hlt : k < n
          · obtain ⟨ad, rfl, had, x1⟩ := (hs.out.below HZ.out.2.2).at_ hlt
            obtain ⟨ad2, t, rfl, hget, had2, x2, hx, hmm⟩ := (ht.out.below HZ.out.2.2).at_ (k := k) (by have := HNM.out; omega)
            have i2 : (k : Int) < (m : Int) := by have := HNM.out; omega
            have i3 : k < m := by omega
            obtain ⟨g1, g2⟩ := prs_get (ss := ss) (by have := hs.out.1; omega) hget
            rw [← HPS.out] at g1 g2
            obtain ⟨s, hs'⟩ : ∃ s, s = ss.getD k 0 := ⟨_, rfl⟩
            rw [← hs'] at x1 g1 g2
            have HG2 := Lib.hid g2
            have HX := Lib.hid hx
            have HM := Lib.hid hmm
            obtain ⟨C, mm, dd, xs⟩ := t
            dsimp only at x2 HX HM HG2 g1
            have hq : okP (s, xs) = true := by
              have := (allErr_zero fine0 H00.out).2 (s, xs)
              refine this ?_
              have : (s, xs) ∈ ps.drop k := by rw [g1]; simp
              exact List.mem_of_mem_drop this
            have HQ := Lib.hid hq
            obtain ⟨a, hav⟩ : ∃ a, a = spA (s, xs) := ⟨_, rfl⟩
            obtain ⟨b, hbv⟩ : ∃ b, b = spB (s, xs) := ⟨_, rfl⟩
            obtain ⟨T, hTv⟩ : ∃ T, T = spT xs := ⟨_, rfl⟩
            have hsp := symP_of hq
            dsimp only at hsp
            rw [← hav, ← hbv, ← hTv] at hsp
            obtain ⟨p1, p2, p3, p4, p5, p6⟩ := hsp
            have HP1 := Lib.hid p1
            have HP2 := Lib.hid p2
            have HP3 := Lib.hid p3
            have HVS := Lib.hid (show a = spA (s, xs) ∧ b = spB (s, xs) ∧ T = spT xs from ⟨hav, hbv, hTv⟩)
            obtain ⟨ba, hba⟩ : ∃ ba, ba = b - a := ⟨_, rfl⟩
            have HBA := Lib.hid hba
            have HEB := Lib.hid (show (b : Int) - (a : Int) = (ba : Int) by omega)
            have ba1 : 1 ≤ ba := by omega
            have ba2 : ba ≤ 16384 := by omega
            clear hs' g1 g2 hget hx hmm hq hav hbv hTv p1 p2 p3 hba
            go_wp2_with fail
            have hcon := Fq.span_any C mm dd xs s wr HX HM.out
            rw [HP1.out] at hcon
            refine hcon.mono ?_
            clear hcon
            rintro e w6 ⟨rfl, hb6⟩
            have H6 := Lib.hid (HZ.out.2.next hb6)
            have X2 := Lib.hid (show w6.cell? (ad2.add k) = some (.slice C mm dd) from (hb6.cell (by rw [block_of_add]; exact had2)).trans x2)
            have HX6 := Lib.hid (HX.out.below hb6)
            have had6 : ad2.block < w6.heap.size := Nat.lt_of_lt_of_le had2 hb6.size
            have HLR := Lib.hid HZ.out.1
            clear hb6 x1 x2 had had2 HZ HX
            unfold Fq.spanT
            go_wp2
            go_loopw [14] (fun v wq => ∃ nn : Nat, v = .int .i64 (nn : Int) ∧ nn ≤ 15 ∧ Hid (Below w6.heap.size w6 wq)) (fun v _ => 15 - (intOf v).toNat)
            case atStart => exact ⟨0, rfl, by omega, Lib.hid (Below.refl _ _)⟩
            case round =>
              obtain ⟨nn, rfl, hnn, HY⟩ := hrel
              obtain ⟨sh, hsh⟩ : ∃ sh, sh = ba * 2 ^ nn := ⟨_, rfl⟩
              have sh1 : sh ≤ 536870912 := by rw [hsh]; exact sh_small hnn ba2
              have es : (ba : Int) * 2 ^ nn = (sh : Int) := by rw [hsh]; simp
              have eb := HEB.out
              have HSH := Lib.hid hsh
              clear hsh
              have x2 : wr.cell? (ad2.add k) = some (.slice C mm dd) := (HY.out.cell (by rw [block_of_add]; exact had6)).trans X2.out
              have had7 : ad2.block < wr.heap.size := Nat.lt_of_lt_of_le had6 HY.out.size
              by_cases hgo : sh < T
              · have d3 : decide (sh < T) = true := by simpa using hgo
                have n14 : nn < 14 := pow14 (T := T) (ba := ba) (by rw [← HSH.out]; exact hgo) p6 ba1
                go_wp2_with fail
                refine (Fq.total_any C mm dd xs true (T : Int) wr (Lib.hid (HX6.out.below HY.out)) HM.out HP2.out HP3.out).mono ?_
                rintro e w7 ⟨rfl, hb7⟩
                have H7 := Lib.hid (HY.out.trans (hb7.mono HY.out.size))
                clear hb7 x2 eb es
                go_wp2
                go_roundw
                case rel => exact ⟨nn + 1, by go_num, by omega, H7⟩
                case measure => simp [intOf]; omega
              · have d3 : decide (sh < T) = false := by simpa using hgo
                go_wp2_with fail
                refine (Fq.total_any C mm dd xs true (T : Int) wr (Lib.hid (HX6.out.below HY.out)) HM.out HP2.out HP3.out).mono ?_
                rintro e w7 ⟨rfl, hb7⟩
                have H7 := Lib.hid (H6.out.next (HY.out.trans (hb7.mono HY.out.size)))
                clear hb7 x2 eb es
                have HL2 := Lib.hid (show LongR (stE e0 (ps.take (k + 1))) (M + (nn + 1)) from by
                  rw [HG2.out, stE_snoc]
                  refine HLR.out.put (fine_take H00.out k) HQ.out ?_
                  dsimp only
                  rw [← HVS.out.1, ← HVS.out.2.1, ← HVS.out.2.2, ← HBA.out, ← HSH.out]
                  omega)
                go_wp2
                go_roundw
                case rel => exact ⟨k + 1, M + (nn + 1), by go_num, by go_num, by omega, by omega, Lib.hid ⟨HL2.out, H7.out⟩⟩
                case measure => simp [intOf]; omega
          · obtain rfl : k = n := by omega
            have hpl : ps.length = k := by rw [HPS.out]; unfold prs; rw [List.length_zip, List.length_map, hs.out.1, ht.out.1, ← HNM.out]; omega
            have hlr := HZ.out.1
            rw [List.take_of_length_le (by omega)] at hlr
            have hff := (allErr_zero fine0 H00.out).1
            have hle := long_end hff.1 hff.2.1 hlr
            have d4 : decide (N4 ≤ M + 2) = true := by have := HN4.out; simp; omega
            have d6 : decide ((N4 : Int) ≤ (M : Int) + 2) = true := by have := HN4.out; simp; omega
            have d5 : decide ((N4 : Int) ≤ ((M + 2 : Nat) : Int)) = true := by have := HN4.out; simp; omega
            obtain ⟨x1, x2, -, -⟩ := blk2 HZ.out.2.1
            clear hpl hlr hff hle
            go_wp2
            go_ret
            exact ⟨rfl, HZ.out.2.2⟩
end Go.Proofs.Ytgelgbfnioagbaa.Cd
