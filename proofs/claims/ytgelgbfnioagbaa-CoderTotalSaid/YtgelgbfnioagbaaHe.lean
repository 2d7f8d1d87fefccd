/-
  Own texts, laid together: He.
-/
import Derived.Test.YtgelgbfnioagbaaHd
/- He -/
namespace Go.Proofs.Ytgelgbfnioagbaa.Cd
open Go.RowKit
set_option maxRecDepth 100000 in
set_option maxHeartbeats 4000000 in
theorem total_law (A : Option Addr) (n c : Nat) (N : Int) (bs : List Nat) (L : Option Addr) (m d : Nat) (ts : List Tb) (x : Int) (w : World) (hn : Hid (n ≤ maxLen)) (hm : Hid (m ≤ maxLen)) (hmd : m ≤ d) (hb : Hid (Rd w A n bs)) (ht : Hid (RdT w L m ts)) :
    Calls Try.prog 7 #[.agg #[.slice A n c, .int .i64 N], .slice L m d, .int .i64 x] w fun e w' => e = .returned (.bool true) ∧ Below w.heap.size w w' := by
  have H0 := Lib.hid (show LB w w.heap.size (.slice A n c) (.int .i64 N) (w.alloc (.cells #[.slice A n c, .int .i64 N] 25)) from ⟨Blk.new w _ _, (Below.refl w.heap.size w).alloc (Nat.le_refl _) _⟩)
  go_enter Try.func7, Try.ntmps7
  go_wp2_with fail
  generalize w.alloc (.cells #[.slice A n c, .int .i64 N] 25) = w0 at H0 ⊢
  obtain ⟨b3, hb3⟩ : ∃ b3, b3 = w.heap.size := ⟨_, rfl⟩
  rw [← hb3] at H0 ⊢
  clear hb3
  refine (live_c w0).mono ?_
  rintro e w1 ⟨rfl, hb1⟩
  have H1 := Lib.hid (H0.out.next hb1)
  clear hb1 H0
  obtain ⟨x1, x2, -, -⟩ := blk2 H1.out.1
  go_wp2_with fail
  refine (few_c A n c N L m d ts w1 hn hm (Lib.hid (ht.out.below H1.out.2))).mono ?_
  rintro e w2 ⟨r, rfl, hr, hb2⟩
  have H2 := Lib.hid (H1.out.next hb2)
  have HR := Lib.hid hr
  clear hb2 H1 hr x1 x2
  obtain ⟨x1, x2, -, -⟩ := blk2 H2.out.1
  cases r with
  | false =>
    go_wp2
    go_ret
    exact ⟨rfl, H2.out.2⟩
  | true =>
    have hm1 : m ≤ 100 := (HR.out rfl).2
    clear HR
    obtain ⟨ok, hok⟩ : ∃ ok, okB bs N = ok := ⟨_, rfl⟩
    have HOK := Lib.hid hok
    clear hok
    go_wp2_with fail
    have hcon := check_any A n c N bs w2 (hb.out.below H2.out.2)
    rw [HOK.out] at hcon
    refine hcon.mono ?_
    clear hcon
    rintro e w3 ⟨rfl, hb3⟩
    have H3 := Lib.hid (H2.out.next hb3)
    clear hb3 H2 x1 x2
    cases ok with
    | false =>
      go_wp2
      go_ret
      exact ⟨rfl, H3.out.2⟩
    | true =>
      obtain ⟨l, hIB, -, hN⟩ := IsB.of_ok (c := c) HOK.out hb.out
      subst hN
      have HIB := Lib.hid hIB
      clear hIB
      obtain ⟨M, hM⟩ : ∃ M, M = l.length := ⟨_, rfl⟩
      rw [← hM] at HIB H3 ⊢
      clear hM HOK
      go_wp2
      go_loopw [29] (fun v wr => ∃ k : Nat, v = .int .i64 (k : Int) ∧ k ≤ m ∧ Hid ((∀ j t, j < k → ts[j]? = some t → Fq.okF t.xs = true) ∧ LB w b3 (.slice A n c) (.int .i64 (M : Int)) wr)) (fun v _ => m - (intOf v).toNat)
      case atStart => exact ⟨0, rfl, by omega, Lib.hid ⟨fun j t h => absurd h (by omega), H3.out⟩⟩
      case round =>
        obtain ⟨k, rfl, hk, HZ⟩ := hrel
        clear H3
        by_cases hlt : k < m
        · obtain ⟨ad2, t, rfl, hget, had2, x2, hx, hmm⟩ := (ht.out.below HZ.out.2.2).at_ hlt
          have HGET := Lib.hid hget
          obtain ⟨C, mm, dd, xs⟩ := t
          dsimp only at x2 hx hmm
          have HZA := Lib.hid (HZ.out.2.alloc (.cells #[.slice C mm dd] 30))
          have HXA := Lib.hid (hx.alloc (.cells #[.slice C mm dd] 30))
          have HM := Lib.hid hmm
          clear hget hx hmm
          go_wp2_with fail
          generalize wr.alloc (.cells #[.slice C mm dd] 30) = wa at HZA HXA ⊢
          obtain ⟨ok, hok⟩ : ∃ ok, Fq.okF xs = ok := ⟨_, rfl⟩
          have HOK := Lib.hid hok
          clear hok x2
          refine (Fq.check_any C mm dd xs ok wa HXA HM.out HOK.out).mono ?_
          rintro e w5 ⟨rfl, hb5⟩
          have H5 := Lib.hid (HZA.out.next hb5)
          clear hb5
          cases ok with
          | false =>
            rw [show Fq.errN false = 1 from rfl]
            go_wp2
            go_ret
            exact ⟨rfl, H5.out.2⟩
          | true =>
            rw [show Fq.errN true = 0 from rfl]
            have HN := Lib.hid (show ∀ j t, j < k + 1 → ts[j]? = some t → Fq.okF t.xs = true from fun j t hj hjt => by
              rcases Nat.lt_or_ge j k with h | h
              · exact HZ.out.1 j t h hjt
              · have : j = k := by omega
                subst this
                rw [HGET.out] at hjt
                injection hjt with hjt
                rw [← hjt]
                exact HOK.out)
            go_wp2
            go_roundw
            case rel => exact ⟨k + 1, by go_num, by omega, Lib.hid ⟨HN.out, H5.out⟩⟩
            case measure => simp [intOf]; omega
        · have HAL := Lib.hid (show ∀ xs ∈ tbs ts, Fq.okF xs = true from fun xs hxs => by
            obtain ⟨t, ht', rfl⟩ := List.mem_map.1 hxs
            obtain ⟨j, hj, e⟩ := List.getElem_of_mem ht'
            refine HZ.out.1 j t ?_ (by rw [List.getElem?_eq_getElem hj, e])
            have := ht.out.1
            omega)
          have H4 := Lib.hid HZ.out.2
          clear HZ
          obtain ⟨x1, x2, -, -⟩ := blk2 H4.out.1
          go_wp2_with fail
          refine (back_walk A n c M l L m d ts wr (Lib.hid (HIB.out.below H4.out.2)) (by omega) (Lib.hid (ht.out.below H4.out.2))).mono ?_
          clear x1 x2
          rintro e w5 (⟨h0, g, rfl, hg, hB, hb5⟩ | ⟨h0, rfl, hb5⟩)
          · have H5 := Lib.hid (H4.out.next hb5)
            have HZS := Lib.hid (Fq.RdI.of_blk hB (n := m) (by rw [symL_length]; unfold tbs; rw [List.length_map]; exact ht.out.1))
            have H00 := Lib.hid h0
            clear h0 hg hB hb5 H4
            have d1 : ((m : Int) != (m : Int)) = false := by simp
            go_wp2
            go_loop [63] (fun v => ∃ k : Nat, v = .int .i64 (k : Int) ∧ k ≤ m) (fun v => m - (intOf v).toNat)
            case atStart => exact ⟨0, rfl, by omega⟩
            case round =>
              obtain ⟨k, rfl, hk⟩ := hrel
              by_cases hlt : k < m
              · obtain ⟨ad2, t, rfl, hget, had2, x2, hx, hmm⟩ := (ht.out.below H5.out.2).at_ hlt
                obtain ⟨s, hs1, hs2⟩ := symL_in (l := l) (fineD0 l) HAL.out k t.xs (tbs_get hget).1
                have x3 := HZS.out.cell hlt
                have e3 : (symL l (d0 l) (tbs ts)).getD k 0 = (s : Int) := by rw [List.getD_eq_getElem?_getD, hs1]; rfl
                rw [e3, add_own] at x3
                have hl := hx.1
                rw [hl] at hs2
                obtain ⟨C, mm, dd, xs⟩ := t
                dsimp only at x2 hs2 hmm
                unfold maxLen at hmm
                clear hget hx hs1 e3 hl
                have d2 : decide ((s : Int) < 0) = false := by simp
                have d3 : decide ((mm : Int) - 1 ≤ (s : Int)) = false := by simp; omega
                go_wp2
                go_round
                case rel => exact ⟨k + 1, by go_num, by omega⟩
                case measure => simp [intOf]; omega
              · obtain ⟨R, K, e1, r1, r2, e2, k1⟩ := place_of x m
                have z1 : ¬ (m : Int) + 1 = 0 := by omega
                have z2 : ((m : Int) + 1 == 0) = false := by simp; omega
                have k2 : (K : Int) ≤ (d : Int) := by omega
                have k3 : K ≤ d := by omega
                have k4 : K ≤ m := k1
                have k5 : (K : Int) ≤ (m : Int) := by omega
                have HI5 := Lib.hid (show IsB w5.drew (.agg #[.slice A n c, .int .i64 (M : Int)]) l from HIB.out.below (Below.drew H5.out.2))
                have HT5 := Lib.hid (show RdT w5.drew L m ts from ht.out.below (Below.drew H5.out.2))
                have H5d := Lib.hid (show LB w b3 (.slice A n c) (.int .i64 (M : Int)) w5.drew from ⟨H5.out.1, Below.drew H5.out.2⟩)
                obtain ⟨x1, x2, -, -⟩ := blk2 H5.out.1
                go_wp2_with fail
                clear e1 e2 z1 z2
                cases L with
                | none =>
                  have hm0 : m = 0 := by
                    rcases Nat.eq_zero_or_pos m with h | h
                    · exact h
                    · obtain ⟨ad, e, -⟩ := ht.out.2 h
                      cases e
                  obtain rfl : K = 0 := by omega
                  have HM0 := Lib.hid hm0
                  clear hm0
                  go_region_with (go_at_call 28; refine (back_pre 0 HI5.out (by omega) k1 HT5.out H00.out).mono ?_; rintro e w6 ⟨g6, rfl, hR6, hb6⟩)
                  have H6 := Lib.hid (H5d.out.next hb6)
                  have HR6 := Lib.hid hR6
                  have HZ6 := Lib.hid (rdI_take ((show Fq.RdI w5.drew (some ⟨g, 0, none⟩) m (symL l (d0 l) (tbs ts)) from HZS.out).below hb6) 0 (by omega))
                  clear hb6 hR6 x1 x2
                  go_wp2_with fail
                  refine (Fq.requal_any _ _ 0 0 _ _ _ _ true _ (by unfold maxLen; omega) (by unfold maxLen; omega) HR6.out HZ6.out (by simp)).mono ?_
                  rintro e w9 ⟨rfl, q, rfl⟩
                  go_wp2
                  go_ret
                  exact ⟨rfl, below_drewN H6.out.2 q⟩
                | some adL =>
                  go_region_with (go_at_call 28; refine (back_pre K HI5.out (by omega) k1 HT5.out H00.out).mono ?_; rintro e w6 ⟨g6, rfl, hR6, hb6⟩)
                  have H6 := Lib.hid (H5d.out.next hb6)
                  have HR6 := Lib.hid hR6
                  have HZ6 := Lib.hid (rdI_take ((show Fq.RdI w5.drew (some ⟨g, 0, none⟩) m (symL l (d0 l) (tbs ts)) from HZS.out).below hb6) K k1)
                  clear hb6 hR6 x1 x2
                  go_wp2_with fail
                  refine (Fq.requal_any _ _ K K _ _ _ _ true _ (by unfold maxLen; omega) (by unfold maxLen; omega) HR6.out HZ6.out (by simp)).mono ?_
                  rintro e w9 ⟨rfl, q, rfl⟩
                  go_wp2
                  go_ret
                  exact ⟨rfl, below_drewN H6.out.2 q⟩
          · have HE := Lib.hid (show backErr l (d0 l) (tbs ts) = 20 from (backErr_two HAL.out).resolve_left h0)
            have H5 := Lib.hid (H4.out.next hb5)
            rw [HE.out]
            clear hb5 h0 H4
            go_wp2
            go_ret
            exact ⟨rfl, H5.out.2⟩
end Go.Proofs.Ytgelgbfnioagbaa.Cd
