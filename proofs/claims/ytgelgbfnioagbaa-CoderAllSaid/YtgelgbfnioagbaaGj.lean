/-
  Own texts, laid together: Gj.
-/
import Derived.Test.YtgelgbfnioagbaaGi
/- Gj -/
namespace Go.Proofs.Ytgelgbfnioagbaa.Cd
open Go.RowKit
theorem all_lens (A : Option Addr) (n c : Nat) (L : Option Addr) (m d : Nat) (w : World) (hn : Hid (n ≤ maxLen)) (hm : Hid (m ≤ maxLen)) (h : n ≠ m) :
    Calls Try.prog 26 #[.slice A n c, .slice L m d] w (BBad w 1) := by
  have d1 : ((n : Int) != (m : Int)) = true := by simp; omega
  have b1 : n ≤ 9223372036854775807 := by have := hn.out; unfold maxLen at this; omega
  have b2 : m ≤ 9223372036854775807 := by have := hm.out; unfold maxLen at this; omega
  go_enter Try.func26, Try.ntmps26
  go_wp2
  exact bodyPost_ret (v := .tuple #[zeroB, .int .i64 1]) (by simp [results, Try.results26, go_sem, zeroB]) rfl ⟨rfl, by
    first
    | exact (((Below.refl w.heap.size w).alloc (Nat.le_refl _) _).setCell (by simp) _).setCell (by simp) _
    | exact (Below.refl w.heap.size w).alloc (Nat.le_refl _) _⟩
/-- pairs of symbols and tables -/
def prs (ss : List Int) (ts : List Tb) : List Pr := ss.zip (ts.map (·.xs))
theorem prs_get {ss : List Int} {ts : List Tb} {k : Nat} {t : Tb} (h1 : k < ss.length) (h2 : ts[k]? = some t) : (prs ss ts).drop k = (ss.getD k 0, t.xs) :: (prs ss ts).drop (k + 1) ∧ (prs ss ts).take (k + 1) = (prs ss ts).take k ++ [(ss.getD k 0, t.xs)] := by
  obtain ⟨hk, e⟩ := List.getElem?_eq_some_iff.1 h2
  have hl : k < (prs ss ts).length := by unfold prs; rw [List.length_zip, List.length_map]; omega
  have hg : (prs ss ts)[k] = (ss.getD k 0, t.xs) := by
    have : (prs ss ts)[k]? = some (ss.getD k 0, t.xs) := by
      unfold prs
      rw [List.getElem?_zip_eq_some]
      exact ⟨Fq.get_of_lt h1, by rw [List.getElem?_map, h2]; rfl⟩
    rw [List.getElem?_eq_getElem hl] at this
    injection this
  exact ⟨by rw [List.drop_eq_getElem_cons hl, hg], by rw [List.take_succ_eq_append_getElem hl, hg]⟩
/-- what the loop of All knows -/
def AllR (w : World) (z : Bs) (p br : Nat) (ps : List Pr) (k : Nat) (wr : World) : Prop :=
  WS z p (stE e0 (ps.take k)) wr ∧ Fine (stE e0 (ps.take k)) ∧ allErr e0 ps = allErr (stE e0 (ps.take k)) (ps.drop k) ∧ Blk z.w br 25 #[.slice none 0 0, .int .i64 0] ∧ Below w.heap.size w z.w ∧ w.heap.size ≤ br
theorem AllR.below {w : World} {z : Bs} {p br : Nat} {ps : List Pr} {k : Nat} {wr : World} (h : AllR w z p br ps k wr) : Below w.heap.size w wr := h.2.2.2.2.1.trans (h.1.1.mono h.2.2.2.2.1.size)
theorem BOut.store {w w1 w2 : World} {br : Nat} {l : List Bool} {A : Option Addr} {n c : Nat} {N er : Int} (hb : Below w.heap.size w w1) (hbr : w.heap.size ≤ br) (hlt : br < w1.heap.size) (h2 : Below w1.heap.size w1 w2) (hq : JQ w1.heap.size l (.agg #[.slice A n c, .int .i64 N]) er w2) (a b : Value) :
    BOut w (JQ w.heap.size l) (.returned (.tuple #[.agg #[.slice A n c, .int .i64 N], .int .i64 er])) ((w2.setCell ⟨br, 0, none⟩ a).setCell ⟨br, 1, none⟩ b) :=
  ⟨A, n, c, N, er, rfl, ((hb.trans (h2.mono hb.size)).setCell hbr _).setCell hbr _, JQ.mono (JQ.far (JQ.far hq hlt _ _) hlt _ _) hb.size⟩
set_option maxRecDepth 100000 in
set_option maxHeartbeats 4000000 in
theorem all_walk (A : Option Addr) (n c : Nat) (L : Option Addr) (d : Nat) (ss : List Int) (ts : List Tb) (w : World) (hn : Hid (n ≤ maxLen)) (hs : Hid (Fq.RdI w A n ss)) (ht : Hid (RdT w L n ts)) :
    Calls Try.prog 26 #[.slice A n c, .slice L n d] w (AllOut w (prs ss ts)) := by
  obtain ⟨ps, hps⟩ : ∃ ps, ps = prs ss ts := ⟨_, rfl⟩
  rw [← hps]
  have HPS := Lib.hid hps
  clear hps
  have d1 : ((n : Int) != (n : Int)) = false := by simp
  have b1 : n ≤ 9223372036854775807 := by have := hn.out; unfold maxLen at this; omega
  have HK := Lib.hid (Blk.new w 25 #[.slice none 0 0, .int .i64 0])
  have HB := Lib.hid ((Below.refl w.heap.size w).alloc (Nat.le_refl _) (.cells #[.slice none 0 0, .int .i64 0] 25))
  go_enter Try.func26, Try.ntmps26
  go_wp2_with fail
  generalize w.alloc (.cells #[.slice none 0 0, .int .i64 0] 25) = w1 at HK HB ⊢
  obtain ⟨br, hbr⟩ : ∃ br, br = w.heap.size := ⟨_, rfl⟩
  have HBR := Lib.hid (show w.heap.size ≤ br by omega)
  rw [← hbr] at HK ⊢
  clear hbr
  refine (begin_any w1).mono ?_
  rintro e w2 ⟨rfl, hb2⟩
  have HK2 := Lib.hid (HK.out.below hb2 HK.out.lt)
  have HB2 := Lib.hid (HB.out.trans (hb2.mono HB.out.size))
  clear hb2 HB HK
  have hcon := resume_ok 0 4294967295 0 none 0 0 0 [] w2 (by omega) (by omega) (by omega) (Lib.hid e0_ok.2) (Lib.hid (IsB.nil_ w2))
  unfold encV at hcon ⊢
  go_wp2_with fail
  refine hcon.mono ?_
  clear hcon
  rintro e w3 ⟨z, p, hz, rfl, h3⟩
  have HR0 := Lib.hid (show AllR w z p br ps 0 w3 from ⟨h3, fine0, rfl, by rw [hz]; exact HK2.out, by rw [hz]; exact HB2.out, HBR.out⟩)
  clear hz h3 HK2 HB2
  go_wp2
  go_loopw [28] (fun v wr => ∃ k : Nat, v = .int .i64 (k : Int) ∧ k ≤ n ∧ Hid (AllR w z p br ps k wr)) (fun v _ => n - (intOf v).toNat)
  case atStart => exact ⟨0, rfl, by omega, HR0⟩
  case round =>
    obtain ⟨k, rfl, hk, HZ⟩ := hrel
    clear HR0
    by_cases hlt : k < n
    · obtain ⟨ad, rfl, had, x1⟩ := (hs.out.below HZ.out.below).at_ hlt
      obtain ⟨ad2, t, rfl, hget, had2, x2, hx, hm⟩ := (ht.out.below HZ.out.below).at_ hlt
      obtain ⟨g1, g2⟩ := prs_get (ss := ss) (by have := hs.out.1; omega) hget
      rw [← HPS.out] at g1 g2
      obtain ⟨s, hs'⟩ : ∃ s, s = ss.getD k 0 := ⟨_, rfl⟩
      rw [← hs'] at x1 g1 g2
      have HG1 := Lib.hid g1
      have HG2 := Lib.hid g2
      have HX := Lib.hid hx
      have HM := Lib.hid hm
      obtain ⟨C, m, dd, xs⟩ := t
      dsimp only at x2 HX HM HG1 HG2
      clear hs' g1 g2 hget hx hm
      cases hq : okP (s, xs) with
      | false =>
        have HQ := Lib.hid hq
        clear hq
        go_wp2_with fail
        refine (put_no z p _ _ _ _ _ C m dd xs s _ (Lib.hid HZ.out.1) HX HM HQ).mono ?_
        rintro e w5 ⟨rfl, h5⟩
        have HE := Lib.hid (show allErr e0 ps = 1 by rw [HZ.out.2.2.1, HG1.out, allErr_no HQ.out])
        have HK5 := Lib.hid (HZ.out.2.2.2.1.below h5.base HZ.out.2.2.2.1.lt)
        have HB5 := Lib.hid (HZ.out.2.2.2.2.1.trans (h5.base.mono HZ.out.2.2.2.2.1.size))
        clear h5 x1 x2
        obtain ⟨y1, y2, y3, y4⟩ := blk2 HK5.out
        go_wp2
        exact bodyPost_ret (v := .tuple #[zeroB, .int .i64 1]) (by simp [results, Try.results26, go_sem, zeroB, y1, y2]) rfl (.inr ⟨by rw [HE.out]; decide, by rw [HE.out], (HB5.out.setCell HBR.out _).setCell HBR.out _⟩)
      | true =>
        have HQ := Lib.hid hq
        clear hq
        have HF := Lib.hid HZ.out.2.1
        obtain ⟨E, hE⟩ : ∃ E, E = stE e0 (ps.take k) := ⟨_, rfl⟩
        have HWS := Lib.hid (show WS z p E wr by rw [hE]; exact HZ.out.1)
        rw [← hE] at HF
        have HEE := Lib.hid hE
        clear hE
        have f3 : E.out.length ≤ 65536 := HF.out.2.2.1
        have f4 : E.wait ≤ 65536 := HF.out.2.2.2
        rcases putC_cases (put1 E (s, xs)) with ⟨hc, -, -⟩ | hc
        · have HC := Lib.hid hc
          clear hc
          go_wp2_with fail
          refine (put_w z p E (put1 E (s, xs)) 0 C m dd xs s _ _ _ _ HWS (Lib.hid HF.out.1) (Lib.hid HF.out.2.1) f3 f4 HX HM (Lib.hid (symP_of HQ.out)) (Lib.hid rfl) HC).mono ?_
          rintro e w5 ⟨rfl, h5⟩
          have HR5 := Lib.hid (show AllR w z p br ps (k + 1) w5 from by
            refine ⟨?_, ?_, ?_, HZ.out.2.2.2⟩
            · rw [HG2.out, stE_snoc, ← HEE.out]; exact h5
            · rw [HG2.out, stE_snoc, ← HEE.out]; exact HF.out.put HQ.out HC.out
            · rw [HG2.out, stE_snoc, ← HEE.out, HZ.out.2.2.1, HG1.out, ← HEE.out, allErr_ok HQ.out HC.out])
          clear h5 x1 x2
          go_wp2
          go_roundw
          case rel => exact ⟨k + 1, by go_num, by omega, HR5⟩
          case measure => simp [intOf]; omega
        · have HC := Lib.hid hc
          clear hc
          go_wp2_with fail
          refine (put_w z p E (put1 E (s, xs)) 2 C m dd xs s _ _ _ _ HWS (Lib.hid HF.out.1) (Lib.hid HF.out.2.1) f3 f4 HX HM (Lib.hid (symP_of HQ.out)) (Lib.hid rfl) HC).mono ?_
          rintro e w5 ⟨rfl, h5⟩
          have HE := Lib.hid (show allErr e0 ps = 2 by rw [HZ.out.2.2.1, HG1.out, ← HEE.out, allErr_long HQ.out HC.out])
          have HK5 := Lib.hid (HZ.out.2.2.2.1.below (WSm.base h5) HZ.out.2.2.2.1.lt)
          have HB5 := Lib.hid (HZ.out.2.2.2.2.1.trans ((WSm.base h5).mono HZ.out.2.2.2.2.1.size))
          clear h5 x1 x2
          obtain ⟨y1, y2, y3, y4⟩ := blk2 HK5.out
          go_wp2
          exact bodyPost_ret (v := .tuple #[zeroB, .int .i64 2]) (by simp [results, Try.results26, go_sem, zeroB, y1, y2]) rfl (.inr ⟨by rw [HE.out]; decide, by rw [HE.out], (HB5.out.setCell HBR.out _).setCell HBR.out _⟩)
    · obtain rfl : k = n := by omega
      have hpl : ps.length = k := by rw [HPS.out]; unfold prs; rw [List.length_zip, List.length_map, hs.out.1, ht.out.1]; omega
      obtain ⟨E, hE⟩ : ∃ E, E = stE e0 ps := ⟨_, rfl⟩
      obtain ⟨q1, q2, q3, q4, q5, -⟩ := HZ.out
      rw [List.take_of_length_le (by omega), ← hE] at q1 q2 q3
      rw [List.drop_of_length_le (by omega)] at q3
      have Q1 := Lib.hid q1
      have Q2 := Lib.hid q2
      have Q3 := Lib.hid (show allErr e0 ps = 0 from q3)
      have Q4 := Lib.hid q4
      have Q5 := Lib.hid q5
      have HE := Lib.hid hE
      have f3 : E.out.length ≤ 65536 := q2.2.2.1
      have f4 : E.wait ≤ 65536 := q2.2.2.2
      clear q1 q2 q3 q4 q5 hE hpl HZ
      go_wp2_with fail
      refine (end_w z p E (endBits E) _ Q1 f3 f4 (Lib.hid rfl)).mono ?_
      rintro e w5 ⟨A5, n5, c5, N5, er5, rfl, hb5, hq5⟩
      have HK5 := Lib.hid (Q4.out.below hb5 Q4.out.lt)
      have HB5 := Lib.hid hb5
      have HQ5 := Lib.hid hq5
      clear hb5 hq5
      obtain ⟨y1, y2, y3, y4⟩ := blk2 HK5.out
      go_wp2
      refine bodyPost_ret (v := .tuple #[.agg #[.slice A5 n5 c5, .int .i64 N5], .int .i64 er5]) (by simp [results, Try.results26, go_sem, y1, y2]) rfl (.inl ⟨Q3.out, ?_⟩)
      rw [← HE.out]
      exact BOut.store Q5.out HBR.out Q4.out.lt HB5.out HQ5.out _ _
end Go.Proofs.Ytgelgbfnioagbaa.Cd
