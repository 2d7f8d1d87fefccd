/-
  Own texts, laid together: Hb.
-/
import Derived.Test.YtgelgbfnioagbaaHa
/- Hb -/
namespace Go.Proofs.Ytgelgbfnioagbaa.Cd
open Go.RowKit
set_option maxRecDepth 100000 in
set_option maxHeartbeats 4000000 in
theorem back_law (A : Option Addr) (n c : Nat) (ss : List Int) (L : Option Addr) (m d : Nat) (ts : List Tb) (At : Option Addr) (nt ct : Nat) (Nt : Int) (bt : List Nat) (w : World) (hn : Hid (n ≤ maxLen)) (hm : Hid (m ≤ maxLen)) (hnt : Hid (nt ≤ maxLen)) (hs : Hid (Fq.RdI w A n ss)) (ht : Hid (RdT w L m ts)) (hb : Hid (Rd w At nt bt)) :
    Calls Try.prog 6 #[.slice A n c, .slice L m d, .agg #[.slice At nt ct, .int .i64 Nt]] w fun e w' => e = .returned (.bool true) ∧ Below w.heap.size w w' := by
  have H0 := Lib.hid (show LB w w.heap.size (.slice At nt ct) (.int .i64 Nt) (w.alloc (.cells #[.slice At nt ct, .int .i64 Nt] 25)) from ⟨Blk.new w _ _, (Below.refl w.heap.size w).alloc (Nat.le_refl _) _⟩)
  have b1 : n ≤ 9223372036854775807 := by have := hn.out; unfold maxLen at this; omega
  go_enter Try.func6, Try.ntmps6
  go_wp2_with fail
  generalize w.alloc (.cells #[.slice At nt ct, .int .i64 Nt] 25) = w0 at H0 ⊢
  obtain ⟨b5, hb5⟩ : ∃ b5, b5 = w.heap.size := ⟨_, rfl⟩
  rw [← hb5] at H0 ⊢
  clear hb5
  refine (live_c w0).mono ?_
  rintro e w1 ⟨rfl, hb1⟩
  have H1 := Lib.hid (H0.out.next hb1)
  clear hb1 H0
  obtain ⟨x1, x2, -, -⟩ := blk2 H1.out.1
  go_wp2_with fail
  refine (few_c At nt ct Nt L m d ts w1 hnt hm (Lib.hid (ht.out.below H1.out.2))).mono ?_
  rintro e w2 ⟨r, rfl, hr, hb2⟩
  have H2 := Lib.hid (H1.out.next hb2)
  have HR := Lib.hid hr
  clear hb2 H1 hr x1 x2
  obtain ⟨x1, x2, -, -⟩ := blk2 H2.out.1
  cases r with
  | false =>
    go_wp2
    go_ret
    exact ⟨rfl, H2.out.2⟩
  | true =>
    have hm1 : m ≤ 100 := (HR.out rfl).2
    clear HR
    by_cases h1 : 100 < n
    · have d1 : decide ((100 : Int) < (n : Int)) = true := by simp; omega
      go_wp2
      go_ret
      exact ⟨rfl, H2.out.2⟩
    · have d1 : decide ((100 : Int) < (n : Int)) = false := by simp; omega
      obtain ⟨ok, hok⟩ : ∃ ok, okB bt Nt = ok := ⟨_, rfl⟩
      have HOK := Lib.hid hok
      clear hok
      go_wp2_with fail
      have hcon := check_any At nt ct Nt bt w2 (hb.out.below H2.out.2)
      rw [HOK.out] at hcon
      refine hcon.mono ?_
      clear hcon
      rintro e w3 ⟨rfl, hb3⟩
      have H3 := Lib.hid (H2.out.next hb3)
      clear hb3 H2 x1 x2
      cases ok with
      | false =>
        go_wp2
        go_ret
        exact ⟨rfl, H3.out.2⟩
      | true =>
        obtain ⟨tl, hIB, -, -⟩ := IsB.of_ok (c := ct) HOK.out hb.out
        have HIB := Lib.hid hIB
        clear hIB
        go_wp2_with fail
        refine (all_told A n c L m d ss ts w3 hn hm (Lib.hid (hs.out.below H3.out.2)) (Lib.hid (ht.out.below H3.out.2))).mono ?_
        rintro e w4 (⟨er, her, rfl, hb4⟩ | ⟨hnm, h0, hlen, hAP⟩)
        · have H4 := Lib.hid ((H3.out.next hb4).alloc (.cells #[.slice none 0 0, .int .i64 0] 25))
          have d2 : (er != 0) = true := by simpa using her
          clear hb4 H3 her
          go_wp2
          go_ret
          exact ⟨rfl, H4.out.2⟩
        · obtain ⟨A4, n4, c4, N4, rfl, hI4, hN4, hb4⟩ := hAP
          obtain ⟨ps, hps⟩ : ∃ ps, ps = prs ss ts := ⟨_, rfl⟩
          rw [← hps] at h0 hI4
          have HPS := Lib.hid hps
          have H00 := Lib.hid h0
          have HNM := Lib.hid hnm
          have HSL := Lib.hid (show ss.length = m by rw [hs.out.1, hnm])
          have H4 := Lib.hid ((H3.out.next hb4).alloc (.cells #[.slice A4 n4 c4, .int .i64 (N4 : Int)] 25))
          have HI4 := Lib.hid (hI4.alloc (.cells #[.slice A4 n4 c4, .int .i64 (N4 : Int)] 25))
          have HB4 := Lib.hid (Blk.new w4 25 #[.slice A4 n4 c4, .int .i64 (N4 : Int)])
          clear hb4 H3 hps h0 hI4 hN4 hlen hnm
          go_wp2_with fail
          generalize w4.alloc (.cells #[.slice A4 n4 c4, .int .i64 (N4 : Int)] 25) = w5 at H4 HI4 HB4 ⊢
          generalize w4.heap.size = b8 at HB4 ⊢
          refine (back_put (ps := ps) (tail := []) (ts := ts) (ss := ss) (by rw [List.append_nil]; exact HI4.out) (by omega) (ht.out.below H4.out.2) H00.out HPS.out HSL.out).mono ?_
          rintro e w6 ⟨g6, rfl, hR6, hb6⟩
          have H6 := Lib.hid (H4.out.next hb6)
          have HI6 := Lib.hid (HI4.out.below hb6)
          have HB6 := Lib.hid (HB4.out.below hb6 HB4.out.lt)
          have HR6 := Lib.hid hR6
          clear hb6 hR6 H4 HI4 HB4
          obtain ⟨x1, x2, -, -⟩ := blk2 H6.out.1
          obtain ⟨y1, y2, -, -⟩ := blk2 HB6.out
          go_wp2_with fail
          clear x1 x2 y1 y2
          have H7 := Lib.hid (H6.out.alloc (.cells #[.slice A4 n4 c4, .int .i64 (N4 : Int), .slice At nt ct, .int .i64 Nt] 25))
          have HI7 := Lib.hid (HI6.out.alloc (.cells #[.slice A4 n4 c4, .int .i64 (N4 : Int), .slice At nt ct, .int .i64 Nt] 25))
          have HR7 := Lib.hid (HR6.out.alloc (.cells #[.slice A4 n4 c4, .int .i64 (N4 : Int), .slice At nt ct, .int .i64 Nt] 25))
          have HB7 := Lib.hid (Blk.new w6 25 #[.slice A4 n4 c4, .int .i64 (N4 : Int), .slice At nt ct, .int .i64 Nt])
          generalize w6.alloc (.cells #[.slice A4 n4 c4, .int .i64 (N4 : Int), .slice At nt ct, .int .i64 Nt] 25) = w7 at H7 HI7 HR7 HB7 ⊢
          generalize w6.heap.size = b9 at HB7 ⊢
          clear H6 HI6 HR6 HB6
          refine (join_two HI7.out (HIB.out.below H7.out.2) HB7.out).mono ?_
          rintro e w8 ⟨A8, n8, c8, N8, er8, rfl, hb8, hq8⟩
          have H8 := Lib.hid ((H7.out.next hb8).alloc (.cells #[.slice A8 n8 c8, .int .i64 N8] 25))
          have HR8 := Lib.hid ((HR7.out.below hb8).alloc (.cells #[.slice A8 n8 c8, .int .i64 N8] 25))
          have HQ8 := Lib.hid hq8
          have HB8 := Lib.hid (Blk.new w8 25 #[.slice A8 n8 c8, .int .i64 N8])
          clear hb8 H7 HI7 HR7 HB7 hq8
          go_wp2_with fail
          refine (Fq.requal_any A _ n m c _ ss ss true _ hn.out hm.out (hs.out.below H8.out.2) HR8.out (by simp)).mono ?_
          rintro e w9 ⟨rfl, q, rfl⟩
          have HW9 := Lib.hid (below_drewN H8.out.2 q)
          rcases HQ8.out with ⟨-, rfl, hIN⟩ | ⟨-, rfl, -⟩
          · have hIB8 := hIN.isB
            obtain ⟨-, hN8, -, -⟩ := isB_parts hIB8
            subst hN8
            have HI9 := Lib.hid (show IsB ((w8.alloc (.cells #[.slice A8 n8 c8, .int .i64 (((endBits (stE e0 ps) ++ tl).length : Nat) : Int)] 25)).drewN q) (.agg #[.slice A8 n8 c8, .int .i64 (((endBits (stE e0 ps) ++ tl).length : Nat) : Int)]) (endBits (stE e0 ps) ++ tl) from hIB8.alloc _)
            have HB9 := Lib.hid (HB8.out.drewN q)
            generalize (endBits (stE e0 ps) ++ tl).length = M at HI9 HB9 HW9 ⊢
            clear hIB8 hIN HQ8 HB8 HR8 H8
            generalize (w8.alloc (.cells #[.slice A8 n8 c8, .int .i64 (M : Int)] 25)).drewN q = w9 at HI9 HB9 HW9 ⊢
            generalize w8.heap.size = b12 at HB9 ⊢
            obtain ⟨x1, x2, -, -⟩ := blk2 HB9.out
            go_wp2_with fail
            refine (back_put (ps := ps) (tail := tl) (ts := ts) (ss := ss) HI9.out (by omega) (ht.out.below HW9.out) H00.out HPS.out HSL.out).mono ?_
            rintro e w10 ⟨g10, rfl, hR10, hb10⟩
            have HR10 := Lib.hid hR10
            have HW10 := Lib.hid (HW9.out.trans (hb10.mono HW9.out.size))
            clear x1 x2 hR10 hb10 HI9 HB9
            go_wp2_with fail
            refine (Fq.requal_any A _ n m c _ ss ss true _ hn.out hm.out (hs.out.below HW10.out) HR10.out (by simp)).mono ?_
            rintro e w11 ⟨rfl, q', rfl⟩
            go_wp2
            go_ret
            exact ⟨rfl, below_drewN HW10.out q'⟩
          · clear HQ8
            go_wp2
            go_ret
            exact ⟨rfl, HW9.out⟩
end Go.Proofs.Ytgelgbfnioagbaa.Cd
