/-
  Own texts, laid together: Jg.
-/
import Derived.Test.YtgelgbfnioagbaaJe
import Derived.Test.YtgelgbfnioagbaaJf
import Derived.Test.YtgelgbfnioagbaaHa
import Derived.Test.YtgelgbfnioagbaaGv
/- Jg -/
namespace Go.Proofs.Ytgelgbfnioagbaa.Cd
open Go.RowKit
/-- both of All answer the same -/
theorem alls_same (A : Option Addr) (n c : Nat) (L : Option Addr) (m d : Nat) (ss : List Int) (ts : List Tb) (w : World) (hn : Hid (n ≤ maxLen)) (hm : Hid (m ≤ maxLen)) (hs : Hid (Fq.RdI w A n ss)) (ht : Hid (RdT w L m ts)) :
    ∃ (N E : Int) (bs : List Nat), ∀ w' : World, Below w.heap.size w w' → Calls Try.prog 26 #[.slice A n c, .slice L m d] w' (JOut w' N E bs) ∧ Calls Try.prog 27 #[.slice A n c, .slice L m d] w' (JOut w' N E bs) := by
  by_cases h : n = m
  · subst h
    by_cases h0 : allErr e0 (prs ss ts) = 0
    · obtain ⟨N, E, bs, hp⟩ : ∃ N E bs, pWhat (endBits (stE e0 (prs ss ts))) = (N, E, bs) := ⟨_, _, _, rfl⟩
      refine ⟨N, E, bs, fun w' hb => ⟨?_, ?_⟩⟩
      · refine (all_walk A n c L d ss ts w' hn (Lib.hid (hs.out.below hb)) (Lib.hid (ht.out.below hb))).mono ?_
        rintro e w2 (⟨_, h1⟩ | ⟨h1, _⟩)
        · exact h1.out hp
        · exact absurd h0 h1
      · refine (rall_walk A n c L d ss ts w' hn (Lib.hid (hs.out.below hb)) (Lib.hid (ht.out.below hb))).mono ?_
        rintro e w2 (⟨h1, _⟩ | ⟨_, N', E', bs', h1, h2⟩)
        · exact absurd h0 h1
        · rw [hp] at h1
          simp only [Prod.mk.injEq] at h1
          obtain ⟨rfl, rfl, rfl⟩ := h1
          exact h2
    · refine ⟨0, allErr e0 (prs ss ts), [], fun w' hb => ⟨?_, ?_⟩⟩
      · refine (all_walk A n c L d ss ts w' hn (Lib.hid (hs.out.below hb)) (Lib.hid (ht.out.below hb))).mono ?_
        rintro e w2 (⟨h1, _⟩ | ⟨_, h1⟩)
        · exact absurd h1 h0
        · exact h1.out
      · refine (rall_walk A n c L d ss ts w' hn (Lib.hid (hs.out.below hb)) (Lib.hid (ht.out.below hb))).mono ?_
        rintro e w2 (⟨_, h1⟩ | ⟨h1, _⟩)
        · exact h1
        · exact absurd h1 h0
  · exact ⟨0, 1, [], fun w' _ => ⟨(all_lens A n c L m d w' hn hm h).mono fun _ _ h1 => BBad.out h1, (rall_lens A n c L m d w' hn hm h).mono fun _ _ h1 => BBad.out h1⟩⟩
/-- symbols and an error -/
def BkV (w : World) (E : Int) (zs : List Int) (e : Ending) (w' : World) : Prop :=
  ∃ A k c, e = .returned (.tuple #[.slice A k c, .int .i64 E]) ∧ Fq.RdI w' A k zs ∧ k ≤ maxLen ∧ Below w.heap.size w w'
theorem BackNo.val {w w' : World} {E : Int} {e : Ending} (h : BackNo w E e w') : BkV w E [] e w' := by
  obtain ⟨rfl, hb⟩ := h
  exact ⟨none, 0, 0, rfl, ⟨rfl, fun h => absurd h (by omega)⟩, by unfold maxLen; omega, hb⟩
/-- both of Back answer the same -/
theorem backs_same (A : Option Addr) (n c : Nat) (N : Int) (bs : List Nat) (L : Option Addr) (m d : Nat) (ts : List Tb) (w : World) (hm : m ≤ 1000) (hb : Hid (Rd w A n bs)) (ht : Hid (RdT w L m ts)) :
    ∃ (E : Int) (zs : List Int), ∀ w' : World, Below w.heap.size w w' → Calls Try.prog 28 #[.agg #[.slice A n c, .int .i64 N], .slice L m d] w' (BkV w' E zs) ∧ Calls Try.prog 29 #[.agg #[.slice A n c, .int .i64 N], .slice L m d] w' (BkV w' E zs) := by
  cases hok : okB bs N with
  | false => exact ⟨1, [], fun w' h => ⟨(back_no A n c N bs L m d w' (Lib.hid (hb.out.below h)) (Lib.hid hok)).mono fun _ _ h1 => h1.val, (rback_no A n c N bs L m d w' (Lib.hid (hb.out.below h)) (Lib.hid hok)).mono fun _ _ h1 => h1.val⟩⟩
  | true =>
    obtain ⟨l, hIB, -, hN⟩ := IsB.of_ok (c := c) hok hb.out
    subst hN
    have hlen : (symL l (d0 l) (tbs ts)).length = m := by rw [symL_length]; unfold tbs; rw [List.length_map]; exact ht.out.1
    by_cases h0 : backErr l (d0 l) (tbs ts) = 0
    · refine ⟨0, symL l (d0 l) (tbs ts), fun w' h => ⟨?_, ?_⟩⟩
      · refine (back_walk A n c l.length l L m d ts w' (Lib.hid (hIB.below h)) hm (Lib.hid (ht.out.below h))).mono ?_
        rintro e w2 (⟨_, g, rfl, _, hB, hb2⟩ | ⟨h1, _⟩)
        · exact ⟨_, m, _, rfl, Fq.RdI.of_blk hB hlen, by unfold maxLen; omega, hb2⟩
        · exact absurd h0 h1
      · refine (rback_walk A n c l.length l L m d ts w' (Lib.hid (hIB.below h)) hm (Lib.hid (ht.out.below h))).mono ?_
        rintro e w2 (⟨_, A2, c2, rfl, hR, hb2⟩ | ⟨h1, _⟩)
        · exact ⟨_, m, _, rfl, hR, by unfold maxLen; omega, hb2⟩
        · exact absurd h0 h1
    · refine ⟨backErr l (d0 l) (tbs ts), [], fun w' h => ⟨?_, ?_⟩⟩
      · refine (back_walk A n c l.length l L m d ts w' (Lib.hid (hIB.below h)) hm (Lib.hid (ht.out.below h))).mono ?_
        rintro e w2 (⟨h1, _⟩ | ⟨_, h1⟩)
        · exact absurd h1 h0
        · exact h1.val
      · refine (rback_walk A n c l.length l L m d ts w' (Lib.hid (hIB.below h)) hm (Lib.hid (ht.out.below h))).mono ?_
        rintro e w2 (⟨h1, _⟩ | ⟨_, h1⟩)
        · exact absurd h1 h0
        · exact h1.val
set_option maxRecDepth 100000 in
set_option maxHeartbeats 4000000 in
theorem all_law (A : Option Addr) (n c : Nat) (ss : List Int) (L : Option Addr) (m d : Nat) (ts : List Tb) (At : Option Addr) (nt ct : Nat) (Nt : Int) (bt : List Nat) (w : World) (hn : Hid (n ≤ maxLen)) (hm : Hid (m ≤ maxLen)) (hnt : Hid (nt ≤ maxLen)) (hs : Hid (Fq.RdI w A n ss)) (ht : Hid (RdT w L m ts)) (hb : Hid (Rd w At nt bt)) :
    Calls Try.prog 5 #[.slice A n c, .slice L m d, .agg #[.slice At nt ct, .int .i64 Nt]] w fun e w' => e = .returned (.bool true) ∧ Below w.heap.size w w' := by
  have H0 := Lib.hid (show LB w w.heap.size (.slice At nt ct) (.int .i64 Nt) (w.alloc (.cells #[.slice At nt ct, .int .i64 Nt] 25)) from ⟨Blk.new w _ _, (Below.refl w.heap.size w).alloc (Nat.le_refl _) _⟩)
  have b1 : n ≤ 9223372036854775807 := by have := hn.out; unfold maxLen at this; omega
  go_enter Try.func5, Try.ntmps5
  go_wp2_with fail
  generalize w.alloc (.cells #[.slice At nt ct, .int .i64 Nt] 25) = w0 at H0 ⊢
  obtain ⟨b5, hb5⟩ : ∃ b5, b5 = w.heap.size := ⟨_, rfl⟩
  rw [← hb5] at H0 ⊢
  clear hb5
  refine (live_c w0).mono ?_
  rintro e w1 ⟨rfl, hb1⟩
  have H1 := Lib.hid (H0.out.next hb1)
  clear hb1 H0
  obtain ⟨x1, x2, -, -⟩ := blk2 H1.out.1
  go_wp2_with fail
  refine (few_c At nt ct Nt L m d ts w1 hnt hm (Lib.hid (ht.out.below H1.out.2))).mono ?_
  rintro e w2 ⟨r, rfl, hr, hb2⟩
  have H2 := Lib.hid (H1.out.next hb2)
  have HR := Lib.hid hr
  clear hb2 H1 hr x1 x2
  cases r with
  | false =>
    go_wp2
    go_ret
    exact ⟨rfl, H2.out.2⟩
  | true =>
    have hm1 : m ≤ 100 := (HR.out rfl).2
    clear HR
    by_cases h1 : 100 < n
    · have d1 : decide ((100 : Int) < (n : Int)) = true := by simp; omega
      go_wp2
      go_ret
      exact ⟨rfl, H2.out.2⟩
    · have d1 : decide ((100 : Int) < (n : Int)) = false := by simp; omega
      obtain ⟨N1, E1, bs1, hal⟩ := alls_same A n c L m d ss ts w hn hm hs ht
      have HAL := Lib.hid hal
      obtain ⟨E2, zs, hbk⟩ := backs_same At nt ct Nt bt L m d ts w (by omega) hb ht
      have HBK := Lib.hid hbk
      clear hal hbk
      have e1 : (E1 == E1) = true := by simp
      have e2 : (E2 == E2) = true := by simp
      go_wp2_with fail
      refine (HAL.out w2 H2.out.2).1.mono ?_
      rintro e w3 ⟨A3, n3, c3, rfl, hb3, hr3⟩
      have H3 := Lib.hid ((H2.out.next hb3).alloc (.cells #[.slice A3 n3 c3, .int .i64 N1] 25))
      have HR3 := Lib.hid (hr3.alloc (.cells #[.slice A3 n3 c3, .int .i64 N1] 25))
      have HB3 := Lib.hid (Blk.new w3 25 #[.slice A3 n3 c3, .int .i64 N1])
      clear hb3 hr3 H2
      go_wp2_with fail
      generalize w3.alloc (.cells #[.slice A3 n3 c3, .int .i64 N1] 25) = w4 at H3 HR3 HB3 ⊢
      generalize w3.heap.size = b8 at HB3 ⊢
      refine (HAL.out w4 H3.out.2).2.mono ?_
      rintro e w5 ⟨A5, n5, c5, rfl, hb5, hr5⟩
      have H5 := Lib.hid ((H3.out.next hb5).alloc (.cells #[.slice A5 n5 c5, .int .i64 N1] 25))
      have HR5 := Lib.hid ((HR3.out.below hb5).alloc (.cells #[.slice A5 n5 c5, .int .i64 N1] 25))
      have HB5 := Lib.hid ((HB3.out.below hb5 HB3.out.lt).alloc (.cells #[.slice A5 n5 c5, .int .i64 N1] 25))
      have HS5 := Lib.hid (hr5.alloc (.cells #[.slice A5 n5 c5, .int .i64 N1] 25))
      have HC5 := Lib.hid (Blk.new w5 25 #[.slice A5 n5 c5, .int .i64 N1])
      have h5a := (H3.out.next hb5).1
      obtain ⟨x1, x2, -, -⟩ := blk2 h5a
      have x3 := h5a.lt
      obtain ⟨x4, x5, -, -⟩ := blk2 H5.out.1
      clear hb5 hr5 H3 HR3 HB3 h5a
      go_wp2_with fail
      clear x1 x2 x3 x4 x5
      generalize w5.alloc (.cells #[.slice A5 n5 c5, .int .i64 N1] 25) = w6 at H5 HR5 HB5 HS5 HC5 ⊢
      generalize w5.heap.size = b10 at HC5 ⊢
      refine (HBK.out w6 H5.out.2).1.mono ?_
      rintro e w7 ⟨A7, k7, c7, rfl, hz7, hk7, hb7⟩
      have H7 := Lib.hid (H5.out.next hb7)
      have HR7 := Lib.hid (HR5.out.below hb7)
      have HB7 := Lib.hid (HB5.out.below hb7 HB5.out.lt)
      have HS7 := Lib.hid (HS5.out.below hb7)
      have HC7 := Lib.hid (HC5.out.below hb7 HC5.out.lt)
      have HZ7 := Lib.hid hz7
      have HK7 := Lib.hid hk7
      clear hb7 hz7 hk7 H5 HR5 HB5 HS5 HC5
      obtain ⟨x1, x2, -, -⟩ := blk2 H7.out.1
      go_wp2_with fail
      clear x1 x2
      refine (HBK.out w7 H7.out.2).2.mono ?_
      rintro e w8 ⟨A8, k8, c8, rfl, hz8, hk8, hb8⟩
      have H8 := Lib.hid (H7.out.next hb8)
      have HR8 := Lib.hid (HR7.out.below hb8)
      have HB8 := Lib.hid (HB7.out.below hb8 HB7.out.lt)
      have HS8 := Lib.hid (HS7.out.below hb8)
      have HC8 := Lib.hid (HC7.out.below hb8 HC7.out.lt)
      have HZ8 := Lib.hid (HZ7.out.below hb8)
      have HY8 := Lib.hid hz8
      have HK8 := Lib.hid hk8
      clear hb8 hz8 hk8 H7 HR7 HB7 HS7 HC7 HZ7
      obtain ⟨x1, x2, -, -⟩ := blk2 HB8.out
      obtain ⟨x4, x5, -, -⟩ := blk2 HC8.out
      go_wp2_with fail
      refine (same_yes A3 A5 n3 n5 c3 c5 N1 bs1 w8 HR8 HS8).mono ?_
      rintro e w9 ⟨rfl, hb9⟩
      have H9 := Lib.hid (H8.out.next hb9)
      have HZ9 := Lib.hid (HZ8.out.below hb9)
      have HY9 := Lib.hid (HY8.out.below hb9)
      clear hb9 x1 x2 x4 x5 H8 HR8 HB8 HS8 HC8 HZ8 HY8
      go_wp2_with fail
      refine (Fq.requal_any A7 A8 k7 k8 c7 c8 zs zs true w9 HK7.out HK8.out HZ9.out HY9.out (by simp)).mono ?_
      rintro e w10 ⟨rfl, q, rfl⟩
      go_wp2
      go_ret
      exact ⟨rfl, below_drewN H9.out.2 q⟩
end Go.Proofs.Ytgelgbfnioagbaa.Cd
