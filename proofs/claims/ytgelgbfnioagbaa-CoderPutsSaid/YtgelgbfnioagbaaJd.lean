/-
  Own texts, laid together: Jd.
-/
import Derived.Test.YtgelgbfnioagbaaJc
import Derived.Test.YtgelgbfnioagbaaIg
/- Jd -/
namespace Go.Proofs.Ytgelgbfnioagbaa.Cd
open Go.RowKit
theorem KB.sub {w : World} {Ls Ls2 : List (Nat × TypeId × Array Value)} {Rs Rs2 : List (Option Addr × Nat × List Nat)} {u : World} (h : KB w Ls Rs u) (h1 : ∀ q ∈ Ls2, q ∈ Ls) (h2 : ∀ q ∈ Rs2, q ∈ Rs) : KB w Ls2 Rs2 u := ⟨fun q hq => h.b q (h1 q hq), fun q hq => h.r q (h2 q hq), h.blw⟩
theorem KB.put1 {w : World} {Ls : List (Nat × TypeId × Array Value)} {Rs : List (Option Addr × Nat × List Nat)} {u : World} {g : Nat} {cs : Array Value} (h : KB w Ls Rs u) (hb : Blk u g 5 cs) (hg : w.heap.size ≤ g) (hne : ∀ q ∈ Ls, q.2.1 ≠ 5) (hr : ∀ q ∈ Rs, ∀ ad, q.1 = some ad → 0 < q.2.1 → ad.block ≠ g) (i : Nat) (v : Value) : KB w Ls Rs (u.setCell ⟨g, i, none⟩ v) := by
  refine ⟨fun q hq => ?_, fun q hq => rd_far (h.r q hq) (hr q hq) i v, h.blw.setCell (p := ⟨g, i, none⟩) hg v⟩
  exact (h.b q hq).far (p := ⟨g, i, none⟩) (Blk.ne_ (h.b q hq) hb (hne q hq)) v
/-- bytes that may be written, in a block from H on up to H2 -/
def Wr (A : Option Addr) (n H H2 : Nat) (u : World) : Prop := n = 0 ∨ ∃ g bs, A = some ⟨g, 0, none⟩ ∧ H ≤ g ∧ g < H2 ∧ bs.length = n ∧ (∀ x ∈ bs, x < 256) ∧ Blk u g 5 (bcells bs)
theorem Wr.next {A : Option Addr} {n H H2 : Nat} {u u' : World} (h : Wr A n H H2 u) (hb : Below u.heap.size u u') : Wr A n H H2 u' := by
  rcases h with h | ⟨g, bs, e, h1, h2, h3, h4, h5⟩
  · exact .inl h
  · exact .inr ⟨g, bs, e, h1, h2, h3, h4, h5.below hb h5.lt⟩
theorem Wr.far {A : Option Addr} {n H H2 : Nat} {u : World} (h : Wr A n H H2 u) {g : Nat} (hg : g < H ∨ H2 ≤ g) (i : Nat) (v : Value) : Wr A n H H2 (u.setCell ⟨g, i, none⟩ v) := by
  rcases h with h | ⟨g', bs, e, h1, h2, h3, h4, h5⟩
  · exact .inl h
  · exact .inr ⟨g', bs, e, h1, h2, h3, h4, h5.far (p := ⟨g, i, none⟩) (by show g' ≠ g; omega) v⟩
theorem fr_wr {w u : World} {A : Option Addr} {n H2 : Nat} {bs : List Nat} (h : FrB w A n bs u) (hlt : ∀ x ∈ bs, x < 256) (hH : u.heap.size ≤ H2) : Wr A n w.heap.size H2 u := by
  rcases h with h | ⟨g, e, hg, hl, hB⟩
  · exact .inl h
  · exact .inr ⟨g, bs, e, hg, by have := hB.lt; omega, hl, hlt, hB⟩
theorem Wr.put {g n H H2 : Nat} {bs : List Nat} {u : World} (h1 : H ≤ g) (h2 : g < H2) (h3 : bs.length = n) (h4 : ∀ x ∈ bs, x < 256) (h5 : Blk u g 5 (bcells bs)) (k v : Nat) (hv : v < 256) : Wr (some ⟨g, 0, none⟩) n H H2 (u.setCell ⟨g, k, none⟩ (.int .u8 (v : Int))) := by
  refine .inr ⟨g, bs.set k v, rfl, h1, h2, by rw [List.length_set]; exact h3, fun x hx => ?_, ?_⟩
  · rcases List.mem_or_eq_of_mem_set hx with h | h
    · exact h4 x h
    · rw [h]; exact hv
  · have := h5.set_ k (.int .u8 (v : Int))
    rwa [bcells_set] at this
theorem inc_cast (v : Nat) : ((v : Int) + 1) % 256 = (((v + 1) % 256 : Nat) : Int) := by omega
theorem u8_inc (v : Nat) : IntKind.u8.wrap ((v : Int) + 1) = (((v + 1) % 256 : Nat) : Int) := by
  rw [IntKind.wrap_u8]
  omega
set_option maxRecDepth 100000 in
set_option maxHeartbeats 8000000 in
theorem puts_law (low high : Nat) (wt : Int) (Ad : Option Addr) (nd cd : Nat) (Nd : Int) (bd : List Nat) (C : Option Addr) (m dd : Nat) (xs : List Int) (s : Int) (w : World) (hl : low < 4294967296) (hh : high < 4294967296) (hnd : Hid (nd ≤ maxLen)) (hm : Hid (m ≤ maxLen)) (hrd : Hid (Rd w Ad nd bd)) (hx : Hid (Fq.RdI w C m xs)) :
    Calls Try.prog 3 #[encV low high wt Ad nd cd Nd, .agg #[.slice C m dd], .int .i64 s] w fun e w' => e = .returned (.bool true) ∧ Below w.heap.size w w' := by
  have HS0 := Lib.hid (show KB w [(w.heap.size + 1, 30, #[.slice C m dd]), (w.heap.size, 27, #[.int .u32 (low : Int), .int .u32 (high : Int), .int .i64 wt, .slice Ad nd cd, .int .i64 Nd])] [] ((w.alloc (.cells #[.int .u32 (low : Int), .int .u32 (high : Int), .int .i64 wt, .slice Ad nd cd, .int .i64 Nd] 27)).alloc (.cells #[.slice C m dd] 30)) from
    ((KB.mk (by simp) (by simp) (Below.refl w.heap.size w)).new rfl _ _).new (by simp) _ _)
  obtain ⟨lo1, hi1, wt1, N1, E1, bs1, hbs1, hput⟩ := put_both low high wt Nd bd C m dd xs s hl hh hrd.out.2.1 hm.out
  obtain ⟨NE, EE, be, hbe1, hend⟩ := end_both low high wt Nd bd hl hh hrd.out.2.1
  have HPU := Lib.hid hput
  have HEN := Lib.hid hend
  clear hput hend
  unfold encV at HPU HEN ⊢
  go_enter Try.func3, Try.ntmps3
  go_wp2_with fail
  generalize (w.alloc (.cells #[.int .u32 (low : Int), .int .u32 (high : Int), .int .i64 wt, .slice Ad nd cd, .int .i64 Nd] 27)).alloc (.cells #[.slice C m dd] 30) = w0 at HS0 ⊢
  obtain ⟨b3, hb3⟩ : ∃ b3, b3 = w.heap.size := ⟨_, rfl⟩
  rw [← hb3] at HS0 ⊢
  have HB3 := Lib.hid (show w.heap.size ≤ b3 by omega)
  clear hb3
  refine (live_c w0).mono ?_
  rintro e w1 ⟨rfl, hb1⟩
  have HS1 := Lib.hid (HS0.out.next hb1)
  clear hb1 HS0
  obtain ⟨x1, x2, x3, x4, x5⟩ := blk5 (HS1.out.b (b3, 27, #[.int .u32 (low : Int), .int .u32 (high : Int), .int .i64 wt, .slice Ad nd cd, .int .i64 Nd]) (by simp))
  have x7 := Fq.blk0 (HS1.out.b (b3 + 1, 30, #[.slice C m dd]) (by simp))
  go_wp2_with fail
  clear x1 x2 x3 x4 x5 x7
  have HS2 := Lib.hid (HS1.out.new rfl #[.slice C m dd] 30)
  have HT2 := Lib.hid (rdT_one (xs := xs) (Blk.new w1 30 #[.slice C m dd]) (hx.out.below HS2.out.blw) hm.out)
  generalize w1.alloc (.cells #[.slice C m dd] 30) = w2 at HS2 HT2 ⊢
  generalize w1.heap.size = b23 at HS2 HT2 ⊢
  clear HS1
  refine (few_c Ad nd cd Nd _ 1 1 _ w2 hnd (Lib.hid (by unfold maxLen; omega)) HT2).mono ?_
  rintro e w4 ⟨r, rfl, hr, hb4⟩
  have HS4 := Lib.hid (HS2.out.next hb4)
  have HFR := Lib.hid hr
  clear hr hb4 HS2 HT2
  cases r with
  | false =>
    go_wp2
    go_ret
    exact ⟨rfl, HS4.out.blw⟩
  | true =>
  have hnd9 : nd ≤ 9000 := (HFR.out rfl).1
  clear HFR
  obtain ⟨x1, x2, x3, x4, x5⟩ := blk5 (HS4.out.b (b3, 27, #[.int .u32 (low : Int), .int .u32 (high : Int), .int .i64 wt, .slice Ad nd cd, .int .i64 Nd]) (by simp))
  go_wp2_with fail
  clear x1 x2 x3 x4 x5
  refine (rcopy_any Ad nd cd Nd bd w4 (hrd.out.below HS4.out.blw) (by omega)).mono ?_
  rintro e w5 ⟨Aw, nw, cw, rfl, how, hb5⟩
  have HS5 := Lib.hid (((HS4.out.next hb5).rd (rd_own how hrd.out.2.1)).new rfl #[.slice Aw nw cw, .int .i64 Nd] 25)
  have HL5 := Lib.hid (show b3 + 1 < w5.heap.size from ((HS4.out.next hb5).b (b3 + 1, 30, #[.slice C m dd]) (by simp)).lt)
  have HLW := Lib.hid (show ∀ ad, Aw = some ad → 0 < nw → ad.block < w5.heap.size from fun ad ha h0 => (rd_own how hrd.out.2.1).lies h0 ad ha)
  clear hb5 how HS4
  obtain ⟨x1, x2, x3, x4, x5⟩ := blk5 (HS5.out.b (b3, 27, #[.int .u32 (low : Int), .int .u32 (high : Int), .int .i64 wt, .slice Ad nd cd, .int .i64 Nd]) (by simp))
  have x7 := Fq.blk0 (HS5.out.b (b3 + 1, 30, #[.slice C m dd]) (by simp))
  have l5 := HL5.out
  have l5' : b3 < w5.heap.size := by omega
  go_wp2_with fail
  clear x1 x2 x3 x4 x5 x7 l5 l5'
  obtain ⟨b8, hb8⟩ : ∃ b8, b8 = w5.heap.size := ⟨_, rfl⟩
  have HB8 := Lib.hid (show b8 < (w5.alloc (.cells #[.slice Aw nw cw, .int .i64 Nd] 25)).heap.size by rw [hb8]; simp)
  generalize w5.alloc (.cells #[.slice Aw nw cw, .int .i64 Nd] 25) = w6 at HS5 HB8 ⊢
  rw [← hb8] at HS5 HL5 HLW ⊢
  clear hb8
  refine (HPU.out w6 Ad nd cd (hrd.out.below HS5.out.blw) (hx.out.below HS5.out.blw)).1.mono ?_
  rintro e w7 ⟨Ax, nx, cx, rfl, hb7, hr7, hf7⟩
  unfold encV
  have nx1 : nx ≤ 8192 := by rw [← hr7.1]; exact hbs1
  have HX7 := Lib.hid (fr_wr (hf7.next ((Below.refl w7.heap.size w7).alloc (Nat.le_refl _) (.cells #[.int .u32 (lo1 : Int), .int .u32 (hi1 : Int), .int .i64 wt1, .slice Ax nx cx, .int .i64 N1] 27))) hr7.2.1 (Nat.le_refl _))
  have HS7 := Lib.hid (((HS5.out.next hb7).rd hr7).new rfl #[.int .u32 (lo1 : Int), .int .u32 (hi1 : Int), .int .i64 wt1, .slice Ax nx cx, .int .i64 N1] 27)
  have HL7 := Lib.hid (show b8 < w7.heap.size from Nat.lt_of_lt_of_le HB8.out hb7.size)
  have h68 : w6.heap.size ≤ (w7.alloc (.cells #[.int .u32 (lo1 : Int), .int .u32 (hi1 : Int), .int .i64 wt1, .slice Ax nx cx, .int .i64 N1] 27)).heap.size := by have := hb7.size; simp; omega
  clear hb7 hr7 hf7 HS5
  obtain ⟨x1, x2, x3, x4, x5⟩ := blk5 (HS7.out.b (b3, 27, #[.int .u32 (low : Int), .int .u32 (high : Int), .int .i64 wt, .slice Ad nd cd, .int .i64 Nd]) (by simp))
  have x7 := Fq.blk0 (HS7.out.b (b3 + 1, 30, #[.slice C m dd]) (by simp))
  have l5 : b3 + 1 < w7.heap.size := by have := HL5.out; have := HL7.out; omega
  have l5' : b3 < w7.heap.size := by omega
  go_wp2_with fail
  clear x1 x2 x3 x4 x5 x7 l5 l5'
  obtain ⟨b9, hb9⟩ : ∃ b9, b9 = w7.heap.size := ⟨_, rfl⟩
  have HB9 := Lib.hid (show b9 < (w7.alloc (.cells #[.int .u32 (lo1 : Int), .int .u32 (hi1 : Int), .int .i64 wt1, .slice Ax nx cx, .int .i64 N1] 27)).heap.size by rw [hb9]; simp)
  generalize w7.alloc (.cells #[.int .u32 (lo1 : Int), .int .u32 (hi1 : Int), .int .i64 wt1, .slice Ax nx cx, .int .i64 N1] 27) = w8 at HS7 HX7 HB9 h68 ⊢
  rw [← hb9] at HS7 HL7 ⊢
  clear hb9
  obtain ⟨H6, hH6⟩ : ∃ H6, H6 = w6.heap.size := ⟨_, rfl⟩
  rw [← hH6] at HB8 HX7
  obtain ⟨H8, hH8⟩ : ∃ H8, H8 = w8.heap.size := ⟨_, rfl⟩
  rw [← hH8] at HX7
  have HH8 := Lib.hid hH8
  have HX0 := Lib.hid (show H6 ≤ H8 by rw [hH6, hH8]; exact h68)
  have HH6 := Lib.hid (show w.heap.size ≤ H6 by rw [hH6]; have := HB3.out; have := HL5.out; have := HB8.out; omega)
  clear hH6 hH8 h68
  refine (HPU.out w8 Ad nd cd (hrd.out.below HS7.out.blw) (hx.out.below HS7.out.blw)).2.mono ?_
  rintro e w9 ⟨Ay, ny, cy, rfl, hb9, hr9⟩
  unfold encV
  have HX9 := Lib.hid ((HX7.out.next hb9).next ((Below.refl w9.heap.size w9).alloc (Nat.le_refl _) (.cells #[.int .u32 (lo1 : Int), .int .u32 (hi1 : Int), .int .i64 wt1, .slice Ay ny cy, .int .i64 N1] 27)))
  have HS9 := Lib.hid (((HS7.out.next hb9).rd hr9).new rfl #[.int .u32 (lo1 : Int), .int .u32 (hi1 : Int), .int .i64 wt1, .slice Ay ny cy, .int .i64 N1] 27)
  have HL9 := Lib.hid (show b9 < w9.heap.size from Nat.lt_of_lt_of_le HB9.out hb9.size)
  have HM9 := Lib.hid (show H8 ≤ w9.heap.size by rw [HH8.out]; exact hb9.size)
  clear hb9 hr9 HS7 HX7
  obtain ⟨x1, x2, x3, x4, x5⟩ := blk5 (HS9.out.b (b3, 27, #[.int .u32 (low : Int), .int .u32 (high : Int), .int .i64 wt, .slice Ad nd cd, .int .i64 Nd]) (by simp))
  have l5' : b3 < w9.heap.size := by have := HL5.out; have := HL7.out; have := HL9.out; omega
  go_wp2_with fail
  clear x1 x2 x3 x4 x5 l5'
  obtain ⟨b11, hb11⟩ : ∃ b11, b11 = w9.heap.size := ⟨_, rfl⟩
  have HB11 := Lib.hid (show b11 < (w9.alloc (.cells #[.int .u32 (lo1 : Int), .int .u32 (hi1 : Int), .int .i64 wt1, .slice Ay ny cy, .int .i64 N1] 27)).heap.size by rw [hb11]; simp)
  generalize w9.alloc (.cells #[.int .u32 (lo1 : Int), .int .u32 (hi1 : Int), .int .i64 wt1, .slice Ay ny cy, .int .i64 N1] 27) = w10 at HS9 HX9 HB11 ⊢
  rw [← hb11] at HS9 HL9 HM9 ⊢
  clear hb11
  refine (HEN.out w10 Ad nd cd (hrd.out.below HS9.out.blw)).1.mono ?_
  rintro e w11 ⟨Ap, np, cp, rfl, hb11, hr11, hf11⟩
  have np1 : np ≤ 8192 := by rw [← hr11.1]; exact hbe1
  have HP11 := Lib.hid (fr_wr (hf11.next ((Below.refl w11.heap.size w11).alloc (Nat.le_refl _) (.cells #[.slice Ap np cp, .int .i64 NE] 25))) hr11.2.1 (Nat.le_refl _))
  have HX11 := Lib.hid ((HX9.out.next hb11).next ((Below.refl w11.heap.size w11).alloc (Nat.le_refl _) (.cells #[.slice Ap np cp, .int .i64 NE] 25)))
  have HS11 := Lib.hid (((HS9.out.next hb11).rd hr11).new rfl #[.slice Ap np cp, .int .i64 NE] 25)
  have HL11 := Lib.hid (show b11 < w11.heap.size from Nat.lt_of_lt_of_le HB11.out hb11.size)
  clear hb11 hr11 hf11 HS9 HX9
  obtain ⟨x1, x2, x3, x4, x5⟩ := blk5 (HS11.out.b (b3, 27, #[.int .u32 (low : Int), .int .u32 (high : Int), .int .i64 wt, .slice Ad nd cd, .int .i64 Nd]) (by simp))
  have l5' : b3 < w11.heap.size := by have := HL5.out; have := HL7.out; have := HL9.out; have := HL11.out; omega
  go_wp2_with fail
  clear x1 x2 x3 x4 x5 l5'
  obtain ⟨b13, hb13⟩ : ∃ b13, b13 = w11.heap.size := ⟨_, rfl⟩
  have HB13 := Lib.hid (show b13 < (w11.alloc (.cells #[.slice Ap np cp, .int .i64 NE] 25)).heap.size by rw [hb13]; simp)
  generalize w11.alloc (.cells #[.slice Ap np cp, .int .i64 NE] 25) = w12 at HS11 HX11 HP11 HB13 ⊢
  rw [← hb13] at HS11 HL11 ⊢
  clear hb13
  obtain ⟨H10, hH10⟩ : ∃ H10, H10 = w10.heap.size := ⟨_, rfl⟩
  rw [← hH10] at HB11 HP11
  have HH10 := Lib.hid (show H8 ≤ H10 by have := HM9.out; have := HB11.out; omega)
  clear hH10
  obtain ⟨H12, hH12⟩ : ∃ H12, H12 = w12.heap.size := ⟨_, rfl⟩
  rw [← hH12] at HP11
  clear hH12
  refine (HEN.out w12 Ad nd cd (hrd.out.below HS11.out.blw)).2.mono ?_
  rintro e w13 ⟨Aq, nq, cq, rfl, hb13, hr13⟩
  have HX13 := Lib.hid ((HX11.out.next hb13).next ((Below.refl w13.heap.size w13).alloc (Nat.le_refl _) (.cells #[.slice Aq nq cq, .int .i64 NE] 25)))
  have HP13 := Lib.hid ((HP11.out.next hb13).next ((Below.refl w13.heap.size w13).alloc (Nat.le_refl _) (.cells #[.slice Aq nq cq, .int .i64 NE] 25)))
  have HS13 := Lib.hid (((HS11.out.next hb13).rd hr13).new rfl #[.slice Aq nq cq, .int .i64 NE] 25)
  have HL13 := Lib.hid (show b13 < w13.heap.size from Nat.lt_of_lt_of_le HB13.out hb13.size)
  clear hb13 hr13 HS11 HX11 HP11
  obtain ⟨x1, x2, x3, x4, x5⟩ := blk5 (HS13.out.b (b9, 27, #[.int .u32 (lo1 : Int), .int .u32 (hi1 : Int), .int .i64 wt1, .slice Ax nx cx, .int .i64 N1]) (by simp))
  obtain ⟨y1, y2, y3, y4, y5⟩ := blk5 (HS13.out.b (b11, 27, #[.int .u32 (lo1 : Int), .int .u32 (hi1 : Int), .int .i64 wt1, .slice Ay ny cy, .int .i64 N1]) (by simp))
  have l1 : b9 < w13.heap.size := by have := HL9.out; have := HL11.out; have := HL13.out; omega
  have l2 : b11 < w13.heap.size := by have := HL11.out; have := HL13.out; omega
  go_wp2_with fail
  clear x1 x2 x3 x4 x5 y1 y2 y3 y4 y5 l1 l2
  generalize w13.alloc (.cells #[.slice Aq nq cq, .int .i64 NE] 25) = w14 at HS13 HX13 HP13 ⊢
  obtain ⟨b15, hb15⟩ : ∃ b15, b15 = w13.heap.size := ⟨_, rfl⟩
  rw [← hb15] at HS13 HL13 ⊢
  clear hb15
  have hcon := sameEnc_yes lo1 hi1 wt1 Ax Ay nx ny cx cy N1 bs1 w14 (Lib.hid (HS13.out.r (Ax, nx, bs1) (by simp))) (Lib.hid (HS13.out.r (Ay, ny, bs1) (by simp)))
  unfold encV at hcon
  refine hcon.mono ?_
  clear hcon
  rintro e w15 ⟨rfl, hb15⟩
  have HS15 := Lib.hid (HS13.out.next hb15)
  have HX15 := Lib.hid (HX13.out.next hb15)
  have HP15 := Lib.hid (HP13.out.next hb15)
  clear hb15 HS13 HX13 HP13
  have e2 : (E1 != E1) = false := by simp
  obtain ⟨x1, x2, -, -⟩ := blk2 (HS15.out.b (b13, 25, #[.slice Ap np cp, .int .i64 NE]) (by simp))
  obtain ⟨y1, y2, -, -⟩ := blk2 (HS15.out.b (b15, 25, #[.slice Aq nq cq, .int .i64 NE]) (by simp))
  go_wp2_with fail
  clear x1 x2 y1 y2
  refine (same_yes Ap Aq np nq cp cq NE be w15 (Lib.hid (HS15.out.r (Ap, np, be) (by simp))) (Lib.hid (HS15.out.r (Aq, nq, be) (by simp)))).mono ?_
  rintro e w16 ⟨rfl, hb16⟩
  have HS16 := Lib.hid (HS15.out.next hb16)
  have HX16 := Lib.hid (HX15.out.next hb16)
  have HP16 := Lib.hid (HP15.out.next hb16)
  clear hb16 HS15 HX15 HP15
  have e3 : (EE != EE) = false := by simp
  go_wp2_with fail
  refine (begin_any w16).mono ?_
  rintro e w17 ⟨rfl, hb17⟩
  have HS17 := Lib.hid (HS16.out.next hb17)
  have HX17 := Lib.hid (HX16.out.next hb17)
  have HP17 := Lib.hid (HP16.out.next hb17)
  clear hb17 HS16 HX16 HP16
  unfold encV
  go_wp2_with fail
  have hcon := rbegin_any w17
  unfold encV at hcon
  refine hcon.mono ?_
  clear hcon
  rintro e w18 ⟨rfl, hb18⟩
  have HS18 := Lib.hid (HS17.out.next hb18)
  have HX18 := Lib.hid (HX17.out.next hb18)
  have HP18 := Lib.hid (HP17.out.next hb18)
  clear hb18 HS17 HX17 HP17
  go_wp2_with fail
  have hcon := sameEnc_yes 0 4294967295 0 none none 0 0 0 0 0 [] w18 (Lib.hid Rd.none_) (Lib.hid Rd.none_)
  unfold encV at hcon
  refine hcon.mono ?_
  clear hcon
  rintro e w19 ⟨rfl, hb19⟩
  have HS19 := Lib.hid ((HS18.out.next hb19).sub (Ls2 := [(b3, 27, #[.int .u32 (low : Int), .int .u32 (high : Int), .int .i64 wt, .slice Ad nd cd, .int .i64 Nd]), (b8, 25, #[.slice Aw nw cw, .int .i64 Nd]), (b9, 27, #[.int .u32 (lo1 : Int), .int .u32 (hi1 : Int), .int .i64 wt1, .slice Ax nx cx, .int .i64 N1]), (b13, 25, #[.slice Ap np cp, .int .i64 NE])]) (Rs2 := [(Aw, nw, bd)]) (by
    intro q hq
    simp only [List.mem_cons, List.mem_nil_iff, or_false] at hq
    rcases hq with rfl | rfl | rfl | rfl <;> simp) (by
    intro q hq
    simp only [List.mem_cons, List.mem_nil_iff, or_false] at hq
    subst hq
    simp))
  have HX19 := Lib.hid (HX18.out.next hb19)
  have HP19 := Lib.hid (HP18.out.next hb19)
  clear hb19 HS18 HX18 HP18
  obtain ⟨x1, x2, x3, x4, x5⟩ := blk5 (HS19.out.b (b9, 27, #[.int .u32 (lo1 : Int), .int .u32 (hi1 : Int), .int .i64 wt1, .slice Ax nx cx, .int .i64 N1]) (by simp))
  go_wp2
  clear x1 x2 x3 x4 x5
  have HNE := Lib.hid (show ∀ q ∈ ([(b3, 27, #[.int .u32 (low : Int), .int .u32 (high : Int), .int .i64 wt, .slice Ad nd cd, .int .i64 Nd]), (b8, 25, #[.slice Aw nw cw, .int .i64 Nd]), (b9, 27, #[.int .u32 (lo1 : Int), .int .u32 (hi1 : Int), .int .i64 wt1, .slice Ax nx cx, .int .i64 N1]), (b13, 25, #[.slice Ap np cp, .int .i64 NE])] : List (Nat × TypeId × Array Value)), q.2.1 ≠ 5 by
    intro q hq
    simp only [List.mem_cons, List.mem_nil_iff, or_false] at hq
    rcases hq with rfl | rfl | rfl | rfl <;> (dsimp only; decide))
  go_loopw [84] (fun v wr => ∃ k : Nat, v = .int .i64 (k : Int) ∧ k ≤ nx ∧ Hid (KB w [(b3, 27, #[.int .u32 (low : Int), .int .u32 (high : Int), .int .i64 wt, .slice Ad nd cd, .int .i64 Nd]), (b8, 25, #[.slice Aw nw cw, .int .i64 Nd]), (b9, 27, #[.int .u32 (lo1 : Int), .int .u32 (hi1 : Int), .int .i64 wt1, .slice Ax nx cx, .int .i64 N1]), (b13, 25, #[.slice Ap np cp, .int .i64 NE])] [(Aw, nw, bd)] wr ∧ Wr Ax nx H6 H8 wr ∧ Wr Ap np H10 H12 wr)) (fun v _ => nx - (intOf v).toNat)
  case atStart => exact ⟨0, rfl, by omega, Lib.hid ⟨HS19.out, HX19.out, HP19.out⟩⟩
  case round =>
    obtain ⟨k, rfl, hk, HZ⟩ := hrel
    clear HS19 HX19 HP19
    by_cases hlt : k < nx
    · obtain ⟨hkb, hwx, hwp⟩ := HZ.out
      rcases hwx with h0 | ⟨g, bs', rfl, g1, g2, g3, g4, g5⟩
      · omega
      · have HKB := Lib.hid hkb
        have HWP := Lib.hid hwp
        have HG4 := Lib.hid g4
        have HG5 := Lib.hid g5
        have HG3 := Lib.hid g3
        clear hkb hwp g4 g5 HZ
        obtain ⟨v, hv⟩ : ∃ v, v = bs'.getD k 0 := ⟨_, rfl⟩
        have c1 : wr.cell? ⟨g, k, none⟩ = some (.int .u8 (v : Int)) := by rw [hv]; exact (HG5.out.cell k).trans (bcells_get (by omega))
        have c2 := HG5.out.frozen k
        have HV := Lib.hid hv
        have ev := u8_inc v
        have vb : v < 256 := by
          rw [hv]
          have : bs'.getD k 0 ∈ bs' := by
            have e : bs'.getD k 0 = bs'[k]'(by omega) := by simp [List.getD_eq_getElem?_getD, show k < bs'.length by omega]
            rw [e]; exact List.getElem_mem _
          exact HG4.out _ this
        clear hv g3
        obtain ⟨-, -, -, x4, -⟩ := blk5 (HKB.out.b (b9, 27, #[.int .u32 (lo1 : Int), .int .u32 (hi1 : Int), .int .i64 wt1, .slice (some ⟨g, 0, none⟩) nx cx, .int .i64 N1]) (by simp))
        go_wp2
        rw [inc_cast]
        refine ⟨⟨k + 1, by go_num, by omega, Lib.hid ⟨HKB.out.put1 HG5.out (by have := HH6.out; omega) HNE.out (by
          intro q hq ad ha h0
          simp only [List.mem_cons, List.mem_nil_iff, or_false] at hq
          subst hq
          have := HLW.out ad ha h0
          have := HB8.out
          omega) k _, Wr.put g1 g2 HG3.out HG4.out HG5.out k _ (Nat.mod_lt _ (by omega)), HWP.out.far (.inl (by have := HH10.out; omega)) k _⟩⟩, by simp [intOf]; omega⟩
    · have HS20 := Lib.hid HZ.out.1
      have HP20 := Lib.hid HZ.out.2.2
      clear HZ
      obtain ⟨x1, x2, -, -⟩ := blk2 (HS20.out.b (b13, 25, #[.slice Ap np cp, .int .i64 NE]) (by simp))
      go_wp2
      clear x1 x2
      go_loopw [99] (fun v wr => ∃ k : Nat, v = .int .i64 (k : Int) ∧ k ≤ np ∧ Hid (KB w [(b3, 27, #[.int .u32 (low : Int), .int .u32 (high : Int), .int .i64 wt, .slice Ad nd cd, .int .i64 Nd]), (b8, 25, #[.slice Aw nw cw, .int .i64 Nd]), (b9, 27, #[.int .u32 (lo1 : Int), .int .u32 (hi1 : Int), .int .i64 wt1, .slice Ax nx cx, .int .i64 N1]), (b13, 25, #[.slice Ap np cp, .int .i64 NE])] [(Aw, nw, bd)] wr ∧ Wr Ap np H10 H12 wr)) (fun v _ => np - (intOf v).toNat)
      case atStart => exact ⟨0, rfl, by omega, Lib.hid ⟨HS20.out, HP20.out⟩⟩
      case round =>
        obtain ⟨k, rfl, hk, HZ⟩ := hrel
        clear HS20 HP20
        by_cases hlt : k < np
        · obtain ⟨hkb, hwp⟩ := HZ.out
          rcases hwp with h0 | ⟨g, bs', rfl, g1, g2, g3, g4, g5⟩
          · omega
          · have HKB := Lib.hid hkb
            have HG4 := Lib.hid g4
            have HG5 := Lib.hid g5
            have HG3 := Lib.hid g3
            clear hkb g4 g5 HZ
            obtain ⟨v, hv⟩ : ∃ v, v = bs'.getD k 0 := ⟨_, rfl⟩
            have c1 : wr.cell? ⟨g, k, none⟩ = some (.int .u8 (v : Int)) := by rw [hv]; exact (HG5.out.cell k).trans (bcells_get (by omega))
            have c2 := HG5.out.frozen k
            have ev := u8_inc v
            have vb : v < 256 := by
              rw [hv]
              have : bs'.getD k 0 ∈ bs' := by
                have e : bs'.getD k 0 = bs'[k]'(by omega) := by simp [List.getD_eq_getElem?_getD, show k < bs'.length by omega]
                rw [e]; exact List.getElem_mem _
              exact HG4.out _ this
            clear hv g3
            obtain ⟨x4, -, -, -⟩ := blk2 (HKB.out.b (b13, 25, #[.slice (some ⟨g, 0, none⟩) np cp, .int .i64 NE]) (by simp))
            go_wp2
            rw [inc_cast]
            refine ⟨⟨k + 1, by go_num, by omega, Lib.hid ⟨HKB.out.put1 HG5.out (by have := HH6.out; have := HH10.out; have := HX0.out; omega) HNE.out (by
              intro q hq ad ha h0
              simp only [List.mem_cons, List.mem_nil_iff, or_false] at hq
              subst hq
              have := HLW.out ad ha h0
              have := HB8.out
              have := HH10.out
              have := HX0.out
              omega) k _, Wr.put g1 g2 HG3.out HG4.out HG5.out k _ (Nat.mod_lt _ (by omega))⟩⟩, by simp [intOf]; omega⟩
        · have HS21 := Lib.hid HZ.out.1
          clear HZ
          obtain ⟨-, -, -, x4, x5⟩ := blk5 (HS21.out.b (b3, 27, #[.int .u32 (low : Int), .int .u32 (high : Int), .int .i64 wt, .slice Ad nd cd, .int .i64 Nd]) (by simp))
          obtain ⟨y1, y2, -, -⟩ := blk2 (HS21.out.b (b8, 25, #[.slice Aw nw cw, .int .i64 Nd]) (by simp))
          go_wp2_with fail
          refine (same_yes Ad Aw nd nw cd cw Nd bd wr (Lib.hid (hrd.out.below HS21.out.blw)) (Lib.hid (HS21.out.r (Aw, nw, bd) (by simp)))).mono ?_
          rintro e w22 ⟨rfl, hb22⟩
          have HS22 := Lib.hid (HS21.out.next hb22)
          clear hb22 x4 x5 y1 y2
          go_wp2
          go_ret
          exact ⟨rfl, HS22.out.blw⟩
end Go.Proofs.Ytgelgbfnioagbaa.Cd
