/-
  Own texts, laid together: Ig.
-/
import Derived.Test.YtgelgbfnioagbaaIf
import Derived.Test.YtgelgbfnioagbaaGv
/- Ig -/
namespace Go.Proofs.Ytgelgbfnioagbaa.Cd
open Go.RowKit
/-- blocks that stay, and bytes that are read -/
structure KB (w : World) (Ls : List (Nat × TypeId × Array Value)) (Rs : List (Option Addr × Nat × List Nat)) (u : World) : Prop where
  b : ∀ q ∈ Ls, Blk u q.1 q.2.1 q.2.2
  r : ∀ q ∈ Rs, Rd u q.1 q.2.1 q.2.2
  blw : Below w.heap.size w u
section
variable {w : World} {Ls : List (Nat × TypeId × Array Value)} {Rs : List (Option Addr × Nat × List Nat)} {u u' : World}
theorem KB.next (h : KB w Ls Rs u) (hb : Below u.heap.size u u') : KB w Ls Rs u' :=
  ⟨fun q hq => (h.b q hq).below hb (h.b q hq).lt, fun q hq => (h.r q hq).below hb, h.blw.trans (hb.mono h.blw.size)⟩
theorem KB.alloc (h : KB w Ls Rs u) (o : Obj) : KB w Ls Rs (u.alloc o) := h.next ((Below.refl u.heap.size u).alloc (Nat.le_refl _) o)
theorem KB.new (h : KB w Ls Rs u) {g : Nat} (hg : g = u.heap.size) (cs : Array Value) (t : TypeId) : KB w ((g, t, cs) :: Ls) Rs (u.alloc (.cells cs t)) := by
  have h2 := h.alloc (.cells cs t)
  refine ⟨fun q hq => ?_, h2.r, h2.blw⟩
  rcases List.mem_cons.1 hq with e | e
  · subst e; exact Blk.newAt hg
  · exact h2.b q e
theorem KB.rd (h : KB w Ls Rs u) {A : Option Addr} {n : Nat} {bs : List Nat} (hr : Rd u A n bs) : KB w Ls ((A, n, bs) :: Rs) u :=
  ⟨h.b, fun q hq => by
    rcases List.mem_cons.1 hq with e | e
    · subst e; exact hr
    · exact h.r q e, h.blw⟩
theorem KB.drewN (h : KB w Ls Rs u) (q : Nat) : KB w Ls Rs (u.drewN q) := ⟨h.b, h.r, below_drewN h.blw q⟩
theorem KB.put6 {Ls2 : List (Nat × TypeId × Array Value)} {g : Nat} {t : TypeId} {a0 a1 a2 a4 a5 : Int} {v0 : Option Addr} {v1 v2 : Nat} (h : KB w Ls Rs u) (hb : Blk u g t #[.int .u32 a0, .int .u32 a1, .int .u32 a2, .slice v0 v1 v2, .int .i64 a4, .int .i64 a5]) (hg : w.heap.size ≤ g) (hs : ∀ q ∈ Ls2, q ∈ Ls) (hne : ∀ q ∈ Ls2, q.1 ≠ g) (x0 x1 x2 x3 x4 x5 : Value) :
    KB w ((g, t, #[x0, x1, x2, x3, x4, x5]) :: Ls2) Rs ((((((u.setCell ⟨g, 0, none⟩ x0).setCell ⟨g, 1, none⟩ x1).setCell ⟨g, 2, none⟩ x2).setCell ⟨g, 3, none⟩ x3).setCell ⟨g, 4, none⟩ x4).setCell ⟨g, 5, none⟩ x5) := by
  refine ⟨fun q hq => ?_, fun q hq => rd_six (h.r q hq) hb x0 x1 x2 x3 x4 x5, below6 h.blw hg _ _ _ _ _ _⟩
  rcases List.mem_cons.1 hq with e | e
  · subst e
    exact ((((((hb.set_ 0 x0).set_ 1 x1).set_ 2 x2).set_ 3 x3).set_ 4 x4).set_ 5 x5)
  · have hn := hne q e
    have := h.b q (hs q e)
    exact (((((this.far hn x0).far hn x1).far hn x2).far hn x3).far hn x4).far hn x5
end
theorem rdT_one {u : World} {g : Nat} {C : Option Addr} {m dd : Nat} {xs : List Int} (hb : Blk u g 30 #[.slice C m dd]) (hx : Fq.RdI u C m xs) (hm : m ≤ maxLen) : RdT u (some ⟨g, 0, none⟩) 1 [⟨C, m, dd, xs⟩] := by
  refine ⟨rfl, fun _ => ⟨_, rfl, fun j t ht => ?_⟩⟩
  have hj : j = 0 := by
    obtain ⟨hk, _⟩ := List.getElem?_eq_some_iff.1 ht
    have hk' : j < 1 := hk
    omega
  subst hj
  injection ht with ht
  subst ht
  exact ⟨hb.cell 0, hx, hm⟩
/-- bytes of one's own are read -/
theorem rd_own {w : World} {base n c : Nat} {A : Option Addr} {bs : List Nat} (h : w.ownsRow base 5 1 (.slice A n c) n (bs.map byteV)) (hlt : ∀ x ∈ bs, x < 256) : Rd w A n bs := by
  have hl : bs.length = n := by have := h.1; simpa using this
  refine ⟨hl, hlt, fun hn => ?_⟩
  rcases h.2 with ⟨e, h0⟩ | ⟨g, cap, cur, e, _⟩
  · omega
  · injection e with e1
    subst e1
    exact ⟨_, rfl, fun j x hx => World.ownsRow.cells h (g := g) rfl j (byteV x) (by rw [List.getElem?_map, hx]; rfl)⟩
set_option maxRecDepth 100000 in
set_option maxHeartbeats 8000000 in
theorem nexts_law (low high code : Nat) (Ad : Option Addr) (nd cd : Nat) (Nd Atd : Int) (bd : List Nat) (Ab : Option Addr) (nb cb : Nat) (Nb : Int) (bb : List Nat) (C : Option Addr) (m dd : Nat) (xs : List Int) (w : World) (hl : low < 4294967296) (hh : high < 4294967296) (hc : code < 4294967296) (hnd : Hid (nd ≤ maxLen)) (hnb : Hid (nb ≤ maxLen)) (hm : Hid (m ≤ maxLen)) (hrd : Hid (Rd w Ad nd bd)) (hrb : Hid (Rd w Ab nb bb)) (hx : Hid (Fq.RdI w C m xs)) :
    Calls Try.prog 4 #[decV low high code Ad nd cd Nd Atd, .agg #[.slice Ab nb cb, .int .i64 Nb], .agg #[.slice C m dd]] w fun e w' => e = .returned (.bool true) ∧ Below w.heap.size w w' := by
  have HS0 := Lib.hid (show KB w [(w.heap.size + 1 + 1, 30, #[.slice C m dd]), (w.heap.size + 1, 25, #[.slice Ab nb cb, .int .i64 Nb]), (w.heap.size, 45, #[.int .u32 (low : Int), .int .u32 (high : Int), .int .u32 (code : Int), .slice Ad nd cd, .int .i64 Nd, .int .i64 Atd])] [] (((w.alloc (.cells #[.int .u32 (low : Int), .int .u32 (high : Int), .int .u32 (code : Int), .slice Ad nd cd, .int .i64 Nd, .int .i64 Atd] 45)).alloc (.cells #[.slice Ab nb cb, .int .i64 Nb] 25)).alloc (.cells #[.slice C m dd] 30)) from
    (((KB.mk (by simp) (by simp) (Below.refl w.heap.size w)).new rfl _ _).new (by simp) _ _).new (by simp) _ _)
  obtain ⟨lo1, hi1, co1, At1, N1, K1, E1, bs1, hnext1⟩ := next_both low high code Nd Atd bd C m dd xs hl hh hc hrd.out.2.1 hm.out
  obtain ⟨lo2, hi2, co2, At2, N2, E2, bs2, hb21, hb22, hb23, hb24, hstart⟩ := start_both Nb bb hrb.out.2.1
  obtain ⟨lo3, hi3, co3, At3, N3, K3, E3, bs3, hnext3⟩ := next_both lo2 hi2 co2 N2 At2 bs2 C m dd xs hb21 hb22 hb23 hb24 hm.out
  have HN1 := Lib.hid hnext1
  have HST := Lib.hid hstart
  have HN3 := Lib.hid hnext3
  clear hnext1 hstart hnext3 hb21 hb22 hb23 hb24
  unfold decV at HN1 HN3 ⊢
  go_enter Try.func4, Try.ntmps4
  go_wp2_with fail
  generalize ((w.alloc (.cells #[.int .u32 (low : Int), .int .u32 (high : Int), .int .u32 (code : Int), .slice Ad nd cd, .int .i64 Nd, .int .i64 Atd] 45)).alloc (.cells #[.slice Ab nb cb, .int .i64 Nb] 25)).alloc (.cells #[.slice C m dd] 30) = w0 at HS0 ⊢
  obtain ⟨b3, hb3⟩ : ∃ b3, b3 = w.heap.size := ⟨_, rfl⟩
  rw [← hb3] at HS0 ⊢
  have HB3 := Lib.hid (show w.heap.size ≤ b3 by omega)
  clear hb3
  refine (live_c w0).mono ?_
  rintro e w1 ⟨rfl, hb1⟩
  have HS1 := Lib.hid (HS0.out.next hb1)
  clear hb1 HS0
  obtain ⟨x1, x2, x3, x4, x5, x6⟩ := blk6 (HS1.out.b (b3, 45, #[.int .u32 (low : Int), .int .u32 (high : Int), .int .u32 (code : Int), .slice Ad nd cd, .int .i64 Nd, .int .i64 Atd]) (by simp))
  have x7 := Fq.blk0 (HS1.out.b (b3 + 1 + 1, 30, #[.slice C m dd]) (by simp))
  go_wp2_with fail
  clear x1 x2 x3 x4 x5 x6 x7
  have HS2 := Lib.hid (HS1.out.new rfl #[.slice C m dd] 30)
  have HT2 := Lib.hid (rdT_one (xs := xs) (Blk.new w1 30 #[.slice C m dd]) (hx.out.below HS2.out.blw) hm.out)
  generalize w1.alloc (.cells #[.slice C m dd] 30) = w2 at HS2 HT2 ⊢
  generalize w1.heap.size = b23 at HS2 HT2 ⊢
  clear HS1
  refine (few_c Ad nd cd Nd _ 1 1 _ w2 hnd (Lib.hid (by unfold maxLen; omega)) HT2).mono ?_
  rintro e w3 ⟨r, rfl, hr, hb3⟩
  have HS3 := Lib.hid (HS2.out.next hb3)
  have HFR := Lib.hid hr
  clear hr hb3 HS2 HT2
  cases r with
  | false =>
    go_wp2
    go_ret
    exact ⟨rfl, HS3.out.blw⟩
  | true =>
  have hnd9 : nd ≤ 9000 := (HFR.out rfl).1
  clear HFR
  obtain ⟨x1, x2, -, -⟩ := blk2 (HS3.out.b (b3 + 1, 25, #[.slice Ab nb cb, .int .i64 Nb]) (by simp))
  go_wp2_with fail
  clear x1 x2
  refine (few_c Ab nb cb Nb none 0 0 [] w3 hnb (Lib.hid (by unfold maxLen; omega)) (Lib.hid RdT.none_)).mono ?_
  rintro e w4 ⟨r, rfl, -, hb4⟩
  have HS4 := Lib.hid (HS3.out.next hb4)
  clear hb4 HS3
  cases r with
  | false =>
    go_wp2
    go_ret
    exact ⟨rfl, HS4.out.blw⟩
  | true =>
  obtain ⟨x1, x2, x3, x4, x5, x6⟩ := blk6 (HS4.out.b (b3, 45, #[.int .u32 (low : Int), .int .u32 (high : Int), .int .u32 (code : Int), .slice Ad nd cd, .int .i64 Nd, .int .i64 Atd]) (by simp))
  go_wp2_with fail
  clear x1 x2 x3 x4 x5 x6
  refine (rcopy_any Ad nd cd Nd bd w4 (hrd.out.below HS4.out.blw) (by omega)).mono ?_
  rintro e w5 ⟨Aw, nw, cw, rfl, how, hb5⟩
  have HS5 := Lib.hid (((HS4.out.next hb5).rd (rd_own how hrd.out.2.1)).new rfl #[.slice Aw nw cw, .int .i64 Nd] 25)
  have HL5 := Lib.hid (show b3 + 1 + 1 < w5.heap.size from ((HS4.out.next hb5).b (b3 + 1 + 1, 30, #[.slice C m dd]) (by simp)).lt)
  clear hb5 how HS4
  obtain ⟨x1, x2, x3, x4, x5, x6⟩ := blk6 (HS5.out.b (b3, 45, #[.int .u32 (low : Int), .int .u32 (high : Int), .int .u32 (code : Int), .slice Ad nd cd, .int .i64 Nd, .int .i64 Atd]) (by simp))
  have x7 := Fq.blk0 (HS5.out.b (b3 + 1 + 1, 30, #[.slice C m dd]) (by simp))
  have l5 := HL5.out
  have l5' : b3 < w5.heap.size := by omega
  go_wp2_with fail
  clear x1 x2 x3 x4 x5 x6 x7 l5 l5'
  generalize w5.alloc (.cells #[.slice Aw nw cw, .int .i64 Nd] 25) = w6 at HS5 ⊢
  obtain ⟨b8, hb8⟩ : ∃ b8, b8 = w5.heap.size := ⟨_, rfl⟩
  rw [← hb8] at HS5 HL5 ⊢
  clear hb8
  refine (HN1.out w6 Ad nd cd (hrd.out.below HS5.out.blw) (hx.out.below HS5.out.blw)).1.mono ?_
  rintro e w7 ⟨Ax, nx, cx, rfl, hb7, hr7⟩
  unfold decV
  have HS7 := Lib.hid (((HS5.out.next hb7).rd hr7).new rfl #[.int .u32 (lo1 : Int), .int .u32 (hi1 : Int), .int .u32 (co1 : Int), .slice Ax nx cx, .int .i64 N1, .int .i64 At1] 45)
  have HL7 := Lib.hid (show b8 < w7.heap.size from ((HS5.out.next hb7).b (b8, 25, #[.slice Aw nw cw, .int .i64 Nd]) (by simp)).lt)
  clear hb7 hr7 HS5
  obtain ⟨x1, x2, x3, x4, x5, x6⟩ := blk6 (HS7.out.b (b3, 45, #[.int .u32 (low : Int), .int .u32 (high : Int), .int .u32 (code : Int), .slice Ad nd cd, .int .i64 Nd, .int .i64 Atd]) (by simp))
  have x7 := Fq.blk0 (HS7.out.b (b3 + 1 + 1, 30, #[.slice C m dd]) (by simp))
  have l5 : b3 + 1 + 1 < w7.heap.size := by have := HL5.out; have := HL7.out; omega
  have l5' : b3 < w7.heap.size := by omega
  go_wp2_with fail
  clear x1 x2 x3 x4 x5 x6 x7 l5 l5'
  generalize w7.alloc (.cells #[.int .u32 (lo1 : Int), .int .u32 (hi1 : Int), .int .u32 (co1 : Int), .slice Ax nx cx, .int .i64 N1, .int .i64 At1] 45) = w8 at HS7 ⊢
  obtain ⟨b9, hb9⟩ : ∃ b9, b9 = w7.heap.size := ⟨_, rfl⟩
  rw [← hb9] at HS7 HL7 ⊢
  clear hb9
  refine (HN1.out w8 Ad nd cd (hrd.out.below HS7.out.blw) (hx.out.below HS7.out.blw)).2.mono ?_
  rintro e w9 ⟨Ay, ny, cy, rfl, hb9, hr9⟩
  unfold decV
  have HS9 := Lib.hid (((HS7.out.next hb9).rd hr9).new rfl #[.int .u32 (lo1 : Int), .int .u32 (hi1 : Int), .int .u32 (co1 : Int), .slice Ay ny cy, .int .i64 N1, .int .i64 At1] 45)
  have HL9 := Lib.hid (show b9 < w9.heap.size from ((HS7.out.next hb9).b (b9, 45, #[.int .u32 (lo1 : Int), .int .u32 (hi1 : Int), .int .u32 (co1 : Int), .slice Ax nx cx, .int .i64 N1, .int .i64 At1]) (by simp)).lt)
  clear hb9 hr9 HS7
  obtain ⟨x1, x2, -, -⟩ := blk2 (HS9.out.b (b3 + 1, 25, #[.slice Ab nb cb, .int .i64 Nb]) (by simp))
  have l5 : b3 + 1 < w9.heap.size := by have := HL5.out; have := HL7.out; have := HL9.out; omega
  go_wp2_with fail
  clear x1 x2 l5
  generalize w9.alloc (.cells #[.int .u32 (lo1 : Int), .int .u32 (hi1 : Int), .int .u32 (co1 : Int), .slice Ay ny cy, .int .i64 N1, .int .i64 At1] 45) = w10 at HS9 ⊢
  obtain ⟨b12, hb12⟩ : ∃ b12, b12 = w9.heap.size := ⟨_, rfl⟩
  rw [← hb12] at HS9 HL9 ⊢
  clear hb12
  refine (HST.out w10 Ab nb cb (hrb.out.below HS9.out.blw)).1.mono ?_
  rintro e w11 ⟨Ap, np, cp, rfl, hb11, hr11⟩
  unfold decV
  have HS11 := Lib.hid (((HS9.out.next hb11).rd hr11).new rfl #[.int .u32 (lo2 : Int), .int .u32 (hi2 : Int), .int .u32 (co2 : Int), .slice Ap np cp, .int .i64 N2, .int .i64 At2] 45)
  have HL11 := Lib.hid (show b12 < w11.heap.size from ((HS9.out.next hb11).b (b12, 45, #[.int .u32 (lo1 : Int), .int .u32 (hi1 : Int), .int .u32 (co1 : Int), .slice Ay ny cy, .int .i64 N1, .int .i64 At1]) (by simp)).lt)
  clear hb11 hr11 HS9
  obtain ⟨x1, x2, -, -⟩ := blk2 (HS11.out.b (b3 + 1, 25, #[.slice Ab nb cb, .int .i64 Nb]) (by simp))
  have l5 : b3 + 1 < w11.heap.size := by have := HL5.out; have := HL7.out; have := HL9.out; have := HL11.out; omega
  go_wp2_with fail
  clear x1 x2 l5
  generalize w11.alloc (.cells #[.int .u32 (lo2 : Int), .int .u32 (hi2 : Int), .int .u32 (co2 : Int), .slice Ap np cp, .int .i64 N2, .int .i64 At2] 45) = w12 at HS11 ⊢
  obtain ⟨b15, hb15⟩ : ∃ b15, b15 = w11.heap.size := ⟨_, rfl⟩
  rw [← hb15] at HS11 HL11 ⊢
  clear hb15
  refine (HST.out w12 Ab nb cb (hrb.out.below HS11.out.blw)).2.mono ?_
  rintro e w13 ⟨Aq, nq, cq, rfl, hb13, hr13⟩
  unfold decV
  have HS13 := Lib.hid (((HS11.out.next hb13).rd hr13).new rfl #[.int .u32 (lo2 : Int), .int .u32 (hi2 : Int), .int .u32 (co2 : Int), .slice Aq nq cq, .int .i64 N2, .int .i64 At2] 45)
  have HL13 := Lib.hid (show b15 < w13.heap.size from ((HS11.out.next hb13).b (b15, 45, #[.int .u32 (lo2 : Int), .int .u32 (hi2 : Int), .int .u32 (co2 : Int), .slice Ap np cp, .int .i64 N2, .int .i64 At2]) (by simp)).lt)
  clear hb13 hr13 HS11
  obtain ⟨x1, x2, x3, x4, x5, x6⟩ := blk6 (HS13.out.b (b9, 45, #[.int .u32 (lo1 : Int), .int .u32 (hi1 : Int), .int .u32 (co1 : Int), .slice Ax nx cx, .int .i64 N1, .int .i64 At1]) (by simp))
  obtain ⟨y1, y2, y3, y4, y5, y6⟩ := blk6 (HS13.out.b (b12, 45, #[.int .u32 (lo1 : Int), .int .u32 (hi1 : Int), .int .u32 (co1 : Int), .slice Ay ny cy, .int .i64 N1, .int .i64 At1]) (by simp))
  have l1 : b9 < w13.heap.size := by have := HL9.out; have := HL11.out; have := HL13.out; omega
  have l2 : b12 < w13.heap.size := by have := HL11.out; have := HL13.out; omega
  go_wp2_with fail
  clear x1 x2 x3 x4 x5 x6 y1 y2 y3 y4 y5 y6 l1 l2
  generalize w13.alloc (.cells #[.int .u32 (lo2 : Int), .int .u32 (hi2 : Int), .int .u32 (co2 : Int), .slice Aq nq cq, .int .i64 N2, .int .i64 At2] 45) = w14 at HS13 ⊢
  obtain ⟨b17, hb17⟩ : ∃ b17, b17 = w13.heap.size := ⟨_, rfl⟩
  rw [← hb17] at HS13 HL13 ⊢
  clear hb17
  have hcon := sameDec_yes lo1 hi1 co1 Ax Ay nx ny cx cy N1 At1 bs1 w14 (Lib.hid (HS13.out.r (Ax, nx, bs1) (by simp))) (Lib.hid (HS13.out.r (Ay, ny, bs1) (by simp)))
  unfold decV at hcon
  refine hcon.mono ?_
  clear hcon
  rintro e w15 ⟨rfl, hb15⟩
  have HS15 := Lib.hid (HS13.out.next hb15)
  clear hb15 HS13
  have e1 : (K1 != K1) = false := by simp
  have e2 : (E1 != E1) = false := by simp
  obtain ⟨x1, x2, x3, x4, x5, x6⟩ := blk6 (HS15.out.b (b15, 45, #[.int .u32 (lo2 : Int), .int .u32 (hi2 : Int), .int .u32 (co2 : Int), .slice Ap np cp, .int .i64 N2, .int .i64 At2]) (by simp))
  obtain ⟨y1, y2, y3, y4, y5, y6⟩ := blk6 (HS15.out.b (b17, 45, #[.int .u32 (lo2 : Int), .int .u32 (hi2 : Int), .int .u32 (co2 : Int), .slice Aq nq cq, .int .i64 N2, .int .i64 At2]) (by simp))
  go_wp2_with fail
  clear x1 x2 x3 x4 x5 x6 y1 y2 y3 y4 y5 y6
  have hcon := sameDec_yes lo2 hi2 co2 Ap Aq np nq cp cq N2 At2 bs2 w15 (Lib.hid (HS15.out.r (Ap, np, bs2) (by simp))) (Lib.hid (HS15.out.r (Aq, nq, bs2) (by simp)))
  unfold decV at hcon
  refine hcon.mono ?_
  clear hcon
  rintro e w16 ⟨rfl, hb16⟩
  have HS16 := Lib.hid (HS15.out.next hb16)
  clear hb16 HS15
  have e3 : (E2 != E2) = false := by simp
  obtain ⟨x1, x2, x3, x4, x5, x6⟩ := blk6 (HS16.out.b (b15, 45, #[.int .u32 (lo2 : Int), .int .u32 (hi2 : Int), .int .u32 (co2 : Int), .slice Ap np cp, .int .i64 N2, .int .i64 At2]) (by simp))
  have x7 := Fq.blk0 (HS16.out.b (b3 + 1 + 1, 30, #[.slice C m dd]) (by simp))
  go_wp2_with fail
  clear x1 x2 x3 x4 x5 x6 x7
  refine (HN3.out w16 Ap np cp (HS16.out.r (Ap, np, bs2) (by simp)) (hx.out.below HS16.out.blw)).1.mono ?_
  rintro e w17 ⟨Au, nu, cu, rfl, hb17, hr17⟩
  unfold decV
  have HS17 := Lib.hid ((HS16.out.next hb17).rd hr17)
  clear hb17 hr17 HS16
  have HX17 := Lib.hid (HS17.out.b (b9, 45, #[.int .u32 (lo1 : Int), .int .u32 (hi1 : Int), .int .u32 (co1 : Int), .slice Ax nx cx, .int .i64 N1, .int .i64 At1]) (by simp))
  obtain ⟨x1, x2, x3, x4, x5, x6⟩ := blk6 HX17.out
  obtain ⟨z1, z2, z3, z4, z5, z6⟩ := frz6 HX17.out
  obtain ⟨y1, y2, y3, y4, y5, y6⟩ := blk6 (HS17.out.b (b17, 45, #[.int .u32 (lo2 : Int), .int .u32 (hi2 : Int), .int .u32 (co2 : Int), .slice Aq nq cq, .int .i64 N2, .int .i64 At2]) (by simp))
  have x7 := Fq.blk0 (HS17.out.b (b3 + 1 + 1, 30, #[.slice C m dd]) (by simp))
  have n1 : ¬ b17 = b9 := by have := HL9.out; have := HL11.out; have := HL13.out; omega
  have n2 : ¬ b3 + 1 + 1 = b9 := by have := HL5.out; have := HL7.out; omega
  have n1' : ¬ b9 = b17 := fun h => n1 h.symm
  have n2' : ¬ b9 = b3 + 1 + 1 := fun h => n2 h.symm
  go_wp2_with fail
  clear x1 x2 x3 x4 x5 x6 x7 y1 y2 y3 y4 y5 y6 z1 z2 z3 z4 z5 z6 n1 n2 n1' n2'
  have HS18 := Lib.hid (HS17.out.put6 (Ls2 := [(b3, 45, #[.int .u32 (low : Int), .int .u32 (high : Int), .int .u32 (code : Int), .slice Ad nd cd, .int .i64 Nd, .int .i64 Atd]), (b8, 25, #[.slice Aw nw cw, .int .i64 Nd]), (b12, 45, #[.int .u32 (lo1 : Int), .int .u32 (hi1 : Int), .int .u32 (co1 : Int), .slice Ay ny cy, .int .i64 N1, .int .i64 At1]), (b17, 45, #[.int .u32 (lo2 : Int), .int .u32 (hi2 : Int), .int .u32 (co2 : Int), .slice Aq nq cq, .int .i64 N2, .int .i64 At2]), (b3 + 1 + 1, 30, #[.slice C m dd])]) HX17.out (by have := HB3.out; have := HL5.out; have := HL7.out; omega) (by
    intro q hq
    simp only [List.mem_cons, List.mem_nil_iff, or_false] at hq
    rcases hq with rfl | rfl | rfl | rfl | rfl <;> simp) (by
    have h5 := HL5.out
    have h7 := HL7.out
    have h9 := HL9.out
    have h11 := HL11.out
    have h13 := HL13.out
    intro q hq
    simp only [List.mem_cons, List.mem_nil_iff, or_false] at hq
    rcases hq with rfl | rfl | rfl | rfl | rfl <;> dsimp only <;> omega) (.int .u32 (lo3 : Int)) (.int .u32 (hi3 : Int)) (.int .u32 (co3 : Int)) (.slice Au nu cu) (.int .i64 N3) (.int .i64 At3))
  generalize ((((((w17.setCell ⟨b9, 0, none⟩ (.int .u32 (lo3 : Int))).setCell ⟨b9, 1, none⟩ (.int .u32 (hi3 : Int))).setCell ⟨b9, 2, none⟩ (.int .u32 (co3 : Int))).setCell ⟨b9, 3, none⟩ (.slice Au nu cu)).setCell ⟨b9, 4, none⟩ (.int .i64 N3)).setCell ⟨b9, 5, none⟩ (.int .i64 At3)) = w18 at HS18 ⊢
  clear HS17 HX17
  refine (HN3.out w18 Aq nq cq (HS18.out.r (Aq, nq, bs2) (by simp)) (hx.out.below HS18.out.blw)).2.mono ?_
  rintro e w19 ⟨Av, nv, cv, rfl, hb19, hr19⟩
  unfold decV
  have HS19 := Lib.hid ((HS18.out.next hb19).rd hr19)
  clear hb19 hr19 HS18
  have HY19 := Lib.hid (HS19.out.b (b12, 45, #[.int .u32 (lo1 : Int), .int .u32 (hi1 : Int), .int .u32 (co1 : Int), .slice Ay ny cy, .int .i64 N1, .int .i64 At1]) (by simp))
  obtain ⟨x1, x2, x3, x4, x5, x6⟩ := blk6 HY19.out
  obtain ⟨z1, z2, z3, z4, z5, z6⟩ := frz6 HY19.out
  obtain ⟨y1, y2, y3, y4, y5, y6⟩ := blk6 (HS19.out.b (b9, 45, #[.int .u32 (lo3 : Int), .int .u32 (hi3 : Int), .int .u32 (co3 : Int), .slice Au nu cu, .int .i64 N3, .int .i64 At3]) (by simp))
  have n1 : ¬ b9 = b12 := by have := HL9.out; omega
  have n1' : ¬ b12 = b9 := fun h => n1 h.symm
  go_wp2_with fail
  clear x1 x2 x3 x4 x5 x6 y1 y2 y3 y4 y5 y6 z1 z2 z3 z4 z5 z6 n1 n1'
  have HS20 := Lib.hid (HS19.out.put6 (Ls2 := [(b3, 45, #[.int .u32 (low : Int), .int .u32 (high : Int), .int .u32 (code : Int), .slice Ad nd cd, .int .i64 Nd, .int .i64 Atd]), (b8, 25, #[.slice Aw nw cw, .int .i64 Nd])]) HY19.out (by have := HB3.out; have := HL5.out; have := HL7.out; have := HL9.out; omega) (by
    intro q hq
    simp only [List.mem_cons, List.mem_nil_iff, or_false] at hq
    rcases hq with rfl | rfl <;> simp) (by
    have h5 := HL5.out
    have h7 := HL7.out
    have h9 := HL9.out
    intro q hq
    simp only [List.mem_cons, List.mem_nil_iff, or_false] at hq
    rcases hq with rfl | rfl <;> dsimp only <;> omega) (.int .u32 (lo3 : Int)) (.int .u32 (hi3 : Int)) (.int .u32 (co3 : Int)) (.slice Av nv cv) (.int .i64 N3) (.int .i64 At3))
  generalize ((((((w19.setCell ⟨b12, 0, none⟩ (.int .u32 (lo3 : Int))).setCell ⟨b12, 1, none⟩ (.int .u32 (hi3 : Int))).setCell ⟨b12, 2, none⟩ (.int .u32 (co3 : Int))).setCell ⟨b12, 3, none⟩ (.slice Av nv cv)).setCell ⟨b12, 4, none⟩ (.int .i64 N3)).setCell ⟨b12, 5, none⟩ (.int .i64 At3)) = w20 at HS20 ⊢
  clear HS19 HY19
  have hcon := sameDec_yes lo3 hi3 co3 Au Av nu nv cu cv N3 At3 bs3 w20 (Lib.hid (HS20.out.r (Au, nu, bs3) (by simp))) (Lib.hid (HS20.out.r (Av, nv, bs3) (by simp)))
  unfold decV at hcon
  refine hcon.mono ?_
  clear hcon
  rintro e w21 ⟨rfl, hb21⟩
  have HS21 := Lib.hid (HS20.out.next hb21)
  clear hb21 HS20
  have e4 : (K3 == K3) = true := by simp
  have e5 : (E3 == E3) = true := by simp
  obtain ⟨-, -, -, x4, x5, -⟩ := blk6 (HS21.out.b (b3, 45, #[.int .u32 (low : Int), .int .u32 (high : Int), .int .u32 (code : Int), .slice Ad nd cd, .int .i64 Nd, .int .i64 Atd]) (by simp))
  obtain ⟨y1, y2, -, -⟩ := blk2 (HS21.out.b (b8, 25, #[.slice Aw nw cw, .int .i64 Nd]) (by simp))
  go_wp2_with fail
  refine (same_yes Ad Aw nd nw cd cw Nd bd w21 (Lib.hid (hrd.out.below HS21.out.blw)) (Lib.hid (HS21.out.r (Aw, nw, bd) (by simp)))).mono ?_
  rintro e w22 ⟨rfl, hb22⟩
  have HS22 := Lib.hid (HS21.out.next hb22)
  clear hb22 x4 x5 y1 y2
  go_wp2
  go_ret
  exact ⟨rfl, HS22.out.blw⟩
end Go.Proofs.Ytgelgbfnioagbaa.Cd
