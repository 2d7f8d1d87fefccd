/-
  What the document's own Put answers.
-/
import Derived.Test.YthaannpkgljngaaRd
namespace Go.Proofs.Ythaannpkgljngaa
open Go.RowKit

/-- what is answered where bits l come to be -/
def pWhat (l : List Bool) : Int × Int × List Nat := if l.length ≤ 65536 then ((l.length : Int), 0, pack l) else (0, 2, [])
theorem BBad.out {w w' : World} {e : Ending} {E : Int} (h : BBad w E e w') : JOut w 0 E [] e w' := by
  obtain ⟨rfl, hb⟩ := h
  exact ⟨none, 0, 0, rfl, hb, Rd.none_⟩
theorem BOut.out {w w' : World} {B : Nat} {l : List Bool} {e : Ending} {N E : Int} {bs : List Nat} (h : BOut w (JQ B l) e w') (hp : pWhat l = (N, E, bs)) : JOut w N E bs e w' := by
  obtain ⟨A, n, c, N', er, rfl, hb, hq⟩ := h
  unfold pWhat at hp
  rcases hq with ⟨h1, rfl, g, e1, _, hblk, _⟩ | ⟨h1, rfl, e1⟩
  · rw [if_pos h1] at hp
    simp only [Prod.mk.injEq] at hp
    obtain ⟨rfl, rfl, rfl⟩ := hp
    rw [e1]
    exact ⟨_, _, _, rfl, hb, Rd.of_blk hblk (pack_lt _)⟩
  · rw [if_neg (by omega)] at hp
    simp only [Prod.mk.injEq] at hp
    obtain ⟨rfl, rfl, rfl⟩ := hp
    rw [e1]
    exact ⟨none, 0, 0, rfl, hb, Rd.none_⟩

/-- the boxes of Put, and the bits that are made -/
def RP (w : World) (v0 v1 : Value) (g8 : Nat) (l : List Bool) (wr : World) : Prop :=
  Two w w.heap.size v0 v1 wr ∧ ∃ A n c, Blk wr g8 24 #[.slice A n c, .int .i64 ((l.length : Nat) : Int)] ∧ OwnB wr w.heap.size (.slice A n c) l
theorem rp_push {w w2 w3 : World} {g8 n c : Nat} {A : Option Addr} {l : List Bool} {v0 v1 N : Value} (h1 : Two w w.heap.size v0 v1 w2) (h3 : Blk w2 g8 24 #[.slice A n c, N]) (h4 : OwnB w2 w.heap.size (.slice A n c) l) (hg : w2.grownBy w3 (Value.slice A n c).ownBlock) :
    Two w w.heap.size v0 v1 w3 ∧ Blk w3 g8 24 #[.slice A n c, N] :=
  ⟨⟨h1.1.row hg (own_ne h4 h1.1 (by decide)), h1.2.1.row hg (own_ne h4 h1.2.1 (by decide)), h1.2.2.grown hg (Nat.le_of_lt h1.1.lt) (fun k hk => (World.ownsRow.lt h4 k hk).1)⟩, h3.row hg (own_ne h4 h3 (by decide))⟩
theorem rp_store {w w3 : World} {g8 n c : Nat} {A : Option Addr} {l : List Bool} {v0 v1 a N : Value} {N' : Int} (h1 : Two w w.heap.size v0 v1 w3) (h3 : Blk w3 g8 24 #[a, N]) (h4 : OwnB w3 w.heap.size (.slice A n c) l) (e8 : w.heap.size + 1 < g8) (hN : N' = ((l.length : Nat) : Int)) :
    RP w v0 v1 g8 l ((w3.setCell ⟨g8, 0, none⟩ (.slice A n c)).setCell ⟨g8, 1, none⟩ (.int .i64 N')) := by
  subst hN
  refine ⟨⟨(h1.1.far (by simp; omega) _).far (by simp; omega) _, (h1.2.1.far (by simp; omega) _).far (by simp; omega) _, (h1.2.2.setCell (by simp; omega) _).setCell (by simp; omega) _⟩, A, n, c, ?_, ?_⟩
  · have := (h3.set_ 0 (.slice A n c)).set_ 1 (.int .i64 ((l.length : Nat) : Int))
    simpa using this
  · exact ownsRow_setCell_other (ownsRow_setCell_other h4 (own_ne h4 h3 (by decide)) _) (own_ne h4 h3 (by decide)) _
theorem own_base {w : World} {base base' : Nat} {v : Value} {n : Nat} {xs : List Value} (h : w.ownsRow base 5 1 v n xs) (hb : base' ≤ base) : w.ownsRow base' 5 1 v n xs := by
  obtain ⟨h1, h2⟩ := h
  rcases h2 with h2 | ⟨g, cap, cur, e, hg, rest⟩
  · exact ⟨h1, .inl h2⟩
  · exact ⟨h1, .inr ⟨g, cap, cur, e, by omega, rest⟩⟩
theorem and_bit (v i : Nat) (h : v < 2 ^ 64) : bits BinOp.and IntKind.u64 ((v : Int) / 2 ^ i) 1 = (((v.testBit i).toNat : Nat) : Int) := by
  have e : ((v : Int) / 2 ^ i) = ((v / 2 ^ i : Nat) : Int) := by simp
  have hl : v / 2 ^ i ≤ v := Nat.div_le_self _ _
  rw [e, show (1 : Int) = ((1 : Nat) : Int) from rfl, u64_and_nat _ _ (by omega) (by omega), nat_mask1, Nat.toNat_testBit]

set_option maxHeartbeats 1000000 in
theorem rput_core (A : Option Addr) (n c : Nat) (l : List Bool) (v width : Nat) (w : World) (hr : Hid (Rd w A n (pack l))) (hn : Hid (n = (pack l).length)) (hl : l.length ≤ 65536)
    (hw : width ≤ 64) (hv : Hid (v < 2 ^ 64)) (hvw : (decide ((width : Int) < 64) = true ∧ ((v : Int) / 2 ^ width != 0) = false) ∨ decide ((width : Int) < 64) = false) (hlen : l.length + width ≤ 65536) :
    Calls Try.prog 13 #[.agg #[.slice A n c, .int .i64 (l.length : Int)], .int .u64 (v : Int), .int .i64 (width : Int)] w (JOut w ((l ++ bitsOf width v).length : Int) 0 (pack (l ++ bitsOf width v))) := by
  have hd1 : decide ((width : Int) < 0) = false := by simp
  have hd2 : decide ((64 : Int) < (width : Int)) = false := by simp; omega
  have hn2 : n ≤ 20000 := by have := hn.out; have := pack_length l; omega
  have hd4 : decide ((65536 : Int) < (l.length : Int) + (width : Int)) = false := by simp; omega
  have HLL := Lib.hid hl
  rcases hvw with ⟨hd3, hs⟩ | hd3
  all_goals
    go_enter Try.func13, Try.ntmps13
    go_wp2_with fail
    refine (rcheck_yes _ _ _ _ (pack l) _ ((hr.out.alloc _).alloc _) (okB_pack l HLL.out)).mono ?_
    rintro e w1 ⟨rfl, hb1⟩
    have H1 := Lib.hid ((Two.start w (.slice A n c) (.int .i64 (l.length : Int))).next hb1)
    have HR1 := Lib.hid (((hr.out.alloc _).alloc _).below hb1)
    obtain ⟨b0, b1⟩ := H1.out.cells
    clear hb1
    go_wp2_with fail
    refine (rcopy_any A n c _ (pack l) _ HR1.out hn2).mono ?_
    rintro e w2 ⟨A2, n2, c2, rfl, hown2, hb2⟩
    have hn22 : n2 = (pack l).length := by have := hown2.1; rw [List.length_map] at this; omega
    have H2 := Lib.hid (H1.out.next hb2)
    have HO2 := Lib.hid (show OwnB w2 w.heap.size (.slice A2 n2 c2) l from by unfold OwnB; rw [← hn22]; exact own_base hown2 (Nat.le_of_lt H1.out.1.lt))
    have hg8 : w.heap.size + 1 < w2.heap.size := H2.out.2.1.lt
    clear hb2 hown2 hn22 b0 b1
    go_wp2
    have hst : Blk (w2.alloc (.cells #[.slice A2 n2 c2, .int .i64 (l.length : Int)] 24)) w2.heap.size 24 #[.slice A2 n2 c2, .int .i64 (l.length : Int)] := Blk.new _ _ _
    generalize w2.heap.size = g8 at hg8 hst ⊢
    have HST := Lib.hid hst
    clear hst
    go_loopw [9] (fun i wr => ∃ k : Nat, k ≤ width ∧ i = .int .i64 ((width : Int) - 1 - (k : Int)) ∧ RP w (.slice A n c) (.int .i64 (l.length : Int)) g8 (l ++ (bitsOf width v).take k) wr)
      (fun i _ => (intOf i + 1).toNat)
    case atStart =>
      refine ⟨0, Nat.zero_le _, by go_num, H2.out.alloc _, A2, n2, c2, ?_, ?_⟩
      · rw [List.take_zero, List.append_nil]; exact HST.out
      · rw [List.take_zero, List.append_nil]; exact HO2.out.alloc _
    case round =>
      obtain ⟨k, hk, rfl, r1, A3, n3, c3, r3, r4⟩ := hrel
      by_cases hlt : k < width
      · obtain ⟨NL, hNL⟩ : ∃ NL : Nat, NL = (l ++ (bitsOf width v).take k).length := ⟨_, rfl⟩
        have hNLl : NL ≤ 65536 := by rw [hNL, List.length_append, List.length_take, bitsOf_length]; omega
        rw [← hNL] at r3
        have o0 : wr.cell? ⟨g8, 0, none⟩ = some (.slice A3 n3 c3) := r3.cell 0
        have o1 : wr.cell? ⟨g8, 1, none⟩ = some (.int .i64 (NL : Int)) := r3.cell 1
        obtain ⟨t, ht⟩ : ∃ t, t = (bitF (bitsOf width v) k).toNat := ⟨_, rfl⟩
        have hb : bits BinOp.and IntKind.u64 ((v : Int) / 2 ^ (width - 1 - k)) 1 = (t : Int) := by
          rw [and_bit v _ hv.out, ht, bitF_bitsOf]
          simp [hlt]
        have hge : (0 : Int) ≤ (width : Int) - 1 - (k : Int) := by omega
        have htn : ((width : Int) - 1 - (k : Int)).toNat = width - 1 - k := by omega
        have HR1 := Lib.hid r1
        have HR3 := Lib.hid r3
        have HR4 := Lib.hid r4
        have HT := Lib.hid ht
        have HNL := Lib.hid hNL
        have HB := Lib.hid hb
        have HEN := Lib.hid (show ((l ++ (bitsOf width v).take k) ++ [bitF (bitsOf width v) k]).length = NL + 1 by rw [List.length_append, ← hNL]; rfl)
        clear r1 r3 r4 ht hNL hb
        go_wp2_with fail
        rw [HB.out]
        refine (push_any A3 n3 c3 (l ++ (bitsOf width v).take k) _ (bitF (bitsOf width v) k) t w.heap.size _ HR4.out (by rw [HNL.out]) HT.out (by rw [← HNL.out]; omega) (Nat.le_of_lt HR1.out.1.lt)).mono ?_
        rintro e w3 ⟨g, n4, cap4, rfl, ho3, hg3, hat3⟩
        rw [HEN.out]
        have P := rp_push HR1.out HR3.out HR4.out hg3
        have p0 : w3.cell? ⟨g8, 0, none⟩ = some (.slice A3 n3 c3) := P.2.cell 0
        have p1 : w3.cell? ⟨g8, 1, none⟩ = some (.int .i64 (NL : Int)) := P.2.cell 1
        have p2 := P.2.frozen 0
        have p3 := P.2.frozen 1
        have HP := Lib.hid P
        have HO3 := Lib.hid ho3
        clear P ho3 hg3 hat3 htn
        go_wp2
        go_roundw
        case rel =>
          have et : (bitsOf width v).take (k + 1) = (bitsOf width v).take k ++ [bitF (bitsOf width v) k] := by
            have h : k < (bitsOf width v).length := by rw [bitsOf_length]; exact hlt
            rw [List.take_succ_eq_append_getElem h]
            simp [bitF, List.getD_eq_getElem?_getD, h]
          refine ⟨k + 1, by omega, by go_num, ?_⟩
          rw [et, ← List.append_assoc]
          exact rp_store HP.out.1 HP.out.2 HO3.out hg8 (show ((NL : Int) + 1) = _ by rw [HEN.out]; rfl)
        case measure => simp [intOf]; omega
      · obtain rfl : k = width := by omega
        have et : (bitsOf k v).take k = bitsOf k v := List.take_of_length_le (by rw [bitsOf_length]; omega)
        rw [et] at r3 r4
        obtain ⟨z0, z1, f0, f1⟩ := r1.res
        have o0 : wr.cell? ⟨g8, 0, none⟩ = some (.slice A3 n3 c3) := r3.cell 0
        obtain ⟨T, hT⟩ : ∃ T : Nat, T = (l ++ bitsOf k v).length := ⟨_, rfl⟩
        rw [← hT] at r3
        have HTT := Lib.hid hT
        have o1 : wr.cell? ⟨g8, 1, none⟩ = some (.int .i64 (T : Int)) := r3.cell 1
        have HR1 := Lib.hid r1
        have HR4 := Lib.hid r4
        clear r1 r3 r4 hT et
        go_wp2
        refine bodyPost_ret (v := .tuple #[.agg #[.slice A3 n3 c3, .int .i64 (T : Int)], .int .i64 0]) (by simp [results, Try.results13, go_sem, z0, z1]) rfl ⟨A3, n3, c3, by rw [HTT.out], ?_, ?_⟩
        · exact bad_below HR1.out _ _
        · obtain ⟨hrd, hn3⟩ := HR4.out.rd
          exact (hrd.setCell _ (fun x => by rw [z0]; simp [byteV])).setCell _ (fun x => by rw [World.cell?_setCell_other _ _ _ _ (by simp), z1]; simp [byteV])
set_option maxHeartbeats 1000000 in
theorem rput_bad1 (A : Option Addr) (n c : Nat) (N v width : Int) (bs : List Nat) (w : World) (hr : Hid (Rd w A n bs)) (hok : Hid (okB bs N = false)) :
    Calls Try.prog 13 #[.agg #[.slice A n c, .int .i64 N], .int .u64 v, .int .i64 width] w (BBad w 1) := by
  go_enter Try.func13, Try.ntmps13
  go_wp2_with fail
  refine (rcheck_no _ _ _ _ bs _ ((hr.out.alloc _).alloc _) hok.out).mono ?_
  rintro e w1 ⟨rfl, hb1⟩
  have H1 := Lib.hid ((Two.start w (.slice A n c) (.int .i64 N)).next hb1)
  obtain ⟨y0, y1, y2, y3⟩ := H1.out.res
  clear hb1
  go_wp2
  exact bodyPost_ret (v := .tuple #[zeroB, .int .i64 1]) (by simp [results, Try.results13, go_sem, y0, y1, zeroB]) rfl ⟨rfl, bad_below H1.out _ _⟩
set_option maxHeartbeats 1000000 in
theorem rput_bad2 (A : Option Addr) (n c : Nat) (N v width : Int) (bs : List Nat) (w : World) (hr : Hid (Rd w A n bs)) (hok : Hid (okB bs N = true)) (hw : ¬ (0 ≤ width ∧ width ≤ 64)) :
    Calls Try.prog 13 #[.agg #[.slice A n c, .int .i64 N], .int .u64 v, .int .i64 width] w (BBad w 1) := by
  by_cases h : width < 0
  · have h1 : decide (width < 0) = true := by simpa using h
    clear hw h
    go_enter Try.func13, Try.ntmps13
    go_wp2_with fail
    refine (rcheck_yes _ _ _ _ bs _ ((hr.out.alloc _).alloc _) hok.out).mono ?_
    rintro e w1 ⟨rfl, hb1⟩
    have H1 := Lib.hid ((Two.start w (.slice A n c) (.int .i64 N)).next hb1)
    obtain ⟨y0, y1, y2, y3⟩ := H1.out.res
    obtain ⟨b0, b1⟩ := H1.out.cells
    clear hb1
    go_wp2
    exact bodyPost_ret (v := .tuple #[zeroB, .int .i64 1]) (by simp [results, Try.results13, go_sem, y0, y1, zeroB]) rfl ⟨rfl, bad_below H1.out _ _⟩
  · have h1 : decide (width < 0) = false := by simpa using h
    have h2 : decide (64 < width) = true := by simp; omega
    clear hw h
    go_enter Try.func13, Try.ntmps13
    go_wp2_with fail
    refine (rcheck_yes _ _ _ _ bs _ ((hr.out.alloc _).alloc _) hok.out).mono ?_
    rintro e w1 ⟨rfl, hb1⟩
    have H1 := Lib.hid ((Two.start w (.slice A n c) (.int .i64 N)).next hb1)
    obtain ⟨y0, y1, y2, y3⟩ := H1.out.res
    obtain ⟨b0, b1⟩ := H1.out.cells
    clear hb1
    go_wp2
    exact bodyPost_ret (v := .tuple #[zeroB, .int .i64 1]) (by simp [results, Try.results13, go_sem, y0, y1, zeroB]) rfl ⟨rfl, bad_below H1.out _ _⟩
set_option maxHeartbeats 1000000 in
theorem rput_bad3 (A : Option Addr) (n c : Nat) (N v : Int) (width : Nat) (bs : List Nat) (w : World) (hr : Hid (Rd w A n bs)) (hok : Hid (okB bs N = true)) (hw : width < 64) (hv : (v / 2 ^ width != 0) = true) :
    Calls Try.prog 13 #[.agg #[.slice A n c, .int .i64 N], .int .u64 v, .int .i64 (width : Int)] w (BBad w 1) := by
    have h1 : decide ((width : Int) < 0) = false := by simp
    have h2 : decide ((64 : Int) < (width : Int)) = false := by simp; omega
    have h3 : decide ((width : Int) < 64) = true := by simp; omega
    go_enter Try.func13, Try.ntmps13
    go_wp2_with fail
    refine (rcheck_yes _ _ _ _ bs _ ((hr.out.alloc _).alloc _) hok.out).mono ?_
    rintro e w1 ⟨rfl, hb1⟩
    have H1 := Lib.hid ((Two.start w (.slice A n c) (.int .i64 N)).next hb1)
    obtain ⟨y0, y1, y2, y3⟩ := H1.out.res
    obtain ⟨b0, b1⟩ := H1.out.cells
    clear hb1
    go_wp2
    exact bodyPost_ret (v := .tuple #[zeroB, .int .i64 1]) (by simp [results, Try.results13, go_sem, y0, y1, zeroB]) rfl ⟨rfl, bad_below H1.out _ _⟩
set_option maxHeartbeats 1000000 in
theorem rput_long (A : Option Addr) (n c : Nat) (N v : Int) (width : Nat) (bs : List Nat) (w : World) (hr : Hid (Rd w A n bs)) (hok : Hid (okB bs N = true)) (hw : width ≤ 64) (hN0 : 0 ≤ N) (hN1 : N ≤ 65536)
    (hvw : (decide ((width : Int) < 64) = true ∧ (v / 2 ^ width != 0) = false) ∨ decide ((width : Int) < 64) = false) (hlen : 65536 < N + width) :
    Calls Try.prog 13 #[.agg #[.slice A n c, .int .i64 N], .int .u64 v, .int .i64 (width : Int)] w (BBad w 2) := by
  have h1 : decide ((width : Int) < 0) = false := by simp
  have h2 : decide ((64 : Int) < (width : Int)) = false := by simp; omega
  rcases hvw with ⟨h3, h4⟩ | h3
  all_goals
    go_enter Try.func13, Try.ntmps13
    go_wp2_with fail
    refine (rcheck_yes _ _ _ _ bs _ ((hr.out.alloc _).alloc _) hok.out).mono ?_
    rintro e w1 ⟨rfl, hb1⟩
    have H1 := Lib.hid ((Two.start w (.slice A n c) (.int .i64 N)).next hb1)
    obtain ⟨y0, y1, y2, y3⟩ := H1.out.res
    obtain ⟨b0, b1⟩ := H1.out.cells
    clear hb1
    go_wp2
    exact bodyPost_ret (v := .tuple #[zeroB, .int .i64 2]) (by simp [results, Try.results13, go_sem, y0, y1, zeroB]) rfl ⟨rfl, bad_below H1.out _ _⟩
/-- Put, as the document has it, for bits that may be and a number that fits -/
theorem rput_any (v : Value) (l : List Bool) (xi wi : Int) (x width : Nat) (N E : Int) (bs : List Nat) (w : World) (h : IsB w v l) (hxi : xi = (x : Int)) (hwi : wi = (width : Int)) (hw : width ≤ 64) (hx : x < 2 ^ width) (hp : pWhat (l ++ bitsOf width x) = (N, E, bs)) :
    Calls Try.prog 13 #[v, .int .u64 xi, .int .i64 wi] w (JOut w N E bs) := by
  subst hxi hwi
  obtain ⟨A, c, rfl, hr, hl⟩ := h
  have h64 : x < 2 ^ 64 := Nat.lt_of_lt_of_le hx (Nat.pow_le_pow_right (by omega) hw)
  have hdiv : x / 2 ^ width = 0 := Nat.div_eq_of_lt hx
  have hvw : (decide ((width : Int) < 64) = true ∧ ((x : Int) / 2 ^ width != 0) = false) ∨ decide ((width : Int) < 64) = false := by
    by_cases h : width < 64
    · refine .inl ⟨by simp; omega, ?_⟩
      have e : ((x : Int) / 2 ^ width) = ((x / 2 ^ width : Nat) : Int) := by simp
      rw [e, hdiv]
      rfl
    · exact .inr (by simp; omega)
  have hlen : (l ++ bitsOf width x).length = l.length + width := by rw [List.length_append, bitsOf_length]
  unfold pWhat at hp
  by_cases hf : l.length + width ≤ 65536
  · rw [if_pos (by omega)] at hp
    simp only [Prod.mk.injEq] at hp
    obtain ⟨rfl, rfl, rfl⟩ := hp
    exact rput_core A _ c l x width w (Lib.hid hr) (Lib.hid rfl) hl hw (Lib.hid h64) hvw hf
  · rw [if_neg (by omega)] at hp
    simp only [Prod.mk.injEq] at hp
    obtain ⟨rfl, rfl, rfl⟩ := hp
    exact (rput_long A _ c _ x width _ w (Lib.hid hr) (Lib.hid (okB_pack l hl)) hw (by omega) (by omega) hvw (by omega)).mono fun _ _ h => h.out

end Go.Proofs.Ythaannpkgljngaa
