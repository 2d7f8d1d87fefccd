/-
  Own texts, laid together: Ia.
-/
import Derived.Test.YtgelgbfnioagbaaGq
/- Ia -/
namespace Go.Proofs.Ytgelgbfnioagbaa.Cd
open Go.RowKit
/-- a decoder's cells -/
def dcC (d : De) (A : Option Addr) (n c : Nat) (N : Int) : Array Value := #[.int .u32 (d.low : Int), .int .u32 (d.high : Int), .int .u32 (d.code : Int), .slice A n c, .int .i64 N, .int .i64 (d.at_ : Int)]
/-- a decoder's state, a symbol, and an error -/
def NOut (w : World) (lo hi co : Nat) (At N K E : Int) (bs : List Nat) (e : Ending) (w' : World) : Prop :=
  ∃ A n c, e = .returned (.tuple #[decV lo hi co A n c N At, .int .i64 K, .int .i64 E]) ∧ Below w.heap.size w w' ∧ Rd w' A n bs
theorem NOut.err {w w' : World} {E : Int} (hb : Below w.heap.size w w') : NOut w 0 0 0 0 0 0 E [] (.returned (.tuple #[decV 0 0 0 none 0 0 0 0, .int .i64 0, .int .i64 E])) w' := ⟨none, 0, 0, rfl, hb, Rd.none_⟩
/-- the boxes and the result of Next -/
structure NeS (w : World) (b : Nat) (cs : Array Value) (C : Option Addr) (m dd : Nat) (xs : List Int) (u : World) : Prop where
  box : Blk u b 45 cs
  fr : Blk u (b + 1) 30 #[.slice C m dd]
  res : Blk u (b + 1 + 1) 45 #[.int .u32 0, .int .u32 0, .int .u32 0, .slice none 0 0, .int .i64 0, .int .i64 0]
  rd : Fq.RdI u C m xs
  hb : w.heap.size ≤ b
  blw : Below w.heap.size w u
section
variable {w : World} {b : Nat} {cs : Array Value} {C : Option Addr} {m dd : Nat} {xs : List Int} {u u' : World}
theorem NeS.next (h : NeS w b cs C m dd xs u) (hb : Below u.heap.size u u') : NeS w b cs C m dd xs u' :=
  ⟨h.box.below hb h.box.lt, h.fr.below hb h.fr.lt, h.res.below hb h.res.lt, h.rd.below hb, h.hb, h.blw.trans (hb.mono h.blw.size)⟩
theorem NeS.drewN (h : NeS w b cs C m dd xs u) (q : Nat) : NeS w b cs C m dd xs (u.drewN q) := ⟨h.box, h.fr, h.res, h.rd, h.hb, below_drewN h.blw q⟩
theorem nes_start (w : World) (cs : Array Value) (C : Option Addr) (m dd : Nat) (xs : List Int) (hx : Fq.RdI w C m xs) :
    NeS w w.heap.size cs C m dd xs (((w.alloc (.cells cs 45)).alloc (.cells #[.slice C m dd] 30)).alloc (.cells #[.int .u32 0, .int .u32 0, .int .u32 0, .slice none 0 0, .int .i64 0, .int .i64 0] 45)) :=
  ⟨((Blk.new w _ _).alloc _).alloc _, (Blk.newAt (by simp)).alloc _, Blk.newAt (by simp), ((hx.alloc _).alloc _).alloc _, Nat.le_refl _, (((Below.refl w.heap.size w).alloc (Nat.le_refl _) _).alloc (by simp) _).alloc (by simp; omega) _⟩
end
set_option maxRecDepth 100000 in
set_option maxHeartbeats 2000000 in
theorem rnext_arg (low high code : Nat) (A : Option Addr) (n c : Nat) (N At : Int) (bs : List Nat) (C : Option Addr) (m dd : Nat) (xs : List Int) (w : World) (hl : low < 4294967296) (hh : high < 4294967296) (hc : code < 4294967296) (hr : Hid (Rd w A n bs)) (hx : Hid (Fq.RdI w C m xs)) (hm : Hid (m ≤ maxLen)) (hbad : Hid (okD low high code bs N At = false ∨ okD low high code bs N At = true ∧ Fq.okF xs = false)) :
    Calls Try.prog 22 #[decV low high code A n c N At, .agg #[.slice C m dd]] w (NOut w 0 0 0 0 0 0 1 []) := by
  have HS0 := Lib.hid (nes_start w #[.int .u32 (low : Int), .int .u32 (high : Int), .int .u32 (code : Int), .slice A n c, .int .i64 N, .int .i64 At] C m dd xs hx.out)
  unfold decV
  go_enter Try.func22, Try.ntmps22
  go_wp2_with fail
  generalize ((w.alloc (.cells #[.int .u32 (low : Int), .int .u32 (high : Int), .int .u32 (code : Int), .slice A n c, .int .i64 N, .int .i64 At] 45)).alloc (.cells #[.slice C m dd] 30)).alloc (.cells #[.int .u32 0, .int .u32 0, .int .u32 0, .slice none 0 0, .int .i64 0, .int .i64 0] 45) = w0 at HS0 ⊢
  obtain ⟨b, hb⟩ : ∃ b, b = w.heap.size := ⟨_, rfl⟩
  rw [← hb] at HS0 ⊢
  have HB := Lib.hid (show w.heap.size ≤ b by omega)
  clear hb
  rcases hbad.out with hb | ⟨hb, hs⟩
  · have HBB := Lib.hid hb
    clear hb
    refine (rcheckDec_any low high code A n c N At bs false w0 hl hh hc (Lib.hid (hr.out.below HS0.out.blw)) HBB).mono ?_
    rintro e w2 ⟨rfl, hb2⟩
    have HS2 := Lib.hid (HS0.out.next hb2)
    clear hb2 HS0
    obtain ⟨y1, y2, y3, y4, y5, y6⟩ := blk6 HS2.out.res
    obtain ⟨z1, z2, z3, z4, z5, z6⟩ := frz6 HS2.out.res
    go_wp2
    exact bodyPost_ret (v := .tuple #[decV 0 0 0 none 0 0 0 0, .int .i64 0, .int .i64 1]) (by simp [results, Try.results22, go_sem, decV, y1, y2, y3, y4, y5, y6]) rfl (NOut.err (below6 HS2.out.blw (by have := HB.out; omega) _ _ _ _ _ _))
  · have HBB := Lib.hid hb
    have HSS := Lib.hid hs
    clear hb hs
    refine (rcheckDec_any low high code A n c N At bs true w0 hl hh hc (Lib.hid (hr.out.below HS0.out.blw)) HBB).mono ?_
    rintro e w2 ⟨rfl, hb2⟩
    have HS2 := Lib.hid (HS0.out.next hb2)
    clear hb2 HS0
    have x3 := Fq.blk0 HS2.out.fr
    go_wp2_with fail
    refine (Fq.rcheck_any C m dd xs false w2 (Lib.hid HS2.out.rd) hm.out HSS.out).mono ?_
    rintro e w3 ⟨rfl, hb3⟩
    have HS3 := Lib.hid (HS2.out.next hb3)
    clear hb3 HS2 x3
    rw [show Fq.errN false = 1 from rfl]
    obtain ⟨y1, y2, y3, y4, y5, y6⟩ := blk6 HS3.out.res
    obtain ⟨z1, z2, z3, z4, z5, z6⟩ := frz6 HS3.out.res
    go_wp2
    exact bodyPost_ret (v := .tuple #[decV 0 0 0 none 0 0 0 0, .int .i64 0, .int .i64 1]) (by simp [results, Try.results22, go_sem, decV, y1, y2, y3, y4, y5, y6]) rfl (NOut.err (below6 HS3.out.blw (by have := HB.out; omega) _ _ _ _ _ _))
theorem okD_mk {d : De} {l : List Bool} (h : FineD d) (hl : l.length ≤ 65536) (h1 : 32 ≤ d.at_) (h2 : d.at_ ≤ 65600) : okD d.low d.high d.code (pack l) (l.length : Int) (d.at_ : Int) = true := by
  unfold okD wideB
  obtain ⟨⟨a1, a2⟩, a3, a4, a5⟩ := h
  have a6 : d.low < d.high := by
    rcases kind_cases d.low d.high with ⟨h, _⟩ | ⟨h, _⟩ | ⟨h, _⟩ | ⟨h, h1, h2, _⟩ <;> omega
  rw [decide_eq_true (show d.low < d.high ∧ d.high < 4294967296 ∧ kind d.low d.high = 3 from ⟨a6, a2, a3⟩), decide_eq_true a4, decide_eq_true a5, okB_pack l hl, decide_eq_true (show (32 : Int) ≤ (d.at_ : Int) by omega), decide_eq_true (show (d.at_ : Int) ≤ 65600 by omega)]
  rfl
set_option maxRecDepth 100000 in
set_option maxHeartbeats 2000000 in
theorem rnext_short (d : De) (A : Option Addr) (n c L : Nat) (l : List Bool) (C : Option Addr) (m dd : Nat) (xs : List Int) (w : World) (hI : Hid (IsB w (.agg #[.slice A n c, .int .i64 (L : Int)]) l)) (hd : Hid (FineD d)) (h32 : 32 ≤ d.at_) (hat : d.at_ ≤ 65600) (ha : L + 32 < d.at_) (hx : Hid (Fq.RdI w C m xs)) (hm : Hid (m ≤ maxLen)) (hok : Hid (Fq.okF xs = true)) :
    Calls Try.prog 22 #[decV d.low d.high d.code A n c (L : Int) (d.at_ : Int), .agg #[.slice C m dd]] w (NOut w 0 0 0 0 0 0 20 []) := by
  obtain ⟨hn, hN, hr, hl⟩ := isB_parts hI.out
  have HOK := Lib.hid (show okD d.low d.high d.code (pack l) (L : Int) (d.at_ : Int) = true by rw [hN]; exact okD_mk hd.out hl h32 hat)
  have HR := Lib.hid hr
  have o2 := hd.out.1.2
  have k1 := hd.out.2.2.1
  have k2 := hd.out.2.2.2
  have o1 := hd.out.1.1
  have Lb : L ≤ 65536 := by omega
  obtain ⟨L3, hL3⟩ : ∃ L3, L3 = L + 32 := ⟨_, rfl⟩
  have EL := Lib.hid (show (L : Int) + 32 = (L3 : Int) by omega)
  have dd1 : decide (L3 < d.at_) = true := by simp; omega
  clear hn hN hr hl hL3
  have HS0 := Lib.hid (nes_start w #[.int .u32 (d.low : Int), .int .u32 (d.high : Int), .int .u32 (d.code : Int), .slice A n c, .int .i64 (L : Int), .int .i64 (d.at_ : Int)] C m dd xs hx.out)
  unfold decV
  go_enter Try.func22, Try.ntmps22
  go_wp2_with fail
  generalize ((w.alloc (.cells #[.int .u32 (d.low : Int), .int .u32 (d.high : Int), .int .u32 (d.code : Int), .slice A n c, .int .i64 (L : Int), .int .i64 (d.at_ : Int)] 45)).alloc (.cells #[.slice C m dd] 30)).alloc (.cells #[.int .u32 0, .int .u32 0, .int .u32 0, .slice none 0 0, .int .i64 0, .int .i64 0] 45) = w0 at HS0 ⊢
  obtain ⟨b, hb⟩ : ∃ b, b = w.heap.size := ⟨_, rfl⟩
  rw [← hb] at HS0 ⊢
  have HB := Lib.hid (show w.heap.size ≤ b by omega)
  clear hb
  refine (rcheckDec_any d.low d.high d.code A n c (L : Int) (d.at_ : Int) (pack l) true w0 (by omega) (by omega) (by omega) (Lib.hid (HR.out.below HS0.out.blw)) HOK).mono ?_
  rintro e w2 ⟨rfl, hb2⟩
  have HS2 := Lib.hid (HS0.out.next hb2)
  clear hb2 HS0
  have x3 := Fq.blk0 HS2.out.fr
  go_wp2_with fail
  refine (Fq.rcheck_any C m dd xs true w2 (Lib.hid HS2.out.rd) hm.out hok.out).mono ?_
  rintro e w3 ⟨rfl, hb3⟩
  have HS3 := Lib.hid (HS2.out.next hb3)
  clear hb3 HS2 x3
  rw [show Fq.errN true = 0 from rfl]
  obtain ⟨x1, x2, x3, x4, x5, x6⟩ := blk6 HS3.out.box
  obtain ⟨y1, y2, y3, y4, y5, y6⟩ := blk6 HS3.out.res
  obtain ⟨z1, z2, z3, z4, z5, z6⟩ := frz6 HS3.out.res
  have eL := EL.out
  go_wp2
  exact bodyPost_ret (v := .tuple #[decV 0 0 0 none 0 0 0 0, .int .i64 0, .int .i64 20]) (by simp [results, Try.results22, go_sem, decV, y1, y2, y3, y4, y5, y6]) rfl (NOut.err (below6 HS3.out.blw (by have := HB.out; omega) _ _ _ _ _ _))
end Go.Proofs.Ytgelgbfnioagbaa.Cd
