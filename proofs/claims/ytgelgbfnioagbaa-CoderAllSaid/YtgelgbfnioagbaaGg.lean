/-
  Own texts, laid together: Gg.
-/
import Derived.Test.YtgelgbfnioagbaaGf
/- Gg -/
namespace Go.Proofs.Ytgelgbfnioagbaa.Cd
open Go.RowKit
theorem end_join {w0 : Bs} {w : World} {p low high wait N : Nat} {out : List Bool} (h : WSm w0 p low high wait N out w) (ho : out.length ≤ 250000) :
    ∃ g k cap, w.cell? ⟨p, 3, none⟩ = some (.slice (some ⟨g, 0, none⟩) k cap) ∧ Calls Try.prog 32 #[.slice (some ⟨g, 0, none⟩) k cap] w (BOut w (JQ w.heap.size out)) := by
  obtain ⟨hb, g, k, cap, xs, h2⟩ := h
  refine ⟨g, k, cap, h2.blk.cell 3, ?_⟩
  have := join_out (some ⟨g, 0, none⟩) k cap xs w (by have := h2.few; omega) h2.rdL (fun x hx => (h2.rd x hx).2.1)
  rw [h2.bits] at this
  exact this
theorem JQ.far {B r : Nat} {l : List Bool} {v : Value} {er : Int} {w : World} (h : JQ B l v er w) (hr : r < B) (i : Nat) (a : Value) : JQ B l v er (w.setCell ⟨r, i, none⟩ a) := by
  rcases h with ⟨h2, h3, g, e, hg, hb, hl⟩ | h
  · exact .inl ⟨h2, h3, g, e, hg, hb.far (by simp; omega) _, hl⟩
  · exact .inr h
theorem JQ.mono {B B' : Nat} {l : List Bool} {v : Value} {er : Int} {w : World} (h : JQ B l v er w) (hb : B' ≤ B) : JQ B' l v er w := by
  rcases h with ⟨h2, h3, g, e, hg, hb2, hl⟩ | h
  · exact .inl ⟨h2, h3, g, e, by omega, hb2, hl⟩
  · exact .inr h
/-- another block made: it stays from now on -/
theorem WSm.rebase {w0 : Bs} {w : World} {p low high wait N : Nat} {out : List Bool} (h : WSm w0 p low high wait N out w) {r : Nat} (hr : r = w.heap.size) (o : Obj) : WSm ⟨w0.w, r, some o⟩ p low high wait N out (w.alloc o) := by
  subst hr
  have hn := h.next ((Below.refl w.heap.size w).alloc (Nat.le_refl _) o)
  obtain ⟨hb, g, k, cap, xs, h2⟩ := hn
  obtain ⟨_, g', k', cap', xs', h3⟩ := h
  have e : g' = g := by
    have a1 := h2.blk.cell 3
    have a2 := (World.cell?_alloc_lt w o ⟨p, 3, none⟩ h3.blk.lt).trans (h3.blk.cell 3)
    rw [a1] at a2
    have a3 : (some (Value.slice (some ⟨g, 0, none⟩) k cap)) = some (Value.slice (some ⟨g', 0, none⟩) k' cap') := a2
    injection a3 with a3; injection a3 with a3; injection a3 with a3; injection a3 with a3; exact a3.symm
  subst e
  refine ⟨hb, g', k, cap, xs, h2.blk, h2.own, h2.hp, h2.hg, h2.ne, h2.len, h2.rd, h2.bits, h2.few, ?_, ?_, ?_, ?_⟩
  · have := h3.blk.lt; show w.heap.size ≠ p; omega
  · have := (World.ownsRow.lt h3.own g' rfl).2; show w.heap.size ≠ g'; omega
  · show w.heap.size < _; simp
  · exact heap_alloc_new w o
theorem WSm.stay {w0 : Bs} {w : World} {p low high wait N : Nat} {out : List Bool} (h : WSm w0 p low high wait N out w) : w.heap[w0.r]? = w0.o := by
  obtain ⟨_, g, k, cap, xs, h2⟩ := h
  exact h2.kp.2.2.2
theorem WSm.base {w0 : Bs} {w : World} {p low high wait N : Nat} {out : List Bool} (h : WSm w0 p low high wait N out w) : Below w0.w.heap.size w0.w w := h.1
set_option maxRecDepth 100000 in
set_option maxHeartbeats 2000000 in
theorem end_w (w0 : Bs) (p : Nat) (e : En) (out2 : List Bool) (w : World) (h : Hid (WS w0 p e w)) (ho : e.out.length ≤ 65536) (hw : e.wait ≤ 65536) (ho2 : Hid (out2 = endBits e)) :
    Calls Try.prog 46 #[.pointer (some ⟨p, 0, none⟩)] w (BOut w0.w (JQ w0.w.heap.size out2)) := by
  have HW1 := Lib.hid (WSm.rebase (WSm.setWait h.out (e.wait + 1)) (r := w.heap.size) (by simp) (.cells #[.slice none 0 0, .int .i64 0] 25))
  have HB0 := Lib.hid (show w0.w.heap.size ≤ w.heap.size from h.out.1.size)
  have HL2 := Lib.hid (show out2.length = e.out.length + e.wait + 2 by rw [ho2.out, endBits_length]; rfl)
  obtain ⟨c2, f2⟩ := WSm.wait_ h.out
  obtain ⟨c0, -, -, -⟩ := WSm.two h.out
  have lp := WSm.lt h.out
  have ew : (e.wait : Int) + 1 = ((e.wait + 1 : Nat) : Int) := by omega
  have HEW := Lib.hid ew
  clear ew
  by_cases hl : 1073741824 ≤ e.low
  · have d1 : decide ((e.low : Int) < 1073741824) = false := by simp; omega
    have HO := Lib.hid (show out2 = emit e.out true (e.wait + 1) by rw [ho2.out]; unfold endBits; rw [decide_eq_true hl])
    clear hl
    go_enter Try.func46, Try.ntmps46
    go_wp2_with fail
    clear c0 c2 f2
    rw [HEW.out]
    obtain ⟨br, hbr⟩ : ∃ br, br = w.heap.size := ⟨_, rfl⟩
    generalize ((w.setCell ⟨p, 2, none⟩ (.int .i64 ((e.wait + 1 : Nat) : Int))).alloc (.cells #[.slice none 0 0, .int .i64 0] 25)) = w1 at HW1 ⊢
    rw [← hbr] at HW1 ⊢
    have HBR := Lib.hid (show w0.w.heap.size ≤ br by have := HB0.out; omega)
    clear hbr lp HB0
    with_reducible refine (send_n ⟨w0.w, br, some (.cells #[.slice none 0 0, .int .i64 0] 25)⟩ p e.low e.high (e.wait + 1) e.out.length out2.length 1 true 1 e.out out2 w1 HW1 rfl (Lib.hid rfl) (by omega) (by omega) (Lib.hid rfl) (by omega) (Lib.hid rfl) HO).mono ?_
    rintro ee w2 ⟨rfl, h2⟩
    have H2 := Lib.hid h2
    have HR2 := Lib.hid (show Blk w2 br 25 #[.slice none 0 0, .int .i64 0] from h2.stay)
    obtain ⟨g, k, cap, c3, hj⟩ := end_join h2 (by have := HL2.out; omega)
    have HJ := Lib.hid hj
    clear h2 hj
    go_wp2_with fail
    with_reducible refine HJ.out.mono ?_
    rintro ee w3 ⟨A, n, c, N, er, rfl, hb3, hq⟩
    have HK3 := Lib.hid (HR2.out.below hb3 HR2.out.lt)
    have HQ3 := Lib.hid hq
    have HB3 := Lib.hid (H2.out.base.trans (hb3.mono H2.out.base.size))
    have HS3 := Lib.hid (show br < w2.heap.size ∧ w0.w.heap.size ≤ w2.heap.size from ⟨HR2.out.lt, H2.out.base.size⟩)
    clear hb3 hq HJ c3
    obtain ⟨y1, y2, y3, y4⟩ := blk2 HK3.out
    go_wp2
    exact bodyPost_ret (v := .tuple #[.agg #[.slice A n c, .int .i64 N], .int .i64 er]) (by simp [results, Try.results46, go_sem, y1, y2]) rfl ⟨A, n, c, N, er, rfl, (HB3.out.setCell HBR.out _).setCell HBR.out _, JQ.mono (JQ.far (JQ.far HQ3.out HS3.out.1 _ _) HS3.out.1 _ _) HS3.out.2⟩
  · have d1 : decide ((e.low : Int) < 1073741824) = true := by simp; omega
    have HO := Lib.hid (show out2 = emit e.out false (e.wait + 1) by rw [ho2.out]; unfold endBits; rw [decide_eq_false hl])
    clear hl
    go_enter Try.func46, Try.ntmps46
    go_wp2_with fail
    clear c0 c2 f2
    rw [HEW.out]
    obtain ⟨br, hbr⟩ : ∃ br, br = w.heap.size := ⟨_, rfl⟩
    generalize ((w.setCell ⟨p, 2, none⟩ (.int .i64 ((e.wait + 1 : Nat) : Int))).alloc (.cells #[.slice none 0 0, .int .i64 0] 25)) = w1 at HW1 ⊢
    rw [← hbr] at HW1 ⊢
    have HBR := Lib.hid (show w0.w.heap.size ≤ br by have := HB0.out; omega)
    clear hbr lp HB0
    with_reducible refine (send_n ⟨w0.w, br, some (.cells #[.slice none 0 0, .int .i64 0] 25)⟩ p e.low e.high (e.wait + 1) e.out.length out2.length 0 false 0 e.out out2 w1 HW1 rfl (Lib.hid rfl) (by omega) (by omega) (Lib.hid rfl) (by omega) (Lib.hid rfl) HO).mono ?_
    rintro ee w2 ⟨rfl, h2⟩
    have H2 := Lib.hid h2
    have HR2 := Lib.hid (show Blk w2 br 25 #[.slice none 0 0, .int .i64 0] from h2.stay)
    obtain ⟨g, k, cap, c3, hj⟩ := end_join h2 (by have := HL2.out; omega)
    have HJ := Lib.hid hj
    clear h2 hj
    go_wp2_with fail
    with_reducible refine HJ.out.mono ?_
    rintro ee w3 ⟨A, n, c, N, er, rfl, hb3, hq⟩
    have HK3 := Lib.hid (HR2.out.below hb3 HR2.out.lt)
    have HQ3 := Lib.hid hq
    have HB3 := Lib.hid (H2.out.base.trans (hb3.mono H2.out.base.size))
    have HS3 := Lib.hid (show br < w2.heap.size ∧ w0.w.heap.size ≤ w2.heap.size from ⟨HR2.out.lt, H2.out.base.size⟩)
    clear hb3 hq HJ c3
    obtain ⟨y1, y2, y3, y4⟩ := blk2 HK3.out
    go_wp2
    exact bodyPost_ret (v := .tuple #[.agg #[.slice A n c, .int .i64 N], .int .i64 er]) (by simp [results, Try.results46, go_sem, y1, y2]) rfl ⟨A, n, c, N, er, rfl, (HB3.out.setCell HBR.out _).setCell HBR.out _, JQ.mono (JQ.far (JQ.far HQ3.out HS3.out.1 _ _) HS3.out.1 _ _) HS3.out.2⟩
end Go.Proofs.Ytgelgbfnioagbaa.Cd
