/-
  The walk of BitsWrites: Put, PutCode and PutSigned answer what the document's own ones answer, and the bits handed in stay as they were.
-/
import Derived.Test.YthaannpkgljngaaRf
import Derived.Deep.DeepCutAuto
namespace Go.Proofs.Ythaannpkgljngaa
open Go.RowKit

/-- the bits handed in, and their copy -/
def WS (w : World) (A : Option Addr) (n c : Nat) (N : Int) (bs : List Nat) (gW : Nat) (Aw : Option Addr) (nw cw : Nat) (W : World) : Prop :=
  One w w.heap.size (.slice A n c) (.int .i64 N) W ∧ Rd W A n bs ∧ Blk W gW 24 #[.slice Aw nw cw, .int .i64 N] ∧ Rd W Aw nw bs
section
variable {w W W' : World} {A Aw : Option Addr} {n c nw cw gW : Nat} {N : Int} {bs : List Nat}
theorem WS.next (h : WS w A n c N bs gW Aw nw cw W) (hb : Below W.heap.size W W') : WS w A n c N bs gW Aw nw cw W' :=
  ⟨h.1.next hb, h.2.1.below hb, h.2.2.1.below hb h.2.2.1.lt, h.2.2.2.below hb⟩
theorem WS.alloc (h : WS w A n c N bs gW Aw nw cw W) (o : Obj) : WS w A n c N bs gW Aw nw cw (W.alloc o) :=
  ⟨One.alloc h.1 o, h.2.1.alloc o, h.2.2.1.alloc o, h.2.2.2.alloc o⟩
theorem WS.cells (h : WS w A n c N bs gW Aw nw cw W) : W.cell? ⟨w.heap.size, 0, none⟩ = some (.slice A n c) ∧ W.cell? ⟨w.heap.size, 1, none⟩ = some (.int .i64 N) := h.1.cells
theorem Rd.box {r : Nat} {bs' : List Nat} {n' : Nat} {A' : Option Addr} {v0 : Option Addr} {v1 v2 : Nat} {v3 : Int} {t : TypeId} (h : Rd W A' n' bs') (hb : Blk W r t #[.slice v0 v1 v2, .int .i64 v3]) (a b : Value) : Rd ((W.setCell ⟨r, 0, none⟩ a).setCell ⟨r, 1, none⟩ b) A' n' bs' := by
  have c0 : W.cell? ⟨r, 0, none⟩ = some (.slice v0 v1 v2) := hb.cell 0
  have c1 : W.cell? ⟨r, 1, none⟩ = some (.int .i64 v3) := hb.cell 1
  exact (h.setCell _ (fun x => by rw [c0]; simp [byteV])).setCell _ (fun x => by rw [World.cell?_setCell_other _ _ _ _ (by simp), c1]; simp [byteV])
theorem WS.box {r : Nat} {v0 : Option Addr} {v1 v2 : Nat} {v3 : Int} (h : WS w A n c N bs gW Aw nw cw W) (hb : Blk W r 24 #[.slice v0 v1 v2, .int .i64 v3]) (h1 : w.heap.size < r) (h2 : gW < r) (a b : Value) : WS w A n c N bs gW Aw nw cw ((W.setCell ⟨r, 0, none⟩ a).setCell ⟨r, 1, none⟩ b) :=
  ⟨split_set h.1 h1 a b, h.2.1.box hb a b, (h.2.2.1.far (by simp; omega) _).far (by simp; omega) _, h.2.2.2.box hb a b⟩
end
theorem Blk.box {W : World} {r : Nat} {t : TypeId} {v0 v1 : Value} (h : Blk W r t #[v0, v1]) (a b : Value) : Blk ((W.setCell ⟨r, 0, none⟩ a).setCell ⟨r, 1, none⟩ b) r t #[a, b] := by
  have := (h.set_ 0 a).set_ 1 b
  simpa using this
theorem Blk.other {W : World} {g r : Nat} {t : TypeId} {cs : Array Value} (h : Blk W g t cs) (hg : g ≠ r) (a b : Value) : Blk ((W.setCell ⟨r, 0, none⟩ a).setCell ⟨r, 1, none⟩ b) g t cs :=
  (h.far (by simpa using hg) _).far (by simpa using hg) _

theorem own_next {W W' : World} {n B : Nat} {A : Option Addr} {bs : List Nat} (h : n = 0 ∨ ∃ g, A = some ⟨g, 0, none⟩ ∧ B ≤ g ∧ Blk W g 5 (bcells bs)) (hb : Below W.heap.size W W') : n = 0 ∨ ∃ g, A = some ⟨g, 0, none⟩ ∧ B ≤ g ∧ Blk W' g 5 (bcells bs) := by
  rcases h with h | ⟨g, e, hg, h⟩
  · exact .inl h
  · exact .inr ⟨g, e, hg, h.below hb h.lt⟩
theorem Rd.farSet {W : World} {A : Option Addr} {n : Nat} {bs : List Nat} (h : Rd W A n bs) {p : Addr} (hp : ∀ ad, A = some ad → 0 < n → ad.block ≠ p.block) (u : Value) : Rd (W.setCell p u) A n bs :=
  ⟨h.1, h.2.1, fun hn => by
    obtain ⟨ad, e, hc⟩ := h.2.2 hn
    refine ⟨ad, e, fun j x hx => ?_⟩
    rw [World.cell?_setCell_other W p (ad.add j) u (fun e' => hp ad e hn (by rw [e', block_of_add]))]
    exact hc j x hx⟩
theorem WS.byte {w W : World} {A Aw : Option Addr} {n c nw cw gW B g : Nat} {N : Int} {bs : List Nat} (h : WS w A n c N bs gW Aw nw cw W) (h1 : w.heap.size < g) (h2 : gW < g) (hb : ∀ ad, A = some ad → 0 < n → ad.block < B) (hw : ∀ ad, Aw = some ad → 0 < nw → ad.block < B) (hB : B ≤ g) (k : Nat) (u : Value) :
    WS w A n c N bs gW Aw nw cw (W.setCell ⟨g, k, none⟩ u) :=
  ⟨⟨h.1.1.far (by simp; omega) _, h.1.2.setCell (by simp; omega) _⟩, h.2.1.farSet (fun ad e hn => by have := hb ad e hn; simp; omega) _, h.2.2.1.far (by simp; omega) _, h.2.2.2.farSet (fun ad e hn => by have := hw ad e hn; simp; omega) _⟩

set_option maxRecDepth 100000 in
set_option maxHeartbeats 2000000 in
theorem writes_core (A : Option Addr) (n c : Nat) (N v width s : Int) (bs : List Nat) (N1 E1 N2 E2 N3 E3 EC : Int) (bs1 bs2 bs3 : List Nat) (w : World) (hr : Hid (Rd w A n bs)) (hn : Hid (n ≤ maxLen)) (hsmall : n ≤ 20000) (hb3 : Hid (bs3.length ≤ 8192))
    (p1 : Hid (∀ W, Rd W A n bs → Calls Try.prog 12 #[.agg #[.slice A n c, .int .i64 N], .int .u64 v, .int .i64 width] W (JOut W N1 E1 bs1)))
    (q1 : Hid (∀ W, Rd W A n bs → Calls Try.prog 13 #[.agg #[.slice A n c, .int .i64 N], .int .u64 v, .int .i64 width] W (JOut W N1 E1 bs1)))
    (p2 : Hid (∀ W, Rd W A n bs → Calls Try.prog 15 #[.agg #[.slice A n c, .int .i64 N], .int .u64 v] W (JOut W N2 E2 bs2)))
    (q2 : Hid (∀ W, Rd W A n bs → Calls Try.prog 16 #[.agg #[.slice A n c, .int .i64 N], .int .u64 v] W (JOut W N2 E2 bs2)))
    (p3 : Hid (∀ W, Rd W A n bs → Calls Try.prog 17 #[.agg #[.slice A n c, .int .i64 N], .int .i64 s] W (SOut W N3 E3 bs3)))
    (q3 : Hid (∀ W, Rd W A n bs → Calls Try.prog 18 #[.agg #[.slice A n c, .int .i64 N], .int .i64 s] W (JOut W N3 E3 bs3)))
    (p4 : Hid (∀ W, Rd W A n bs → Calls Try.prog 19 #[.agg #[.slice A n c, .int .i64 N]] W fun e w' => e = .returned (.int .i64 EC) ∧ Below W.heap.size W w'))
    (q4 : Hid (∀ W, Rd W A n bs → Calls Try.prog 20 #[.agg #[.slice A n c, .int .i64 N]] W fun e w' => e = .returned (.int .i64 EC) ∧ Below W.heap.size W w')) :
    Calls Try.prog 3 #[.agg #[.slice A n c, .int .i64 N], .int .u64 v, .int .i64 width, .int .i64 s] w fun e w' => e = .returned (.bool true) ∧ Below w.heap.size w w' := by
  go_enter Try.func3, Try.ntmps3
  go_wp2_with fail
  refine (live_any _).mono ?_
  rintro e w0 ⟨rfl, hb0⟩
  have H0 := Lib.hid ((One.start w (.slice A n c) (.int .i64 N)).next hb0)
  have HR0 := Lib.hid ((hr.out.alloc _).below hb0)
  obtain ⟨b0, b1⟩ := H0.out.cells
  clear hb0
  go_wp2_with fail
  refine (few_one A n c N bs true _ HR0.out hn.out (by simp; omega)).mono ?_
  rintro e w1 ⟨rfl, hb1⟩
  have H1 := Lib.hid ((One.alloc H0.out _).next hb1)
  have HR1 := Lib.hid ((HR0.out.alloc _).below hb1)
  obtain ⟨b10, b11⟩ := H1.out.cells
  clear hb1 b0 b1
  go_wp2_with fail
  refine (rcopy_any A n c N bs _ HR1.out hsmall).mono ?_
  rintro e w2 ⟨Aw, nw, cw, rfl, how, hb2⟩
  have hrw : Rd w2 Aw nw bs := by
    have hl := how.1
    rw [List.length_map] at hl
    refine ⟨by omega, HR1.out.2.1, fun hpos => ?_⟩
    obtain ⟨g, cap, e, _, _⟩ := World.ownsRow.form how hpos
    injection e with e1 e2 e3
    subst e1
    refine ⟨_, rfl, fun j x hx => ?_⟩
    exact World.ownsRow.cells how (g := g) rfl j (byteV x) (by rw [List.getElem?_map, hx]; rfl)
  have H2 := Lib.hid (show WS w A n c N bs w2.heap.size Aw nw cw (w2.alloc (.cells #[.slice Aw nw cw, .int .i64 N] 24)) from ⟨One.alloc (H1.out.next hb2) _, (HR1.out.below hb2).alloc _, Blk.new _ _ _, hrw.alloc _⟩)
  have l2 : w.heap.size < w2.heap.size := (H1.out.next hb2).1.lt
  obtain ⟨b20, b21⟩ := (H1.out.next hb2).cells
  clear hb2 how hrw b10 b11
  go_wp2_with fail
  refine (p1.out _ H2.out.2.1).mono ?_
  rintro e w3 ⟨Ax, nx, cx, rfl, hb3, hx3⟩
  have H3 := Lib.hid (H2.out.next hb3)
  have X3 := Lib.hid hx3
  have l3 : w2.heap.size < w3.heap.size := H3.out.2.2.1.lt
  obtain ⟨b30, b31⟩ := H3.out.cells
  generalize w2.heap.size = gW at H2 H3 l2 l3 ⊢
  have m3 : w.heap.size < w3.heap.size := by omega
  clear hb3 hx3 b20 b21
  go_wp2_with fail
  refine (q1.out _ (H3.out.2.1.alloc _)).mono ?_
  rintro e w4 ⟨Ay, ny, cy, rfl, hb4, hy4⟩
  have H4 := Lib.hid ((H3.out.alloc _).next hb4)
  have X4 := Lib.hid ((X3.out.alloc _).below hb4)
  have Y4 := Lib.hid hy4
  have BX4 := Lib.hid ((Blk.new w3 24 #[.slice Ax nx cx, .int .i64 N1]).below hb4 (Blk.new _ _ _).lt)
  have l4 : w3.heap.size < w4.heap.size := BX4.out.lt
  have x40 : w4.cell? ⟨w3.heap.size, 0, none⟩ = some (.slice Ax nx cx) := BX4.out.cell 0
  have x41 : w4.cell? ⟨w3.heap.size, 1, none⟩ = some (.int .i64 N1) := BX4.out.cell 1
  generalize w3.heap.size = gX at H3 H4 BX4 l3 l4 x40 x41 m3 ⊢
  have m4 : w.heap.size < w4.heap.size := by omega
  clear hb4 hy4 b30 b31
  go_wp2_with fail
  refine (same_yes Ax Ay nx ny cx cy N1 bs1 _ (Lib.hid (X4.out.alloc _)) (Lib.hid (Y4.out.alloc _))).mono ?_
  rintro e w5 ⟨rfl, hb5⟩
  have H5 := Lib.hid ((H4.out.alloc _).next hb5)
  have BX5 := Lib.hid ((BX4.out.alloc _).below hb5 (BX4.out.alloc _).lt)
  have BY5 := Lib.hid ((Blk.new w4 24 #[.slice Ay ny cy, .int .i64 N1]).below hb5 (Blk.new _ _ _).lt)
  obtain ⟨b50, b51⟩ := H5.out.cells
  have l5 : w4.heap.size < w5.heap.size := BY5.out.lt
  generalize w4.heap.size = gY at H4 H5 BY5 l4 l5 m4 ⊢
  clear hb5 x40 x41
  go_wp2_with fail
  refine (p2.out _ H5.out.2.1).mono ?_
  rintro e w6 ⟨Ax6, nx6, cx6, rfl, hb6, hx6⟩
  have BX6 := (BX5.out.below hb6 BX5.out.lt)
  have H6 := Lib.hid ((H5.out.next hb6).box BX6 (by omega) (by omega) (.slice Ax6 nx6 cx6) (.int .i64 N2))
  have X6 := Lib.hid (hx6.box BX6 (.slice Ax6 nx6 cx6) (.int .i64 N2))
  have BX6' := Lib.hid (BX6.box (.slice Ax6 nx6 cx6) (.int .i64 N2))
  have BY6 := Lib.hid ((BY5.out.below hb6 BY5.out.lt).other (r := gX) (by omega) (.slice Ax6 nx6 cx6) (.int .i64 N2))
  have x60 : w6.cell? ⟨gX, 0, none⟩ = some (.slice Ax nx cx) := BX6.cell 0
  have x61 : w6.cell? ⟨gX, 1, none⟩ = some (.int .i64 N1) := BX6.cell 1
  have f60 := BX6.frozen 0
  have f61 := BX6.frozen 1
  obtain ⟨b60, b61⟩ := (H5.out.next hb6).cells
  clear hb6 hx6 BX6 b50 b51
  go_wp2_with fail
  obtain ⟨w6', hw6⟩ : ∃ w6', w6' = (w6.setCell ⟨gX, 0, none⟩ (.slice Ax6 nx6 cx6)).setCell ⟨gX, 1, none⟩ (.int .i64 N2) := ⟨_, rfl⟩
  rw [← hw6] at H6 X6 BX6' BY6
  rw [← hw6]
  clear hw6 x60 x61 f60 f61 b60 b61
  refine (q2.out _ H6.out.2.1).mono ?_
  rintro e w7 ⟨Ay7, ny7, cy7, rfl, hb7, hy7⟩
  have BY7 := (BY6.out.below hb7 BY6.out.lt)
  have BX7 := (BX6'.out.below hb7 BX6'.out.lt)
  have H7 := Lib.hid ((H6.out.next hb7).box BY7 (by omega) (by omega) (.slice Ay7 ny7 cy7) (.int .i64 N2))
  have X7 := Lib.hid ((X6.out.below hb7).box BY7 (.slice Ay7 ny7 cy7) (.int .i64 N2))
  have Y7 := Lib.hid (hy7.box BY7 (.slice Ay7 ny7 cy7) (.int .i64 N2))
  have BY7' := Lib.hid (BY7.box (.slice Ay7 ny7 cy7) (.int .i64 N2))
  have BX7' := Lib.hid (BX7.other (r := gY) (by omega) (.slice Ay7 ny7 cy7) (.int .i64 N2))
  have y70 : w7.cell? ⟨gY, 0, none⟩ = some (.slice Ay ny cy) := BY7.cell 0
  have y71 : w7.cell? ⟨gY, 1, none⟩ = some (.int .i64 N1) := BY7.cell 1
  have f70 := BY7.frozen 0
  have f71 := BY7.frozen 1
  have x70 : w7.cell? ⟨gX, 0, none⟩ = some (.slice Ax6 nx6 cx6) := BX7.cell 0
  have x71 : w7.cell? ⟨gX, 1, none⟩ = some (.int .i64 N2) := BX7.cell 1
  have nXY : ¬ gX = gY := by omega
  have nYX : ¬ gY = gX := by omega
  clear hb7 hy7 BY7 BX7
  go_wp2_with fail
  obtain ⟨w7', hw7⟩ : ∃ w7', w7' = (w7.setCell ⟨gY, 0, none⟩ (.slice Ay7 ny7 cy7)).setCell ⟨gY, 1, none⟩ (.int .i64 N2) := ⟨_, rfl⟩
  rw [← hw7] at H7 X7 Y7 BY7' BX7'
  rw [← hw7]
  clear hw7 y70 y71 f70 f71 x70 x71
  refine (same_yes Ax6 Ay7 nx6 ny7 cx6 cy7 N2 bs2 _ X7 Y7).mono ?_
  rintro e w8 ⟨rfl, hb8⟩
  have H8 := Lib.hid (H7.out.next hb8)
  have BX8 := Lib.hid (BX7'.out.below hb8 BX7'.out.lt)
  have BY8 := Lib.hid (BY7'.out.below hb8 BY7'.out.lt)
  obtain ⟨b80, b81⟩ := H8.out.cells
  clear hb8
  go_wp2_with fail
  refine (p3.out _ H8.out.2.1).mono ?_
  rintro e w9 ⟨Ax9, nx9, cx9, rfl, hb9, hx9, ho9⟩
  have BX9 := (BX8.out.below hb9 BX8.out.lt)
  have LB := Lib.hid (fun ad (e : A = some ad) (hp : 0 < n) => H8.out.2.1.lies hp ad e)
  have LW := Lib.hid (fun ad (e : Aw = some ad) (hp : 0 < nw) => H8.out.2.2.2.lies hp ad e)
  have l8X : gX < w8.heap.size := BX8.out.lt
  have l8Y : gY < w8.heap.size := BY8.out.lt
  have H9 := Lib.hid ((H8.out.next hb9).box BX9 (by omega) (by omega) (.slice Ax9 nx9 cx9) (.int .i64 N3))
  have X9 := Lib.hid (hx9.box BX9 (.slice Ax9 nx9 cx9) (.int .i64 N3))
  have O9 := Lib.hid (show nx9 = 0 ∨ ∃ g, Ax9 = some ⟨g, 0, none⟩ ∧ w8.heap.size ≤ g ∧ Blk ((w9.setCell ⟨gX, 0, none⟩ (.slice Ax9 nx9 cx9)).setCell ⟨gX, 1, none⟩ (.int .i64 N3)) g 5 (bcells bs3) from by
    rcases ho9 with h | ⟨g, e, hg, hb⟩
    · exact .inl h
    · exact .inr ⟨g, e, hg, hb.other (by omega) _ _⟩)
  have BX9' := Lib.hid (BX9.box (.slice Ax9 nx9 cx9) (.int .i64 N3))
  have BY9 := Lib.hid ((BY8.out.below hb9 BY8.out.lt).other (r := gX) (by omega) (.slice Ax9 nx9 cx9) (.int .i64 N3))
  have x90 : w9.cell? ⟨gX, 0, none⟩ = some (.slice Ax6 nx6 cx6) := BX9.cell 0
  have x91 : w9.cell? ⟨gX, 1, none⟩ = some (.int .i64 N2) := BX9.cell 1
  have f90 := BX9.frozen 0
  have f91 := BX9.frozen 1
  obtain ⟨b90, b91⟩ := (H8.out.next hb9).cells
  clear hb9 hx9 ho9 BX9 b80 b81
  go_wp2_with fail
  obtain ⟨w9', hw9⟩ : ∃ w9', w9' = (w9.setCell ⟨gX, 0, none⟩ (.slice Ax9 nx9 cx9)).setCell ⟨gX, 1, none⟩ (.int .i64 N3) := ⟨_, rfl⟩
  rw [← hw9] at H9 X9 O9 BX9' BY9
  rw [← hw9]
  clear hw9 x90 x91 f90 f91 b90 b91
  refine (q3.out _ H9.out.2.1).mono ?_
  rintro e w10 ⟨Ay10, ny10, cy10, rfl, hb10, hy10⟩
  have BY10 := (BY9.out.below hb10 BY9.out.lt)
  have BX10 := (BX9'.out.below hb10 BX9'.out.lt)
  have H10 := Lib.hid ((H9.out.next hb10).box BY10 (by omega) (by omega) (.slice Ay10 ny10 cy10) (.int .i64 N3))
  have X10 := Lib.hid ((X9.out.below hb10).box BY10 (.slice Ay10 ny10 cy10) (.int .i64 N3))
  have Y10 := Lib.hid (hy10.box BY10 (.slice Ay10 ny10 cy10) (.int .i64 N3))
  have O10 := Lib.hid (show nx9 = 0 ∨ ∃ g, Ax9 = some ⟨g, 0, none⟩ ∧ w8.heap.size ≤ g ∧ Blk ((w10.setCell ⟨gY, 0, none⟩ (.slice Ay10 ny10 cy10)).setCell ⟨gY, 1, none⟩ (.int .i64 N3)) g 5 (bcells bs3) from by
    rcases O9.out with h | ⟨g, e, hg, hb⟩
    · exact .inl h
    · exact .inr ⟨g, e, hg, (hb.below hb10 hb.lt).other (by omega) _ _⟩)
  have BY10' := Lib.hid (BY10.box (.slice Ay10 ny10 cy10) (.int .i64 N3))
  have BX10' := Lib.hid (BX10.other (r := gY) (by omega) (.slice Ay10 ny10 cy10) (.int .i64 N3))
  have y100 : w10.cell? ⟨gY, 0, none⟩ = some (.slice Ay7 ny7 cy7) := BY10.cell 0
  have y101 : w10.cell? ⟨gY, 1, none⟩ = some (.int .i64 N2) := BY10.cell 1
  have f100 := BY10.frozen 0
  have f101 := BY10.frozen 1
  clear hb10 hy10 BY10 BX10
  go_wp2_with fail
  obtain ⟨w10', hw10⟩ : ∃ w10', w10' = (w10.setCell ⟨gY, 0, none⟩ (.slice Ay10 ny10 cy10)).setCell ⟨gY, 1, none⟩ (.int .i64 N3) := ⟨_, rfl⟩
  rw [← hw10] at H10 X10 Y10 O10 BY10' BX10'
  rw [← hw10]
  clear hw10 y100 y101 f100 f101
  go_cut [95] (fun t wx => t = .bool false ∧ WS w A n c N bs gW Aw nw cw wx ∧ Blk wx gX 24 #[.slice Ax9 nx9 cx9, .int .i64 N3] ∧ (nx9 = 0 ∨ ∃ g, Ax9 = some ⟨g, 0, none⟩ ∧ w8.heap.size ≤ g ∧ Blk wx g 5 (bcells bs3)))
  case first =>
    have x0 : w10'.cell? ⟨gX, 0, none⟩ = some (.slice Ax9 nx9 cx9) := BX10'.out.cell 0
    have x1 : w10'.cell? ⟨gX, 1, none⟩ = some (.int .i64 N3) := BX10'.out.cell 1
    have y0 : w10'.cell? ⟨gY, 0, none⟩ = some (.slice Ay10 ny10 cy10) := BY10'.out.cell 0
    have y1 : w10'.cell? ⟨gY, 1, none⟩ = some (.int .i64 N3) := BY10'.out.cell 1
    obtain ⟨b0, b1⟩ := H10.out.cells
    have he : (E3 != E3) = false := by simp
    have hec : (EC != EC) = false := by simp
    go_region_with (first
      | (go_at_call 14
         refine (same_yes Ax9 Ay10 nx9 ny10 cx9 cy10 N3 bs3 _ (Lib.hid X10.out.drew) (Lib.hid Y10.out.drew)).mono ?_
         rintro e w11 ⟨rfl, hb11⟩
         have H11 := Lib.hid (H10.out.next (undrew hb11))
         have BX11 := Lib.hid (BX10'.out.below (undrew hb11) BX10'.out.lt)
         have O11 := Lib.hid (own_next O10.out (undrew hb11))
         obtain ⟨b110, b111⟩ := H11.out.cells
         clear hb11)
      | (go_at_call 19
         refine (p4.out _ H11.out.2.1).mono ?_
         rintro e w12 ⟨rfl, hb12⟩
         have H12 := Lib.hid (H11.out.next hb12)
         have BX12 := Lib.hid (BX11.out.below hb12 BX11.out.lt)
         have O12 := Lib.hid (own_next O11.out hb12)
         obtain ⟨b120, b121⟩ := H12.out.cells
         clear hb12)
      | (go_at_call 20
         refine (q4.out _ H12.out.2.1).mono ?_
         rintro e w13 ⟨rfl, hb13⟩
         have H13 := Lib.hid (H12.out.next hb13)
         have BX13 := Lib.hid (BX12.out.below hb13 BX12.out.lt)
         have O13 := Lib.hid (own_next O12.out hb13)
         clear hb13))
    all_goals
      go_wp2_with fail
      go_meet
      exact ⟨rfl, H13.out, BX13.out, O13.out⟩
  case rest =>
    obtain ⟨rfl, hws, hbx, ho⟩ := hcut
    have HWS := Lib.hid hws
    have HBX := Lib.hid hbx
    have HO := Lib.hid ho
    have x0 : wc.cell? ⟨gX, 0, none⟩ = some (.slice Ax9 nx9 cx9) := hbx.cell 0
    have hn9 : nx9 ≤ 8192 := by have := X10.out.1; have := hb3.out; omega
    clear hws hbx ho
    go_wp2
    clear x0
    go_loopw [15, 99] (fun _ i wr => ∃ k : Nat, k ≤ nx9 ∧ i = .int .i64 (k : Int) ∧ WS w A n c N bs gW Aw nw cw wr ∧ Blk wr gX 24 #[.slice Ax9 nx9 cx9, .int .i64 N3] ∧ (nx9 = 0 ∨ ∃ g cur, Ax9 = some ⟨g, 0, none⟩ ∧ w8.heap.size ≤ g ∧ cur.length = nx9 ∧ Blk wr g 5 (bcells cur)))
      (fun _ i _ => nx9 - (intOf i).toNat)
    case atStart =>
      refine ⟨0, Nat.zero_le _, rfl, HWS.out, HBX.out, ?_⟩
      rcases HO.out with h | ⟨g, e, hg, hb⟩
      · exact .inl h
      · exact .inr ⟨g, bs3, e, hg, X10.out.1, hb⟩
    case round =>
      obtain ⟨k, hk, rfl, hws, hbx, ho⟩ := hrel
      by_cases hlt : k < nx9
      · obtain ⟨g, cur, rfl, hg, hcl, hblk⟩ : ∃ g cur, Ax9 = some ⟨g, 0, none⟩ ∧ w8.heap.size ≤ g ∧ cur.length = nx9 ∧ Blk wr g 5 (bcells cur) := by
          rcases ho with h | h
          · omega
          · exact h
        clear ho
        have x0 : wr.cell? ⟨gX, 0, none⟩ = some (.slice (some ⟨g, 0, none⟩) nx9 cx9) := hbx.cell 0
        have hck := (hblk.cell k).trans (bcells_get (by omega))
        obtain ⟨y, hy⟩ : ∃ y, y = cur.getD k 0 := ⟨_, rfl⟩
        rw [← hy] at hck
        have hfk := hblk.frozen k
        have HWS2 := Lib.hid hws
        have HBX2 := Lib.hid hbx
        have HBLK := Lib.hid hblk
        have HCL := Lib.hid hcl
        clear hws hbx hblk hy hcl
        go_wp2
        go_roundw
        case rel =>
          have e1 : ((y : Int) + 1) % 256 = (((y + 1) % 256 : Nat) : Int) := by omega
          refine ⟨k + 1, by omega, by go_num, HWS2.out.byte (by omega) (by omega) LB.out LW.out hg _ _, HBX2.out.far (by simp; omega) _, .inr ⟨g, cur.set k ((y + 1) % 256), rfl, hg, by rw [List.length_set]; exact HCL.out, ?_⟩⟩
          have := HBLK.out.set_ k (.int .u8 (((y + 1) % 256 : Nat) : Int))
          rw [bcells_set] at this
          rw [e1]
          exact this
        case measure => simp [intOf]; omega
      · obtain rfl : k = nx9 := by omega
        obtain ⟨b0, b1⟩ := hws.cells
        have w0' : wr.cell? ⟨gW, 0, none⟩ = some (.slice Aw nw cw) := hws.2.2.1.cell 0
        have w1' : wr.cell? ⟨gW, 1, none⟩ = some (.int .i64 N) := hws.2.2.1.cell 1
        have HWS2 := Lib.hid hws
        clear hws hbx ho
        go_wp2_with fail
        refine (same_yes A Aw n nw c cw N bs _ (Lib.hid HWS2.out.2.1) (Lib.hid HWS2.out.2.2.2)).mono ?_
        rintro e w14 ⟨rfl, hb14⟩
        have H14 := Lib.hid (HWS2.out.next hb14)
        clear hb14 b0 b1 w0' w1'
        go_wp2
        go_ret
        exact ⟨rfl, H14.out.1.2⟩

end Go.Proofs.Ythaannpkgljngaa
