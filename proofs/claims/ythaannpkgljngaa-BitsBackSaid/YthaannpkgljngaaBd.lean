/-
  The walk of BitsBack, up to its loops.
-/
import Derived.Test.YthaannpkgljngaaBc
import Derived.Test.YthaannpkgljngaaPc
namespace Go.Proofs.Ythaannpkgljngaa
open Go.RowKit

theorem RdL.pair {w : World} {g : Nat} {A1 A2 : Option Addr} {c1 c2 n1 n2 : Nat} {N1 N2 : Int} {bs1 bs2 : List Nat} {t : TypeId} (h1 : Rd w A1 n1 bs1) (h2 : Rd w A2 n2 bs2)
    (hb : Blk w g t #[.slice A1 n1 c1, .int .i64 N1, .slice A2 n2 c2, .int .i64 N2]) :
    RdL w (some ⟨g, 0, none⟩) 2 [⟨A1, n1, c1, N1, bs1⟩, ⟨A2, n2, c2, N2, bs2⟩] := by
  refine ⟨rfl, fun _ => ⟨_, rfl, fun j x hx => ?_⟩⟩
  match j, hx with
  | 0, hx =>
    simp only [List.getElem?_cons_zero, Option.some.injEq] at hx
    subst hx
    refine ⟨?_, ?_, h1⟩
    · rw [add_own, hb.cell]; rfl
    · rw [add_own]; exact (hb.cell 1).trans rfl
  | 1, hx =>
    simp only [List.getElem?_cons_succ, List.getElem?_cons_zero, Option.some.injEq] at hx
    subst hx
    refine ⟨?_, ?_, h2⟩
    · rw [add_own, hb.cell]; rfl
    · rw [add_own]; exact (hb.cell 3).trans rfl
theorem few_two (A1 A2 : Option Addr) (n1 c1 n2 c2 : Nat) (N1 N2 : Int) (bs1 bs2 : List Nat) (t : Bool) (w : World) (h1 : Rd w A1 n1 bs1) (h2 : Rd w A2 n2 bs2) (ht : t = decide (lenW [⟨A1, n1, c1, N1, bs1⟩, ⟨A2, n2, c2, N2, bs2⟩] ≤ 20000)) :
    Calls Try.prog 10 #[.slice (some ⟨w.heap.size, 0, none⟩) 2 2] (w.alloc (.cells #[.slice A1 n1 c1, .int .i64 N1, .slice A2 n2 c2, .int .i64 N2] 24)) fun e w' => e = .returned (.bool t) ∧ Below (w.alloc (.cells #[.slice A1 n1 c1, .int .i64 N1, .slice A2 n2 c2, .int .i64 N2] 24)).heap.size (w.alloc (.cells #[.slice A1 n1 c1, .int .i64 N1, .slice A2 n2 c2, .int .i64 N2] 24)) w' := by
  subst ht
  exact few_any (some ⟨w.heap.size, 0, none⟩) 2 2 _ _ (by unfold maxLen; omega) (Lib.hid (RdL.pair (h1.alloc _) (h2.alloc _) (Blk.new w 24 _)))
/-- the boxes of the first bits and of the last -/
def Bx (w : World) (v0 v1 t0 t1 : Value) (w1 : World) : Prop :=
  Blk w1 w.heap.size 24 #[v0, v1] ∧ Blk w1 (w.heap.size + 1) 24 #[t0, t1] ∧ Below w.heap.size w w1
section
variable {w w1 w2 : World} {v0 v1 t0 t1 : Value}
theorem Bx.start (w : World) (v0 v1 t0 t1 : Value) : Bx w v0 v1 t0 t1 ((w.alloc (.cells #[v0, v1] 24)).alloc (.cells #[t0, t1] 24)) :=
  ⟨(Blk.new _ _ _).alloc _, Blk.newAt (by simp), ((Below.refl _ _).alloc (Nat.le_refl _) _).alloc (by simp) _⟩
theorem Bx.next (h : Bx w v0 v1 t0 t1 w1) (hb : Below w1.heap.size w1 w2) : Bx w v0 v1 t0 t1 w2 :=
  ⟨h.1.below hb h.1.lt, h.2.1.below hb h.2.1.lt, h.2.2.trans (hb.mono (Nat.le_of_lt h.1.lt))⟩
theorem Bx.alloc (h : Bx w v0 v1 t0 t1 w1) (o : Obj) : Bx w v0 v1 t0 t1 (w1.alloc o) :=
  ⟨h.1.alloc o, h.2.1.alloc o, h.2.2.alloc (Nat.le_of_lt h.1.lt) o⟩
theorem Bx.cells (h : Bx w v0 v1 t0 t1 w1) : w1.cell? ⟨w.heap.size, 0, none⟩ = some v0 ∧ w1.cell? ⟨w.heap.size, 1, none⟩ = some v1 ∧ w1.cell? ⟨w.heap.size + 1, 0, none⟩ = some t0 ∧ w1.cell? ⟨w.heap.size + 1, 1, none⟩ = some t1 :=
  ⟨h.1.cell 0, h.1.cell 1, h.2.1.cell 0, h.2.1.cell 1⟩
end

set_option maxRecDepth 100000 in
set_option maxHeartbeats 2000000 in
theorem back_few (A0 A1 AL : Option Addr) (n0 c0 n1 c1 n cap : Nat) (N0 N1 : Int) (bs0 bs1 : List Nat) (w : World) (hr0 : Hid (Rd w A0 n0 bs0)) (hr1 : Hid (Rd w A1 n1 bs1))
    (hf : Hid (false = decide (lenW [⟨A0, n0, c0, N0, bs0⟩, ⟨A1, n1, c1, N1, bs1⟩] ≤ 20000))) :
    Calls Try.prog 5 #[.agg #[.slice A0 n0 c0, .int .i64 N0], .slice AL n cap, .agg #[.slice A1 n1 c1, .int .i64 N1]] w fun e w' => e = .returned (.bool true) ∧ Below w.heap.size w w' := by
  go_enter Try.func5, Try.ntmps5
  go_wp2_with fail
  refine (live_any _).mono ?_
  rintro e w0 ⟨rfl, hb0⟩
  have H0 := Lib.hid ((Bx.start w (.slice A0 n0 c0) (.int .i64 N0) (.slice A1 n1 c1) (.int .i64 N1)).next hb0)
  have HR0 := Lib.hid (((hr0.out.alloc _).alloc _).below hb0)
  have HR1 := Lib.hid (((hr1.out.alloc _).alloc _).below hb0)
  obtain ⟨b0, b1, b2, b3⟩ := H0.out.cells
  clear hb0
  go_wp2_with fail
  refine (few_two A0 A1 n0 c0 n1 c1 N0 N1 bs0 bs1 false _ HR0.out HR1.out hf.out).mono ?_
  rintro e w1 ⟨rfl, hb1⟩
  have H1 := Lib.hid ((Bx.alloc H0.out _).next hb1)
  clear hb1 b0 b1 b2 b3
  go_wp2
  go_ret
  exact ⟨rfl, H1.out.2.2⟩
set_option maxRecDepth 100000 in
set_option maxHeartbeats 2000000 in
theorem back_many (A0 A1 AL : Option Addr) (n0 c0 n1 c1 n cap : Nat) (N0 N1 : Int) (bs0 bs1 : List Nat) (w : World) (hr0 : Hid (Rd w A0 n0 bs0)) (hr1 : Hid (Rd w A1 n1 bs1)) (hn : 100 < n)
    (hf : Hid (true = decide (lenW [⟨A0, n0, c0, N0, bs0⟩, ⟨A1, n1, c1, N1, bs1⟩] ≤ 20000))) :
    Calls Try.prog 5 #[.agg #[.slice A0 n0 c0, .int .i64 N0], .slice AL n cap, .agg #[.slice A1 n1 c1, .int .i64 N1]] w fun e w' => e = .returned (.bool true) ∧ Below w.heap.size w w' := by
  have hd : decide ((100 : Int) < (n : Int)) = true := by simp; omega
  go_enter Try.func5, Try.ntmps5
  go_wp2_with fail
  refine (live_any _).mono ?_
  rintro e w0 ⟨rfl, hb0⟩
  have H0 := Lib.hid ((Bx.start w (.slice A0 n0 c0) (.int .i64 N0) (.slice A1 n1 c1) (.int .i64 N1)).next hb0)
  have HR0 := Lib.hid (((hr0.out.alloc _).alloc _).below hb0)
  have HR1 := Lib.hid (((hr1.out.alloc _).alloc _).below hb0)
  obtain ⟨b0, b1, b2, b3⟩ := H0.out.cells
  clear hb0
  go_wp2_with fail
  refine (few_two A0 A1 n0 c0 n1 c1 N0 N1 bs0 bs1 true _ HR0.out HR1.out hf.out).mono ?_
  rintro e w1 ⟨rfl, hb1⟩
  have H1 := Lib.hid ((Bx.alloc H0.out _).next hb1)
  clear hb1 b0 b1 b2 b3
  go_wp2
  go_ret
  exact ⟨rfl, H1.out.2.2⟩
set_option maxRecDepth 100000 in
set_option maxHeartbeats 2000000 in
theorem back_bad0 (A0 A1 AL : Option Addr) (n0 c0 n1 c1 n cap : Nat) (N0 N1 : Int) (bs0 bs1 : List Nat) (w : World) (hr0 : Hid (Rd w A0 n0 bs0)) (hr1 : Hid (Rd w A1 n1 bs1)) (hn : n ≤ 100) (hok : Hid (okB bs0 N0 = false))
    (hf : Hid (true = decide (lenW [⟨A0, n0, c0, N0, bs0⟩, ⟨A1, n1, c1, N1, bs1⟩] ≤ 20000))) :
    Calls Try.prog 5 #[.agg #[.slice A0 n0 c0, .int .i64 N0], .slice AL n cap, .agg #[.slice A1 n1 c1, .int .i64 N1]] w fun e w' => e = .returned (.bool true) ∧ Below w.heap.size w w' := by
  have hd : decide ((100 : Int) < (n : Int)) = false := by simp; omega
  go_enter Try.func5, Try.ntmps5
  go_wp2_with fail
  refine (live_any _).mono ?_
  rintro e w0 ⟨rfl, hb0⟩
  have H0 := Lib.hid ((Bx.start w (.slice A0 n0 c0) (.int .i64 N0) (.slice A1 n1 c1) (.int .i64 N1)).next hb0)
  have HR0 := Lib.hid (((hr0.out.alloc _).alloc _).below hb0)
  have HR1 := Lib.hid (((hr1.out.alloc _).alloc _).below hb0)
  obtain ⟨b0, b1, b2, b3⟩ := H0.out.cells
  clear hb0
  go_wp2_with fail
  refine (few_two A0 A1 n0 c0 n1 c1 N0 N1 bs0 bs1 true _ HR0.out HR1.out hf.out).mono ?_
  rintro e w1 ⟨rfl, hb1⟩
  have H1 := Lib.hid ((Bx.alloc H0.out _).next hb1)
  have HR01 := Lib.hid ((HR0.out.alloc _).below hb1)
  obtain ⟨b10, b11, b12, b13⟩ := H1.out.cells
  clear hb1 b0 b1 b2 b3
  go_wp2_with fail
  refine (check_no _ _ _ _ bs0 _ HR01.out hok.out).mono ?_
  rintro e w2 ⟨rfl, hb2⟩
  have H2 := Lib.hid (H1.out.next hb2)
  clear hb2 b10 b11 b12 b13
  go_wp2
  go_ret
  exact ⟨rfl, H2.out.2.2⟩
set_option maxRecDepth 100000 in
set_option maxHeartbeats 2000000 in
theorem back_bad1 (A0 A1 AL : Option Addr) (n0 c0 n1 c1 n cap : Nat) (N0 N1 : Int) (bs0 bs1 : List Nat) (w : World) (hr0 : Hid (Rd w A0 n0 bs0)) (hr1 : Hid (Rd w A1 n1 bs1)) (hn : n ≤ 100) (hok : Hid (okB bs0 N0 = true)) (hno : Hid (okB bs1 N1 = false))
    (hf : Hid (true = decide (lenW [⟨A0, n0, c0, N0, bs0⟩, ⟨A1, n1, c1, N1, bs1⟩] ≤ 20000))) :
    Calls Try.prog 5 #[.agg #[.slice A0 n0 c0, .int .i64 N0], .slice AL n cap, .agg #[.slice A1 n1 c1, .int .i64 N1]] w fun e w' => e = .returned (.bool true) ∧ Below w.heap.size w w' := by
  have hd : decide ((100 : Int) < (n : Int)) = false := by simp; omega
  go_enter Try.func5, Try.ntmps5
  go_wp2_with fail
  refine (live_any _).mono ?_
  rintro e w0 ⟨rfl, hb0⟩
  have H0 := Lib.hid ((Bx.start w (.slice A0 n0 c0) (.int .i64 N0) (.slice A1 n1 c1) (.int .i64 N1)).next hb0)
  have HR0 := Lib.hid (((hr0.out.alloc _).alloc _).below hb0)
  have HR1 := Lib.hid (((hr1.out.alloc _).alloc _).below hb0)
  obtain ⟨b0, b1, b2, b3⟩ := H0.out.cells
  clear hb0
  go_wp2_with fail
  refine (few_two A0 A1 n0 c0 n1 c1 N0 N1 bs0 bs1 true _ HR0.out HR1.out hf.out).mono ?_
  rintro e w1 ⟨rfl, hb1⟩
  have H1 := Lib.hid ((Bx.alloc H0.out _).next hb1)
  have HR01 := Lib.hid ((HR0.out.alloc _).below hb1)
  have HR11 := Lib.hid ((HR1.out.alloc _).below hb1)
  obtain ⟨b10, b11, b12, b13⟩ := H1.out.cells
  clear hb1 b0 b1 b2 b3
  go_wp2_with fail
  refine (check_yes _ _ _ _ bs0 _ HR01.out hok.out).mono ?_
  rintro e w2 ⟨rfl, hb2⟩
  have H2 := Lib.hid (H1.out.next hb2)
  have HR12 := Lib.hid (HR11.out.below hb2)
  obtain ⟨b20, b21, b22, b23⟩ := H2.out.cells
  clear hb2 b10 b11 b12 b13
  go_wp2_with fail
  refine (check_no _ _ _ _ bs1 _ HR12.out hno.out).mono ?_
  rintro e w3 ⟨rfl, hb3⟩
  have H3 := Lib.hid (H2.out.next hb3)
  clear hb3 b20 b21 b22 b23
  go_wp2
  go_ret
  exact ⟨rfl, H3.out.2.2⟩
end Go.Proofs.Ythaannpkgljngaa
