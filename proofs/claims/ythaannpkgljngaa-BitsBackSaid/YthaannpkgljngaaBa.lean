/-
  What GetSigned answers, and the statement's own put.
-/
import Derived.Test.YthaannpkgljngaaRf
namespace Go.Proofs.Ythaannpkgljngaa
open Go.RowKit

def unzig (c : Nat) : Int := if c % 2 = 1 then -((c / 2 : Nat) : Int) - 1 else ((c / 2 : Nat) : Int)
theorem unzig_zig (s : Int) : unzig (zig s) = s := by
  unfold unzig zig
  split <;> split <;> omega
theorem zig_le (s : Int) (h0 : -1073741824 ≤ s) (h1 : s ≤ 1073741824) : zig s ≤ 2147483648 := by unfold zig; split <;> omega
set_option maxHeartbeats 1000000 in
theorem getSigned_good (A : Option Addr) (n c x y : Nat) (N ai s : Int) (w : World) (hx : x ≤ 2147483648) (hs : Hid (s = unzig x))
    (hcall : Hid (Calls Try.prog 26 #[.agg #[.slice A n c, .int .i64 N], .int .i64 ai] (w.alloc (.cells #[.slice A n c, .int .i64 N] 24)) fun e w' => e = .returned (.tuple #[.int .u64 (x : Int), .int .i64 (y : Int), .int .i64 0]) ∧ Below (w.alloc (.cells #[.slice A n c, .int .i64 N] 24)).heap.size (w.alloc (.cells #[.slice A n c, .int .i64 N] 24)) w')) :
    Calls Try.prog 25 #[.agg #[.slice A n c, .int .i64 N], .int .i64 ai] w fun e w' => e = .returned (.tuple #[.int .i64 s, .int .i64 (y : Int), .int .i64 0]) ∧ Below w.heap.size w w' := by
  have d1 : decide ((2147483648 : Int) < (x : Int)) = false := by simp; omega
  go_enter Try.func25, Try.ntmps25
  go_wp2_with fail
  refine hcall.out.mono ?_
  rintro e w1 ⟨rfl, hb1⟩
  have H1 := Lib.hid (show Below w.heap.size w w1 from ((Below.refl _ _).alloc (Nat.le_refl _) _).trans (hb1.mono (by simp)))
  clear hb1
  by_cases ho : x % 2 = 1
  · have d2 : ((x : Int) % 2 == 1) = true := by simp; omega
    have HS := Lib.hid (show s = -((x / 2 : Nat) : Int) - 1 by have := hs.out; unfold unzig at this; rwa [if_pos ho] at this)
    go_wp2
    refine bodyPost_ret (v := .tuple #[.int .i64 (-((x / 2 : Nat) : Int) - 1), .int .i64 (y : Int), .int .i64 0]) (by simp [results, Try.results25, go_sem]) rfl ⟨by rw [HS.out], H1.out⟩
  · have d2 : ((x : Int) % 2 == 1) = false := by simp; omega
    have HS := Lib.hid (show s = ((x / 2 : Nat) : Int) by have := hs.out; unfold unzig at this; rwa [if_neg ho] at this)
    go_wp2
    refine bodyPost_ret (v := .tuple #[.int .i64 ((x / 2 : Nat) : Int), .int .i64 (y : Int), .int .i64 0]) (by simp [results, Try.results25, go_sem]) rfl ⟨by rw [HS.out], H1.out⟩
/-- the blocks of a call of put: the bits, the item, the answer -/
def Thr (w : World) (v0 v1 x0 x1 : Value) (w1 : World) : Prop :=
  Blk w1 w.heap.size 24 #[v0, v1] ∧ Blk w1 (w.heap.size + 1) 43 #[x0, x1] ∧ Blk w1 (w.heap.size + 1 + 1) 24 #[.slice none 0 0, .int .i64 0] ∧ Below w.heap.size w w1
theorem Thr.start (w : World) (v0 v1 x0 x1 : Value) : Thr w v0 v1 x0 x1 (((w.alloc (.cells #[v0, v1] 24)).alloc (.cells #[x0, x1] 43)).alloc (.cells #[.slice none 0 0, .int .i64 0] 24)) :=
  ⟨((Blk.new w _ _).alloc _).alloc _, (Blk.newAt (by simp)).alloc _, Blk.newAt (by simp), (((Below.refl _ _).alloc (Nat.le_refl _) _).alloc (by simp) _).alloc (by simp; omega) _⟩
theorem Thr.next {w w1 w2 : World} {v0 v1 x0 x1 : Value} (h : Thr w v0 v1 x0 x1 w1) (hb : Below w1.heap.size w1 w2) : Thr w v0 v1 x0 x1 w2 :=
  ⟨h.1.below hb h.1.lt, h.2.1.below hb h.2.1.lt, h.2.2.1.below hb h.2.2.1.lt, h.2.2.2.trans (hb.mono h.2.2.2.size)⟩
theorem Thr.res {w w1 : World} {v0 v1 x0 x1 : Value} (h : Thr w v0 v1 x0 x1 w1) :
    w1.cell? ⟨w.heap.size + 1 + 1, 0, none⟩ = some (.slice none 0 0) ∧ w1.cell? ⟨w.heap.size + 1 + 1, 1, none⟩ = some (.int .i64 0) ∧ w1.frozen? ⟨w.heap.size + 1 + 1, 0, none⟩ = false ∧ w1.frozen? ⟨w.heap.size + 1 + 1, 1, none⟩ = false :=
  ⟨h.2.2.1.cell 0, h.2.2.1.cell 1, h.2.2.1.frozen 0, h.2.2.1.frozen 1⟩
theorem Thr.below {w w1 : World} {v0 v1 x0 x1 : Value} (h : Thr w v0 v1 x0 x1 w1) (a b : Value) : Below w.heap.size w ((w1.setCell ⟨w.heap.size + 1 + 1, 0, none⟩ a).setCell ⟨w.heap.size + 1 + 1, 1, none⟩ b) :=
  (h.2.2.2.setCell (by simp; omega) _).setCell (by simp; omega) _
theorem sout_res {w w1 : World} {A2 : Option Addr} {n2 c2 : Nat} {N' E : Int} {bs' : List Nat} {v0 v1 x0 x1 : Value} (h : Thr w v0 v1 x0 x1 w1) (hr : Rd w1 A2 n2 bs') (ho : n2 = 0 ∨ ∃ g, A2 = some ⟨g, 0, none⟩ ∧ w.heap.size + 3 ≤ g ∧ Blk w1 g 5 (bcells bs')) :
    SOut w N' E bs' (.returned (.tuple #[.agg #[.slice A2 n2 c2, .int .i64 N'], .int .i64 E])) ((w1.setCell ⟨w.heap.size + 1 + 1, 0, none⟩ (.slice A2 n2 c2)).setCell ⟨w.heap.size + 1 + 1, 1, none⟩ (.int .i64 N')) := by
  obtain ⟨y0, y1, _, _⟩ := h.res
  refine ⟨A2, n2, c2, rfl, h.below _ _, ?_, ?_⟩
  · exact (hr.setCell _ (fun x => by rw [y0]; simp [byteV])).setCell _ (fun x => by rw [World.cell?_setCell_other _ _ _ _ (by simp), y1]; simp [byteV])
  · rcases ho with h | ⟨g, e, hg, hb⟩
    · exact .inl h
    · exact .inr ⟨g, e, by omega, (hb.far (by simp; omega) _).far (by simp; omega) _⟩
set_option maxHeartbeats 1000000 in
theorem item_w (A : Option Addr) (n c : Nat) (N V W N' E : Int) (bs bs' : List Nat) (w : World) (hr : Hid (Rd w A n bs)) (hW : 0 ≤ W)
    (hcall : Hid (∀ (U : World), Rd U A n bs → Calls Try.prog 12 #[.agg #[.slice A n c, .int .i64 N], .int .u64 V, .int .i64 W] U (SOut U N' E bs'))) :
    Calls Try.prog 23 #[.agg #[.slice A n c, .int .i64 N], .agg #[.int .u64 V, .int .i64 W]] w (SOut w N' E bs') := by
  go_enter Try.func23, Try.ntmps23
  go_wp2_with fail
  refine (hcall.out _ (((hr.out.alloc _).alloc _).alloc _)).mono ?_
  rintro e w1 ⟨A2, n2, c2, rfl, hb1, hr1, ho1⟩
  have H1 := Lib.hid ((Thr.start w (.slice A n c) (.int .i64 N) (.int .u64 V) (.int .i64 W)).next hb1)
  obtain ⟨y0, y1, y2, y3⟩ := H1.out.res
  have HR := Lib.hid hr1
  have HO := Lib.hid ho1
  clear hb1 hr1 ho1
  go_wp2
  exact bodyPost_ret (v := .tuple #[.agg #[.slice A2 n2 c2, .int .i64 N'], .int .i64 E]) (by simp [results, Try.results23, go_sem, y0, y1]) rfl (sout_res H1.out HR.out (by simpa using HO.out))
set_option maxHeartbeats 1000000 in
theorem item_s (A : Option Addr) (n c V : Nat) (N W N' E s : Int) (bs bs' : List Nat) (w : World) (hr : Hid (Rd w A n bs)) (hW : W < -1) (hV : V < 18446744073709551616) (hs : Hid (s = (V : Int) % 2147483648 - 1073741824))
    (hcall : Hid (∀ (U : World) (si : Int), Rd U A n bs → si = s → Calls Try.prog 17 #[.agg #[.slice A n c, .int .i64 N], .int .i64 si] U (SOut U N' E bs'))) :
    Calls Try.prog 23 #[.agg #[.slice A n c, .int .i64 N], .agg #[.int .u64 (V : Int), .int .i64 W]] w (SOut w N' E bs') := by
  have hW0 : ¬ 0 ≤ W := by omega
  have d0 : decide (0 ≤ W) = false := by simp; omega
  have d1 : decide (W < -1) = true := by simp; omega
  go_enter Try.func23, Try.ntmps23
  go_wp2_with fail
  refine (hcall.out _ _ (((hr.out.alloc _).alloc _).alloc _) (by rw [hs.out])).mono ?_
  rintro e w1 ⟨A2, n2, c2, rfl, hb1, hr1, ho1⟩
  have H1 := Lib.hid ((Thr.start w (.slice A n c) (.int .i64 N) (.int .u64 (V : Int)) (.int .i64 W)).next hb1)
  obtain ⟨y0, y1, y2, y3⟩ := H1.out.res
  have HR := Lib.hid hr1
  have HO := Lib.hid ho1
  clear hb1 hr1 ho1
  go_wp2
  exact bodyPost_ret (v := .tuple #[.agg #[.slice A2 n2 c2, .int .i64 N'], .int .i64 E]) (by simp [results, Try.results23, go_sem, y0, y1]) rfl (sout_res H1.out HR.out (by simpa using HO.out))
set_option maxHeartbeats 1000000 in
theorem item_c (A : Option Addr) (n c : Nat) (N V N' E : Int) (bs bs' : List Nat) (w : World) (hr : Hid (Rd w A n bs))
    (hcall : Hid (∀ (U : World), Rd U A n bs → Calls Try.prog 15 #[.agg #[.slice A n c, .int .i64 N], .int .u64 V] U (SOut U N' E bs'))) :
    Calls Try.prog 23 #[.agg #[.slice A n c, .int .i64 N], .agg #[.int .u64 V, .int .i64 (-1)]] w (SOut w N' E bs') := by
  go_enter Try.func23, Try.ntmps23
  go_wp2_with fail
  refine (hcall.out _ (((hr.out.alloc _).alloc _).alloc _)).mono ?_
  rintro e w1 ⟨A2, n2, c2, rfl, hb1, hr1, ho1⟩
  have H1 := Lib.hid ((Thr.start w (.slice A n c) (.int .i64 N) (.int .u64 V) (.int .i64 (-1))).next hb1)
  obtain ⟨y0, y1, y2, y3⟩ := H1.out.res
  have HR := Lib.hid hr1
  have HO := Lib.hid ho1
  clear hb1 hr1 ho1
  go_wp2
  exact bodyPost_ret (v := .tuple #[.agg #[.slice A2 n2 c2, .int .i64 N'], .int .i64 E]) (by simp [results, Try.results23, go_sem, y0, y1]) rfl (sout_res H1.out HR.out (by simpa using HO.out))
end Go.Proofs.Ythaannpkgljngaa
