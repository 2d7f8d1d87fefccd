/-
  Own texts, laid together: Ja.
-/
import Derived.Test.YtgelgbfnioagbaaGi
import Derived.Deep.LoopGhost
import Derived.Deep.RegionHeld3
import Derived.Deep.DeepCutAuto
/- Ja -/
namespace Go.Proofs.Ytgelgbfnioagbaa.Cd
open Go.RowKit
/-- a state by value, and an error -/
def EOut (w : World) (lo hi : Nat) (wt N E : Int) (bs : List Nat) (e : Ending) (w' : World) : Prop :=
  ∃ A n c, e = .returned (.tuple #[encV lo hi wt A n c N, .int .i64 E]) ∧ Below w.heap.size w w' ∧ Rd w' A n bs
theorem EOut.err {w w' : World} {E : Int} (hb : Below w.heap.size w w') : EOut w 0 0 0 0 E [] (.returned (.tuple #[encV 0 0 0 none 0 0 0, .int .i64 E])) w' := ⟨none, 0, 0, rfl, hb, Rd.none_⟩
/-- the two boxes, the result, and what lies behind them -/
def PutS (w w' : World) (be bf br : Nat) (low high : Nat) (wt : Int) (A C : Option Addr) (n c m d : Nat) (N : Int) (bs : List Nat) (xs : List Int) : Prop :=
  Blk w' be 27 #[.int .u32 (low : Int), .int .u32 (high : Int), .int .i64 wt, .slice A n c, .int .i64 N] ∧ Blk w' bf 30 #[.slice C m d] ∧ Blk w' br 27 #[.int .u32 0, .int .u32 0, .int .i64 0, .slice none 0 0, .int .i64 0] ∧ Rd w' A n bs ∧ Fq.RdI w' C m xs ∧ Below w.heap.size w w'
section
variable {w w1 w2 : World} {be bf br : Nat} {low high : Nat} {wt : Int} {A C : Option Addr} {n c m d : Nat} {N : Int} {bs : List Nat} {xs : List Int}
theorem PutS.next (h : PutS w w1 be bf br low high wt A C n c m d N bs xs) (hb : Below w1.heap.size w1 w2) : PutS w w2 be bf br low high wt A C n c m d N bs xs :=
  ⟨h.1.below hb h.1.lt, h.2.1.below hb h.2.1.lt, h.2.2.1.below hb h.2.2.1.lt, h.2.2.2.1.below hb, h.2.2.2.2.1.below hb, h.2.2.2.2.2.trans (hb.mono h.2.2.2.2.2.size)⟩
theorem PutS.drewN (h : PutS w w1 be bf br low high wt A C n c m d N bs xs) (q : Nat) : PutS w (w1.drewN q) be bf br low high wt A C n c m d N bs xs :=
  ⟨h.1, h.2.1, h.2.2.1, h.2.2.2.1, h.2.2.2.2.1, below_drewN h.2.2.2.2.2 q⟩
theorem PutS.drew (h : PutS w w1 be bf br low high wt A C n c m d N bs xs) : PutS w w1.drew be bf br low high wt A C n c m d N bs xs :=
  ⟨h.1, h.2.1, h.2.2.1, h.2.2.2.1, h.2.2.2.2.1, Below.drew h.2.2.2.2.2⟩
end
theorem putS_start (w : World) (low high : Nat) (wt : Int) (A C : Option Addr) (n c m d : Nat) (N : Int) (bs : List Nat) (xs : List Int) (hr : Rd w A n bs) (hx : Fq.RdI w C m xs) :
    PutS w (((w.alloc (.cells #[.int .u32 (low : Int), .int .u32 (high : Int), .int .i64 wt, .slice A n c, .int .i64 N] 27)).alloc (.cells #[.slice C m d] 30)).alloc (.cells #[.int .u32 0, .int .u32 0, .int .i64 0, .slice none 0 0, .int .i64 0] 27)) w.heap.size (w.heap.size + 1) (w.heap.size + 1 + 1) low high wt A C n c m d N bs xs :=
  ⟨((Blk.new w _ _).alloc _).alloc _, (Blk.newAt (by simp)).alloc _, Blk.newAt (by simp), ((hr.alloc _).alloc _).alloc _, ((hx.alloc _).alloc _).alloc _, (((Below.refl w.heap.size w).alloc (Nat.le_refl _) _).alloc (by simp) _).alloc (by simp; omega) _⟩
theorem frz5 {w : World} {t : TypeId} {cs : Array Value} {g : Nat} (h : Blk w g t cs) : w.frozen? ⟨g, 0, none⟩ = false ∧ w.frozen? ⟨g, 1, none⟩ = false ∧ w.frozen? ⟨g, 2, none⟩ = false ∧ w.frozen? ⟨g, 3, none⟩ = false ∧ w.frozen? ⟨g, 4, none⟩ = false := ⟨h.frozen 0, h.frozen 1, h.frozen 2, h.frozen 3, h.frozen 4⟩
set_option maxRecDepth 100000 in
set_option maxHeartbeats 2000000 in
theorem rputE_arg (low high : Nat) (wt : Int) (A C : Option Addr) (n c m d : Nat) (N : Int) (bs : List Nat) (xs : List Int) (s : Int) (w : World) (hl : low < 4294967296) (hh : high < 4294967296) (hr : Hid (Rd w A n bs)) (hx : Hid (Fq.RdI w C m xs)) (hm : Hid (m ≤ maxLen)) (hbad : Hid (okE low high wt bs N = false ∨ okE low high wt bs N = true ∧ Fq.symB xs s = false)) :
    Calls Try.prog 14 #[encV low high wt A n c N, Fq.frV C m d, .int .i64 s] w (EOut w 0 0 0 0 1 []) := by
  have HS0 := Lib.hid (putS_start w low high wt A C n c m d N bs xs hr.out hx.out)
  unfold encV Fq.frV
  go_enter Try.func14, Try.ntmps14
  go_wp2_with fail
  generalize (((w.alloc (.cells #[.int .u32 (low : Int), .int .u32 (high : Int), .int .i64 wt, .slice A n c, .int .i64 N] 27)).alloc (.cells #[.slice C m d] 30)).alloc (.cells #[.int .u32 0, .int .u32 0, .int .i64 0, .slice none 0 0, .int .i64 0] 27)) = w0 at HS0 ⊢
  obtain ⟨sa, sb, se, hsp, -, hse⟩ := spanV_some xs s
  have HSE := Lib.hid hse
  have hcon := Fq.rspan_any C m d xs s w0 (Lib.hid HS0.out.2.2.2.2.1) hm.out
  rw [hsp] at hcon
  refine hcon.mono ?_
  clear hcon hsp hse
  rintro e w1 ⟨rfl, hb1⟩
  have HS1 := Lib.hid (HS0.out.next hb1)
  clear hb1 HS0
  unfold Fq.spanT
  obtain ⟨x1, x2, x3, x4, x5⟩ := blk5 HS1.out.1
  go_wp2_with fail
  clear x1 x2 x3 x4 x5
  rcases hbad.out with hb | ⟨hb, hs⟩
  · refine (rcheckEnc_any low high wt A n c N bs false w1 hl hh (Lib.hid HS1.out.2.2.2.1) (Lib.hid hb)).mono ?_
    rintro e w2 ⟨rfl, hb2⟩
    have HS2 := Lib.hid (HS1.out.next hb2)
    clear hb2 HS1
    obtain ⟨y1, y2, y3, y4, y5⟩ := blk5 HS2.out.2.2.1
    obtain ⟨z1, z2, z3, z4, z5⟩ := frz5 HS2.out.2.2.1
    go_wp2
    exact bodyPost_ret (v := .tuple #[encV 0 0 0 none 0 0 0, .int .i64 1]) (by simp [results, Try.results14, go_sem, encV, y1, y2, y3, y4, y5]) rfl (EOut.err (below5 HS2.out.2.2.2.2.2 (by omega) _ _ _ _ _))
  · refine (rcheckEnc_any low high wt A n c N bs true w1 hl hh (Lib.hid HS1.out.2.2.2.1) (Lib.hid hb)).mono ?_
    rintro e w2 ⟨rfl, hb2⟩
    have HS2 := Lib.hid (HS1.out.next hb2)
    clear hb2 HS1
    obtain ⟨y1, y2, y3, y4, y5⟩ := blk5 HS2.out.2.2.1
    obtain ⟨z1, z2, z3, z4, z5⟩ := frz5 HS2.out.2.2.1
    obtain rfl := HSE.out hs
    go_wp2
    exact bodyPost_ret (v := .tuple #[encV 0 0 0 none 0 0 0, .int .i64 1]) (by simp [results, Try.results14, go_sem, encV, y1, y2, y3, y4, y5]) rfl (EOut.err (below5 HS2.out.2.2.2.2.2 (by omega) _ _ _ _ _))
/-- what is answered of a state: too long, or as it is -/
def encWhat (e : En) : Nat × Nat × Int × Int × Int × List Nat := if e.out.length ≤ 65536 ∧ e.wait ≤ 65536 then (e.low, e.high, (e.wait : Int), (e.out.length : Int), 0, pack e.out) else (0, 0, 0, 0, 2, [])
theorem stepE_out (e : En) : e.out.length ≤ (stepE e).out.length := by
  rcases kind_cases e.low e.high with ⟨hk, _⟩ | ⟨hk, _⟩ | ⟨hk, _⟩ | ⟨hk, _⟩
  · rw [stepE_0 hk]; show _ ≤ (emit e.out false e.wait).length; rw [emit_length]; omega
  · rw [stepE_1 hk]; show _ ≤ (emit e.out true e.wait).length; rw [emit_length]; omega
  · rw [stepE_2 hk]; exact Nat.le_refl _
  · unfold stepE; rw [if_neg (by omega), if_neg (by omega), if_neg (by omega)]; exact Nat.le_refl _
theorem widE_out (n : Nat) : ∀ e : En, e.out.length ≤ (widE n e).out.length := by
  induction n with
  | zero => intro e; exact Nat.le_refl _
  | succ n ih =>
    intro e
    unfold widE
    split
    · exact Nat.le_refl _
    · exact Nat.le_trans (stepE_out e) (ih _)
theorem widE_done (n : Nat) (e : En) (h : kind e.low e.high = 3) : widE n e = e := by
  cases n with
  | zero => rfl
  | succ n => unfold widE; rw [if_pos h]
/-- a store into an encoder's cells -/
theorem rd_five {w : World} {A : Option Addr} {n g : Nat} {bs : List Nat} {t : TypeId} {a0 a1 a2 a4 : Int} {v0 : Option Addr} {v1 v2 : Nat} (h : Rd w A n bs) (hb : Blk w g t #[.int .u32 a0, .int .u32 a1, .int .i64 a2, .slice v0 v1 v2, .int .i64 a4]) (x0 x1 x2 x3 x4 : Value) :
    Rd (((((w.setCell ⟨g, 0, none⟩ x0).setCell ⟨g, 1, none⟩ x1).setCell ⟨g, 2, none⟩ x2).setCell ⟨g, 3, none⟩ x3).setCell ⟨g, 4, none⟩ x4) A n bs := by
  have h0 := h.setCell (p := ⟨g, 0, none⟩) x0 (fun x => by rw [hb.cell 0]; simp [byteV])
  have b0 := hb.set_ 0 x0
  have h1 := h0.setCell (p := ⟨g, 1, none⟩) x1 (fun x => by rw [b0.cell 1]; simp [byteV])
  have b1 := b0.set_ 1 x1
  have h2 := h1.setCell (p := ⟨g, 2, none⟩) x2 (fun x => by rw [b1.cell 2]; simp [byteV])
  have b2 := b1.set_ 2 x2
  have h3 := h2.setCell (p := ⟨g, 3, none⟩) x3 (fun x => by rw [b2.cell 3]; simp [byteV])
  have b3 := b2.set_ 3 x3
  exact h3.setCell (p := ⟨g, 4, none⟩) x4 (fun x => by rw [b3.cell 4]; simp [byteV])
theorem PutS.put {w u : World} {be X : Nat} {low high : Nat} {wt : Int} {A C : Option Addr} {n c m d : Nat} {N : Int} {bs : List Nat} {xs : List Int} (h : PutS w u be (be + 1) (be + 1 + 1) low high wt A C n c m d N bs xs) (hX : be + 1 + 1 < X) (hb : w.heap.size ≤ be) (hr : Rd w A n bs) (hx : Fq.RdI w C m xs) (i : Nat) (v : Value) : PutS w (u.setCell ⟨X, i, none⟩ v) be (be + 1) (be + 1 + 1) low high wt A C n c m d N bs xs := by
  have hbl : Below w.heap.size w (u.setCell ⟨X, i, none⟩ v) := h.2.2.2.2.2.setCell (p := ⟨X, i, none⟩) (by show w.heap.size ≤ X; omega) v
  exact ⟨h.1.far (p := ⟨X, i, none⟩) (by show be ≠ X; omega) v, h.2.1.far (p := ⟨X, i, none⟩) (by show be + 1 ≠ X; omega) v, h.2.2.1.far (p := ⟨X, i, none⟩) (by show be + 1 + 1 ≠ X; omega) v, hr.below hbl, hx.below hbl, hbl⟩
/-- what the loop of Put knows -/
def PxS (w : World) (be X : Nat) (low high : Nat) (wt : Int) (A C : Option Addr) (n c m d : Nat) (N : Int) (bs : List Nat) (xs : List Int) (q : En) (u : World) : Prop :=
  PutS w u be (be + 1) (be + 1 + 1) low high wt A C n c m d N bs xs ∧ be + 1 + 1 < X ∧ ∃ A7 n7 c7, Blk u X 27 #[.int .u32 0, .int .u32 0, .int .i64 ((q.wait : Nat) : Int), .slice A7 n7 c7, .int .i64 ((q.out.length : Nat) : Int)] ∧ IsB u (.agg #[.slice A7 n7 c7, .int .i64 ((q.out.length : Nat) : Int)]) q.out
theorem px_a {w w7 : World} {be base : Nat} {low high k : Nat} {A C : Option Addr} {n c m d : Nat} {N : Int} {bs : List Nat} {xs : List Int} {l : List Bool} {A7 : Option Addr} {n7 c7 : Nat} (h : PutS w w7 be (be + 1) (be + 1 + 1) low high (k : Int) A C n c m d N bs xs) (ho : w7.ownsRow base 5 1 (.slice A7 n7 c7) n7 (bs.map byteV)) (hib : bs = pack l ∧ N = (l.length : Int) ∧ l.length ≤ 65536) (lo hi : Nat) :
    ∃ X, (Value.pointer (some ⟨w7.heap.size, 0, none⟩)) = .pointer (some ⟨X, 0, none⟩) ∧ Hid (PxS w be X low high (k : Int) A C n c m d N bs xs ⟨lo, hi, k, l⟩ (w7.alloc (.cells #[.int .u32 0, .int .u32 0, .int .i64 (k : Int), .slice A7 n7 c7, .int .i64 N] 27))) := by
  obtain ⟨rfl, rfl, hl⟩ := hib
  exact ⟨_, rfl, Lib.hid ⟨h.next ((Below.refl _ _).alloc (Nat.le_refl _) _), h.2.2.1.lt, A7, n7, c7, Blk.new w7 _ _, (copy_isB hl ho).alloc _⟩⟩
theorem px_b {w w7 : World} {be base X : Nat} {low high k : Nat} {A C : Option Addr} {n c m d : Nat} {N : Int} {bs : List Nat} {xs : List Int} {l : List Bool} {A7 : Option Addr} {n7 c7 : Nat} (h : PutS w w7 be (be + 1) (be + 1 + 1) low high (k : Int) A C n c m d N bs xs) (hX : be + 1 + 1 < X) (hb : w.heap.size ≤ be) (hr : Rd w A n bs) (hx : Fq.RdI w C m xs) (hz : Blk w7 X 27 #[.int .u32 0, .int .u32 0, .int .i64 0, .slice none 0 0, .int .i64 0]) (ho : w7.ownsRow base 5 1 (.slice A7 n7 c7) n7 (bs.map byteV)) (hib : bs = pack l ∧ N = (l.length : Int) ∧ l.length ≤ 65536) (lo hi : Nat) :
    ∃ X', (Value.pointer (some ⟨X, 0, none⟩)) = .pointer (some ⟨X', 0, none⟩) ∧ Hid (PxS w be X' low high (k : Int) A C n c m d N bs xs ⟨lo, hi, k, l⟩ (((((w7.setCell ⟨X, 0, none⟩ (.int .u32 0)).setCell ⟨X, 1, none⟩ (.int .u32 0)).setCell ⟨X, 2, none⟩ (.int .i64 (k : Int))).setCell ⟨X, 3, none⟩ (.slice A7 n7 c7)).setCell ⟨X, 4, none⟩ (.int .i64 N))) := by
  obtain ⟨rfl, rfl, hl⟩ := hib
  refine ⟨X, rfl, Lib.hid ⟨((((h.put hX hb hr hx 0 _).put hX hb hr hx 1 _).put hX hb hr hx 2 _).put hX hb hr hx 3 _).put hX hb hr hx 4 _, hX, A7, n7, c7, ((((hz.set_ 0 _).set_ 1 _).set_ 2 _).set_ 3 _).set_ 4 _, ?_⟩⟩
  obtain ⟨e1, _, e3, e4⟩ := isB_parts (copy_isB hl ho)
  subst e1
  exact ⟨A7, c7, rfl, rd_five e3 hz _ _ _ _ _, e4⟩
theorem rput_end {u : World} {X br : Nat} {t t' : TypeId} {a0 a1 a2 a4 : Int} {v0 : Option Addr} {v1 v2 : Nat} {A : Option Addr} {n : Nat} {bs : List Nat} (h : Rd u A n bs) (hX : Blk u X t #[.int .u32 a0, .int .u32 a1, .int .i64 a2, .slice v0 v1 v2, .int .i64 a4]) (hB : Blk u br t' #[.int .u32 0, .int .u32 0, .int .i64 0, .slice none 0 0, .int .i64 0]) (hne : br ≠ X) (y0 y1 x0 x1 x2 x3 x4 : Value) :
    Rd (((((((u.setCell ⟨X, 0, none⟩ y0).setCell ⟨X, 1, none⟩ y1).setCell ⟨br, 0, none⟩ x0).setCell ⟨br, 1, none⟩ x1).setCell ⟨br, 2, none⟩ x2).setCell ⟨br, 3, none⟩ x3).setCell ⟨br, 4, none⟩ x4) A n bs := by
  have h0 := h.setCell (p := ⟨X, 0, none⟩) y0 (fun x => by rw [hX.cell 0]; simp [byteV])
  have b0 := hX.set_ 0 y0
  have h1 := h0.setCell (p := ⟨X, 1, none⟩) y1 (fun x => by rw [b0.cell 1]; simp [byteV])
  exact rd_five h1 ((hB.far (p := ⟨X, 0, none⟩) hne y0).far (p := ⟨X, 1, none⟩) hne y1) x0 x1 x2 x3 x4
/-- so many steps of widening are left -/
def RpR (fin : En) (gk : Nat) (q : En) : Prop := widE gk q = fin ∧ Ok q.low q.high ∧ 4294967296 < wid q * 2 ^ (gk + 1) ∧ q.wait + gk ≤ 65600
theorem RpR.step {fin q : En} {m : Nat} (h : RpR fin (m + 1) q) (hk : kind q.low q.high ≠ 3) : RpR fin m (stepE q) := by
  obtain ⟨hf, hok, hw, h2⟩ := h
  refine ⟨?_, (stepE_low hok hk).2.2, ?_, ?_⟩
  · unfold widE at hf; rwa [if_neg hk] at hf
  · rw [stepE_wid hok hk]
    rw [Nat.pow_succ 2 (m + 1)] at hw
    rw [Nat.mul_comm 2 (wid q), Nat.mul_assoc, Nat.mul_comm 2]
    exact hw
  · have := stepE_wait hk; omega
theorem RpR.zero {fin q : En} (h : RpR fin 0 q) : kind q.low q.high = 3 := widR_zero h.2.1 h.2.2.1
theorem rpr_start {low high k : Nat} {l : List Bool} {a b T nlo nhi : Nat} (hl : low < high) (hh : high < 4294967296) (hk3 : kind low high = 3) (hk : k ≤ 65536) (hS : Sp a b T) (h1 : nlo = low + (high - low + 1) * a / T) (h2 : nhi = low + (high - low + 1) * b / T - 1) : RpR (putE ⟨low, high, k, l⟩ a b T) 40 ⟨nlo, nhi, k, l⟩ := by
  obtain ⟨n1, _, _, _, n5⟩ := nar_ok (e := ⟨low, high, k, l⟩) ⟨by show low ≤ high; omega, hh⟩ hk3 hS
  have e : (⟨nlo, nhi, k, l⟩ : En) = nar ⟨low, high, k, l⟩ a b T := by rw [h1, h2]; rfl
  rw [e]
  refine ⟨rfl, n1, ?_, ?_⟩
  · rw [pow41]; omega
  · show k + 40 ≤ 65600; omega
theorem int_eqJ {k : IntKind} {a b : Int} (h : a = b) : Value.int k a = .int k b := by rw [h]
theorem stepE_0z {e : En} (h : kind e.low e.high = 0) : stepE e = ⟨2 * (e.low - 0), 2 * (e.high - 0) + 1, 0, emit e.out false e.wait⟩ := stepE_0 h
section
variable {w u u' : World} {be X : Nat} {low high : Nat} {wt : Int} {A C : Option Addr} {n c m d : Nat} {N : Int} {bs : List Nat} {xs : List Int} {q : En}
theorem PxS.base (h : PxS w be X low high wt A C n c m d N bs xs q u) : Below w.heap.size w u := h.1.2.2.2.2.2
/-- one more waits -/
theorem PxS.wait (h : PxS w be X low high wt A C n c m d N bs xs q u) (hb : w.heap.size ≤ be) (hr : Rd w A n bs) (hx : Fq.RdI w C m xs) (lo hi : Nat) : PxS w be X low high wt A C n c m d N bs xs ⟨lo, hi, q.wait + 1, q.out⟩ (u.setCell ⟨X, 2, none⟩ (.int .i64 ((q.wait + 1 : Nat) : Int))) := by
  obtain ⟨h1, h2, A7, n7, c7, h3, h4⟩ := h
  refine ⟨h1.put h2 hb hr hx 2 _, h2, A7, n7, c7, h3.set_ 2 _, ?_⟩
  obtain ⟨e1, _, e3, e4⟩ := isB_parts h4
  subst e1
  exact ⟨A7, c7, rfl, e3.setCell _ (fun x => by rw [h3.cell 2]; simp [byteV]), e4⟩
/-- a bit went out, and those that waited -/
theorem PxS.sent {l2 : List Bool} {A8 : Option Addr} {n8 c8 : Nat} {o : Obj} (h : PxS w be X low high wt A C n c m d N bs xs q u) (hb : w.heap.size ≤ be) (hr : Rd w A n bs) (hx : Fq.RdI w C m xs) (lo hi : Nat) (hbl : Below u.heap.size u u') (hr8 : Rd u' A8 n8 (pack l2)) (hl2 : l2.length ≤ 65536) :
    PxS w be X low high wt A C n c m d N bs xs ⟨lo, hi, 0, l2⟩ ((((u'.setCell ⟨X, 3, none⟩ (.slice A8 n8 c8)).setCell ⟨X, 4, none⟩ (.int .i64 ((l2.length : Nat) : Int))).setCell ⟨X, 2, none⟩ (.int .i64 0)).alloc o) := by
  obtain ⟨h1, h2, A7, n7, c7, h3, _⟩ := h
  have h3' := h3.below hbl h3.lt
  have g1 := hr8.setCell (p := ⟨X, 3, none⟩) (.slice A8 n8 c8) (fun x => by rw [h3'.cell 3]; simp [byteV])
  have b1 := h3'.set_ 3 (.slice A8 n8 c8)
  have g2 := g1.setCell (p := ⟨X, 4, none⟩) (.int .i64 ((l2.length : Nat) : Int)) (fun x => by rw [b1.cell 4]; simp [byteV])
  have b2 := b1.set_ 4 (.int .i64 ((l2.length : Nat) : Int))
  have g3 := g2.setCell (p := ⟨X, 2, none⟩) (.int .i64 0) (fun x => by rw [b2.cell 2]; simp [byteV])
  have b3 := b2.set_ 2 (.int .i64 0)
  refine ⟨((((h1.next hbl).put h2 hb hr hx 3 _).put h2 hb hr hx 4 _).put h2 hb hr hx 2 _).next ((Below.refl _ _).alloc (Nat.le_refl _) _), h2, A8, n8, c8, b3.alloc _, ?_⟩
  have hn8 : n8 = (pack l2).length := hr8.1.symm
  subst hn8
  exact ⟨A8, c8, rfl, g3.alloc _, hl2⟩
end
set_option maxRecDepth 100000 in
set_option maxHeartbeats 8000000 in
theorem rputE_ok (low high k : Nat) (A C : Option Addr) (n c m d a b T : Nat) (N : Int) (bs : List Nat) (l : List Bool) (xs : List Int) (s : Int) (lo hi : Nat) (wt NN EE : Int) (be : List Nat) (w : World) (hl : low < high) (hh : high < 4294967296) (hk3 : Hid (kind low high = 3)) (hk : k ≤ 65536) (hr : Hid (Rd w A n bs)) (hn : n ≤ 8192) (hib : Hid (bs = pack l ∧ N = (l.length : Int) ∧ l.length ≤ 65536)) (hok : Hid (okE low high (k : Int) bs N = true)) (hx : Hid (Fq.RdI w C m xs)) (hm : Hid (m ≤ maxLen)) (hsp : Hid (Fq.spanV xs s = Fq.spanT (a : Int) (b : Int) 0)) (hF : Hid (Fq.okF xs = true)) (hT : Hid (Fq.totF true xs = (T : Int))) (hS : Hid (Sp a b T))
    (hp : Hid (encWhat (putE ⟨low, high, k, l⟩ a b T) = (lo, hi, wt, NN, EE, be))) :
    Calls Try.prog 14 #[encV low high (k : Int) A n c N, Fq.frV C m d, .int .i64 s] w (EOut w lo hi wt NN EE be) := by
  have HS0 := Lib.hid (putS_start w low high (k : Int) A C n c m d N bs xs hr.out hx.out)
  obtain ⟨S1, S2, S3⟩ := hS.out
  unfold encV Fq.frV
  go_enter Try.func14, Try.ntmps14
  go_wp2_with fail
  generalize (((w.alloc (.cells #[.int .u32 (low : Int), .int .u32 (high : Int), .int .i64 (k : Int), .slice A n c, .int .i64 N] 27)).alloc (.cells #[.slice C m d] 30)).alloc (.cells #[.int .u32 0, .int .u32 0, .int .i64 0, .slice none 0 0, .int .i64 0] 27)) = w0 at HS0 ⊢
  obtain ⟨be', hbe⟩ : ∃ be', be' = w.heap.size := ⟨_, rfl⟩
  rw [← hbe] at HS0 ⊢
  have HBE := Lib.hid hbe
  clear hbe
  have hcon := Fq.rspan_any C m d xs s w0 (Lib.hid HS0.out.2.2.2.2.1) hm.out
  rw [hsp.out] at hcon
  refine hcon.mono ?_
  clear hcon
  rintro e w1 ⟨rfl, hb1⟩
  have HS1 := Lib.hid (HS0.out.next hb1)
  clear hb1 HS0
  unfold Fq.spanT
  obtain ⟨x1, x2, x3, x4, x5⟩ := blk5 HS1.out.1
  go_wp2_with fail
  clear x1 x2 x3 x4 x5
  refine (rcheckEnc_any low high (k : Int) A n c N bs true w1 (by omega) hh (Lib.hid HS1.out.2.2.2.1) hok).mono ?_
  rintro e w2 ⟨rfl, hb2⟩
  have HS2 := Lib.hid (HS1.out.next hb2)
  clear hb2 HS1
  go_wp2_with fail
  obtain ⟨x1, x2, -, -, -⟩ := blk5 HS2.out.1
  have x3 := Fq.blk0 HS2.out.2.1
  obtain ⟨nlo, hnlo⟩ : ∃ nlo, nlo = low + (high - low + 1) * a / T := ⟨_, rfl⟩
  obtain ⟨nhi, hnhi⟩ : ∃ nhi, nhi = low + (high - low + 1) * b / T - 1 := ⟨_, rfl⟩
  have HNL := Lib.hid hnlo
  have HNH := Lib.hid hnhi
  clear hnlo hnhi
  have HW1 := Lib.hid (show 1 ≤ (high - low + 1) * b / T by
    have hw := wide_wid (e := ⟨low, high, k, l⟩) ⟨by show low ≤ high; omega, hh⟩ hk3.out
    have hw1 : 1073741824 ≤ high - low + 1 := hw.1
    exact Nat.lt_of_le_of_lt (Nat.zero_le _) (nar_parts hS.out (W := high - low + 1) (by omega)).1)
  have v1 : IntKind.u64.wrap (low : Int) = (low : Int) := IntWalk.u64_in _ (by omega)
  have v2 : IntKind.u64.wrap (high : Int) = (high : Int) := IntWalk.u64_in _ (by omega)
  have C1 := Lib.hid (show ∀ u, PutS w u be' (be' + 1) (be' + 1 + 1) low high (k : Int) A C n c m d N bs xs → Calls Try.prog 44 #[.agg #[.slice C m d]] u (fun e w' => e = .returned (.int .i64 (T : Int)) ∧ PutS w w' be' (be' + 1) (be' + 1 + 1) low high (k : Int) A C n c m d N bs xs) from fun u h =>
    (Fq.rtotal_any C m d xs true (T : Int) u (Lib.hid h.2.2.2.2.1) hm.out hF.out hT.out).mono fun e w' ⟨h1, h2⟩ => ⟨h1, h.next h2⟩)
  have C2 := Lib.hid (show ∀ u, PutS w u be' (be' + 1) (be' + 1 + 1) low high (k : Int) A C n c m d N bs xs → Calls Try.prog 43 #[.int .u64 (low : Int), .int .u64 (high : Int), .int .i64 (a : Int), .int .i64 (b : Int), .int .i64 (T : Int)] u (fun e w' => e = .returned (.tuple #[.int .u64 (nlo : Int), .int .u64 (nhi : Int)]) ∧ PutS w w' be' (be' + 1) (be' + 1 + 1) low high (k : Int) A C n c m d N bs xs) from fun u h =>
    (rnarrow_any low high a b T nlo nhi u (by omega) hh (by omega) (by omega) (by omega) S3 HNL HNH HW1).mono fun e w' ⟨h1, q, h2⟩ => ⟨h1, by rw [h2]; exact h.drewN q⟩)
  go_region_held3 (fun w' => w'.cell? ⟨be', 0, none⟩ = some (.int .u32 (low : Int)) ∧ w'.cell? ⟨be', 1, none⟩ = some (.int .u32 (high : Int)) ∧ w'.cell? ⟨be' + 1, 0, none⟩ = some (.slice C m d) ∧ PutS w w' be' (be' + 1) (be' + 1 + 1) low high (k : Int) A C n c m d N bs xs) (first | exact ⟨(blk5 hQ.1).1, (blk5 hQ.1).2.1, Fq.blk0 hQ.2.1, hQ⟩ | exact ⟨x1, x2, x3, HS2.out⟩ | exact ⟨x1, x2, x3, HS2.out.drew⟩) (first
    | (go_at_call 44; refine (C1.out _ (by first | exact hQ | exact HS2.out | exact HS2.out.drew)).mono ?_; rintro e w6 ⟨rfl, hQ⟩)
    | (go_at_call 43; refine (C2.out _ (by first | exact hQ | exact HS2.out | exact HS2.out.drew)).mono ?_; rintro e w6 ⟨rfl, hQ⟩))
  have HQ := Lib.hid hQ
  clear hQ x1 x2 x3 v1 v2 C1 C2
  go_wp2_with fail
  go_cut [13] (fun v13 wx => ∃ X, v13 = .pointer (some ⟨X, 0, none⟩) ∧ Hid (PxS w be' X low high (k : Int) A C n c m d N bs xs ⟨nlo, nhi, k, l⟩ wx))
  case first =>
    obtain ⟨-, -, x3, x4, x5⟩ := blk5 HQ.out.1
    have lx := HQ.out.2.2.1.lt
    have lx2 := HQ.out.1.lt
    have HQA := Lib.hid (show PutS w (w6.alloc (.cells #[.int .u32 0, .int .u32 0, .int .i64 0, .slice none 0 0, .int .i64 0] 27)).drew be' (be' + 1) (be' + 1 + 1) low high (k : Int) A C n c m d N bs xs from (HQ.out.next ((Below.refl _ _).alloc (Nat.le_refl _) _)).drew)
    have HZA := Lib.hid (Blk.new w6 27 #[.int .u32 0, .int .u32 0, .int .i64 0, .slice none 0 0, .int .i64 0]).drew
    go_region_with (first
      | (go_at_call 12; refine (rcopy_any A n c N bs (w6.alloc (.cells #[.int .u32 0, .int .u32 0, .int .i64 0, .slice none 0 0, .int .i64 0] 27)).drew HQA.out.2.2.2.1 (by omega)).mono ?_; rintro e w7 ⟨A7, n7, c7, rfl, ho7, hb7⟩; have HO7 := Lib.hid ho7; have HB7 := Lib.hid hb7; have HP7 := Lib.hid (HQA.out.next hb7); obtain ⟨-, -, u3, u4, u5⟩ := blk5 HP7.out.1; have HZ7 := Lib.hid (HZA.out.below hb7 HZA.out.lt); obtain ⟨y1, y2, y3, y4, y5⟩ := blk5 HZ7.out; obtain ⟨z1, z2, z3, z4, z5⟩ := frz5 HZ7.out; clear ho7 hb7)
      | (go_at_call 12; refine (rcopy_any A n c N bs w6.drew HQ.out.drew.2.2.2.1 (by omega)).mono ?_; rintro e w7 ⟨A7, n7, c7, rfl, ho7, hb7⟩; have HO7 := Lib.hid ho7; have HB7 := Lib.hid hb7; have HP7 := Lib.hid (HQ.out.drew.next hb7); obtain ⟨-, -, u3, u4, u5⟩ := blk5 HP7.out.1; have l7 := HP7.out.1.lt; clear ho7 hb7))
    all_goals
      go_wp2_with fail
      go_meet
      first
      | exact px_a HP7.out HO7.out hib.out nlo nhi
      | exact px_b HP7.out lx (by have := HBE.out; omega) hr.out hx.out HZ7.out HO7.out hib.out nlo nhi
  case rest =>
    obtain ⟨X, rfl, HX⟩ := hcut
    clear HQ
    obtain ⟨fin, hfin⟩ : ∃ fin, putE ⟨low, high, k, l⟩ a b T = fin := ⟨_, rfl⟩
    have HRP := Lib.hid (rpr_start hl hh hk3.out hk hS.out HNL.out HNH.out (l := l))
    rw [hfin] at HRP
    have HPF := hp
    rw [hfin] at HPF
    clear hfin
    have HBW := Lib.hid (show w.heap.size ≤ be' by have := HBE.out; omega)
    go_wp2_with fail
    go_loopg [11, 12] 40 (fun gk v11 v12 wr => ∃ q : En, v11 = .int .u64 (q.low : Int) ∧ v12 = .int .u64 (q.high : Int) ∧ Hid (RpR fin gk q ∧ PxS w be' X low high (k : Int) A C n c m d N bs xs q wr))
    case atStart => exact ⟨⟨nlo, nhi, k, l⟩, rfl, rfl, Lib.hid ⟨HRP.out, HX.out⟩⟩
    case round =>
      obtain ⟨q, rfl, rfl, HZ⟩ := hrel
      clear HRP HX
      obtain ⟨-, ⟨g1, g2⟩, -, g5⟩ := HZ.out.1
      obtain ⟨-, hX2, A7, n7, c7, hBX, hI7⟩ := HZ.out.2
      have HBX := Lib.hid hBX
      have HI7 := Lib.hid hI7
      have HOL := Lib.hid (isB_parts hI7).2.2.2
      have qw : q.wait ≤ 65600 := by omega
      clear hBX hI7
      obtain ⟨x1, x2, x3, x4, x5⟩ := blk5 HBX.out
      obtain ⟨f1, f2, f3, f4, f5⟩ := frz5 HBX.out
      rcases kind_cases q.low q.high with ⟨hk', k1⟩ | ⟨hk', k1, k2⟩ | ⟨hk', k1, k2, k3, k4⟩ | ⟨hk', k1, k2, k3⟩
      · have HKK := Lib.hid hk'
        have d1 : decide ((q.high : Int) < 2147483648) = true := by simp; omega
        clear hk'
        cases gk with
        | zero => exact absurd HZ.out.1.zero (by rw [HKK.out]; decide)
        | succ p =>
          have HRS := Lib.hid (RpR.step HZ.out.1 (by rw [HKK.out]; decide))
          rw [stepE_0z HKK.out] at HRS
          obtain ⟨N8, E8, bs8, hp8⟩ : ∃ N8 E8 bs8, pWhat (emit q.out false q.wait) = (N8, E8, bs8) := ⟨_, _, _, rfl⟩
          have HP8 := Lib.hid hp8
          clear hp8
          go_wp2_with fail
          refine (rout_any A7 n7 c7 q.out false 0 q.wait _ N8 E8 bs8 wr HI7 (Lib.hid rfl) (by omega) (by omega) HP8).mono ?_
          rintro e w8 ⟨A8, n8, c8, rfl, hb8, hr8⟩
          rcases pWhat_cases HP8.out with ⟨q1, q2, q3, q4⟩ | ⟨q1, q2, q3, q4⟩
          · subst q2 q3 q4
            have HBX8 := Lib.hid (HBX.out.below hb8 HBX.out.lt)
            have HPS := Lib.hid (fun o : Obj => PxS.sent (o := o) (c8 := c8) HZ.out.2 HBW.out hr.out hx.out (2 * (q.low - 0)) (2 * (q.high - 0) + 1) hb8 hr8 q1)
            clear hb8 hr8 x1 x2 x3 x4 x5 f1 f2 f3 f4 f5 q1
            obtain ⟨x1, x2, x3, x4, x5⟩ := blk5 HBX8.out
            obtain ⟨f1, f2, f3, f4, f5⟩ := frz5 HBX8.out
            have lx8 := HBX8.out.lt
            go_wp2
            go_roundg p
            case rel => exact ⟨⟨2 * (q.low - 0), 2 * (q.high - 0) + 1, 0, emit q.out false q.wait⟩, int_eqJ (by dsimp only; omega), int_eqJ (by dsimp only; omega), Lib.hid ⟨HRS.out, HPS.out _⟩⟩
            case measure => omega
          · subst q2 q3 q4
            have hbig : 65536 < fin.out.length := by
              have h1 := widE_out p ⟨2 * (q.low - 0), 2 * (q.high - 0) + 1, 0, emit q.out false q.wait⟩
              rw [HRS.out.1] at h1
              exact Nat.lt_of_lt_of_le q1 h1
            have hh2 : ((0 : Nat), (0 : Nat), (0 : Int), (0 : Int), (2 : Int), ([] : List Nat)) = (lo, hi, wt, NN, EE, be) := by
              rw [← HPF.out]
              unfold encWhat
              rw [if_neg (fun h => by have := h.1; omega)]
            simp only [Prod.mk.injEq] at hh2
            obtain ⟨rfl, rfl, rfl, rfl, rfl, rfl⟩ := hh2
            have HP9 := Lib.hid (HZ.out.2.1.next hb8)
            clear hb8 hr8 x1 x2 x3 x4 x5 f1 f2 f3 f4 f5 q1 hbig
            obtain ⟨y1, y2, y3, y4, y5⟩ := blk5 HP9.out.2.2.1
            obtain ⟨z1, z2, z3, z4, z5⟩ := frz5 HP9.out.2.2.1
            have lr := HP9.out.2.2.1.lt
            go_wp2
            exact bodyPost_ret (v := .tuple #[encV 0 0 0 none 0 0 0, .int .i64 2]) (by simp [results, Try.results14, go_sem, encV, y1, y2, y3, y4, y5, lr]) rfl (EOut.err (below5a HP9.out.2.2.2.2.2 (by have := HBE.out; omega) _ _ _ _ _ _))
      · have HKK := Lib.hid hk'
        have d1 : decide ((q.high : Int) < 2147483648) = false := by simp; omega
        have d2 : decide (2147483648 ≤ (q.low : Int)) = true := by simp; omega
        clear hk'
        cases gk with
        | zero => exact absurd HZ.out.1.zero (by rw [HKK.out]; decide)
        | succ p =>
          have HRS := Lib.hid (RpR.step HZ.out.1 (by rw [HKK.out]; decide))
          rw [stepE_1 HKK.out] at HRS
          obtain ⟨N8, E8, bs8, hp8⟩ : ∃ N8 E8 bs8, pWhat (emit q.out true q.wait) = (N8, E8, bs8) := ⟨_, _, _, rfl⟩
          have HP8 := Lib.hid hp8
          clear hp8
          go_wp2_with fail
          refine (rout_any A7 n7 c7 q.out true 1 q.wait _ N8 E8 bs8 wr HI7 (Lib.hid rfl) (by omega) (by omega) HP8).mono ?_
          rintro e w8 ⟨A8, n8, c8, rfl, hb8, hr8⟩
          rcases pWhat_cases HP8.out with ⟨q1, q2, q3, q4⟩ | ⟨q1, q2, q3, q4⟩
          · subst q2 q3 q4
            have HBX8 := Lib.hid (HBX.out.below hb8 HBX.out.lt)
            have HPS := Lib.hid (fun o : Obj => PxS.sent (o := o) (c8 := c8) HZ.out.2 HBW.out hr.out hx.out (2 * (q.low - 2147483648)) (2 * (q.high - 2147483648) + 1) hb8 hr8 q1)
            clear hb8 hr8 x1 x2 x3 x4 x5 f1 f2 f3 f4 f5 q1
            obtain ⟨x1, x2, x3, x4, x5⟩ := blk5 HBX8.out
            obtain ⟨f1, f2, f3, f4, f5⟩ := frz5 HBX8.out
            have lx8 := HBX8.out.lt
            go_wp2
            go_roundg p
            case rel => exact ⟨⟨2 * (q.low - 2147483648), 2 * (q.high - 2147483648) + 1, 0, emit q.out true q.wait⟩, int_eqJ (by dsimp only; omega), int_eqJ (by dsimp only; omega), Lib.hid ⟨HRS.out, HPS.out _⟩⟩
            case measure => omega
          · subst q2 q3 q4
            have hbig : 65536 < fin.out.length := by
              have h1 := widE_out p ⟨2 * (q.low - 2147483648), 2 * (q.high - 2147483648) + 1, 0, emit q.out true q.wait⟩
              rw [HRS.out.1] at h1
              exact Nat.lt_of_lt_of_le q1 h1
            have hh2 : ((0 : Nat), (0 : Nat), (0 : Int), (0 : Int), (2 : Int), ([] : List Nat)) = (lo, hi, wt, NN, EE, be) := by
              rw [← HPF.out]
              unfold encWhat
              rw [if_neg (fun h => by have := h.1; omega)]
            simp only [Prod.mk.injEq] at hh2
            obtain ⟨rfl, rfl, rfl, rfl, rfl, rfl⟩ := hh2
            have HP9 := Lib.hid (HZ.out.2.1.next hb8)
            clear hb8 hr8 x1 x2 x3 x4 x5 f1 f2 f3 f4 f5 q1 hbig
            obtain ⟨y1, y2, y3, y4, y5⟩ := blk5 HP9.out.2.2.1
            obtain ⟨z1, z2, z3, z4, z5⟩ := frz5 HP9.out.2.2.1
            have lr := HP9.out.2.2.1.lt
            go_wp2
            exact bodyPost_ret (v := .tuple #[encV 0 0 0 none 0 0 0, .int .i64 2]) (by simp [results, Try.results14, go_sem, encV, y1, y2, y3, y4, y5, lr]) rfl (EOut.err (below5a HP9.out.2.2.2.2.2 (by have := HBE.out; omega) _ _ _ _ _ _))
      · have HKK := Lib.hid hk'
        have d1 : decide ((q.high : Int) < 2147483648) = false := by simp; omega
        have d2 : decide (2147483648 ≤ (q.low : Int)) = false := by simp; omega
        have d3 : decide (1073741824 ≤ (q.low : Int)) = true := by simp; omega
        have d4 : decide ((q.high : Int) < 3221225472) = true := by simp; omega
        clear hk'
        cases gk with
        | zero => exact absurd HZ.out.1.zero (by rw [HKK.out]; decide)
        | succ p =>
          have HRS := Lib.hid (RpR.step HZ.out.1 (by rw [HKK.out]; decide))
          rw [stepE_2 HKK.out] at HRS
          have HPS := Lib.hid (PxS.wait HZ.out.2 HBW.out hr.out hx.out (2 * (q.low - 1073741824)) (2 * (q.high - 1073741824) + 1))
          go_wp2
          have ew : (q.wait : Int) + 1 = ((q.wait + 1 : Nat) : Int) := by omega
          rw [ew]
          clear ew
          go_roundg p
          case rel => exact ⟨⟨2 * (q.low - 1073741824), 2 * (q.high - 1073741824) + 1, q.wait + 1, q.out⟩, int_eqJ (by dsimp only; omega), int_eqJ (by dsimp only; omega), Lib.hid ⟨HRS.out, HPS.out⟩⟩
          case measure => omega
      · have HKK := Lib.hid hk'
        have HE := Lib.hid (show q = fin from by rw [← HZ.out.1.1]; exact (widE_done gk q hk').symm)
        have d1 : decide ((q.high : Int) < 2147483648) = false := by simp; omega
        have d2 : decide (2147483648 ≤ (q.low : Int)) = false := by simp; omega
        clear hk'
        have u1 : (q.low : Int) < 4294967296 := by omega
        have u2 : (q.high : Int) < 4294967296 := by omega
        obtain ⟨y1, y2, y3, y4, y5⟩ := blk5 HZ.out.2.1.2.2.1
        obtain ⟨z1, z2, z3, z4, z5⟩ := frz5 HZ.out.2.1.2.2.1
        have n1 : ¬ be' + 1 + 1 = X := by omega
        have n2 : ¬ X = be' + 1 + 1 := by omega
        by_cases h3 : 1073741824 ≤ q.low
        · have d3 : decide (1073741824 ≤ (q.low : Int)) = true := by simp; omega
          have d4 : decide ((q.high : Int) < 3221225472) = false := by simp; omega
          by_cases hw6 : 65536 < q.wait
          · have d6 : decide ((65536 : Int) < (q.wait : Int)) = true := by simp; omega
            have hh2 : ((0 : Nat), (0 : Nat), (0 : Int), (0 : Int), (2 : Int), ([] : List Nat)) = (lo, hi, wt, NN, EE, be) := by
              rw [← HPF.out, ← HE.out]
              unfold encWhat
              rw [if_neg (fun h => by have := h.2; omega)]
            simp only [Prod.mk.injEq] at hh2
            obtain ⟨rfl, rfl, rfl, rfl, rfl, rfl⟩ := hh2
            go_wp2
            exact bodyPost_ret (v := .tuple #[encV 0 0 0 none 0 0 0, .int .i64 2]) (by simp [results, Try.results14, go_sem, encV, y1, y2, y3, y4, y5]) rfl (EOut.err (by
              refine below5 ((HZ.out.2.base.setCell (p := ⟨X, 0, none⟩) ?_ _).setCell (p := ⟨X, 1, none⟩) ?_ _) (by have := HBE.out; omega) _ _ _ _ _ <;> (have := HBE.out; show w.heap.size ≤ X; omega)))
          · have d6 : decide ((65536 : Int) < (q.wait : Int)) = false := by simp; omega
            have hh2 : (q.low, q.high, ((q.wait : Nat) : Int), ((q.out.length : Nat) : Int), (0 : Int), pack q.out) = (lo, hi, wt, NN, EE, be) := by
              rw [← HPF.out, ← HE.out]
              unfold encWhat
              rw [if_pos ⟨HOL.out, by omega⟩]
            simp only [Prod.mk.injEq] at hh2
            obtain ⟨rfl, rfl, rfl, rfl, rfl, rfl⟩ := hh2
            have HRR := Lib.hid ((isB_parts HI7.out).2.2.1)
            go_wp2
            exact bodyPost_ret (v := .tuple #[encV q.low q.high (q.wait : Int) A7 n7 c7 ((q.out.length : Nat) : Int), .int .i64 0]) (by simp [results, Try.results14, go_sem, encV, y1, y2, y3, y4, y5]) rfl ⟨A7, n7, c7, rfl, by
              refine below5 ((HZ.out.2.base.setCell (p := ⟨X, 0, none⟩) ?_ _).setCell (p := ⟨X, 1, none⟩) ?_ _) (by have := HBE.out; omega) _ _ _ _ _ <;> (have := HBE.out; show w.heap.size ≤ X; omega), rput_end HRR.out HBX.out HZ.out.2.1.2.2.1 n1 _ _ _ _ _ _ _⟩
        · have d3 : decide (1073741824 ≤ (q.low : Int)) = false := by simp; omega
          by_cases hw6 : 65536 < q.wait
          · have d6 : decide ((65536 : Int) < (q.wait : Int)) = true := by simp; omega
            have hh2 : ((0 : Nat), (0 : Nat), (0 : Int), (0 : Int), (2 : Int), ([] : List Nat)) = (lo, hi, wt, NN, EE, be) := by
              rw [← HPF.out, ← HE.out]
              unfold encWhat
              rw [if_neg (fun h => by have := h.2; omega)]
            simp only [Prod.mk.injEq] at hh2
            obtain ⟨rfl, rfl, rfl, rfl, rfl, rfl⟩ := hh2
            go_wp2
            exact bodyPost_ret (v := .tuple #[encV 0 0 0 none 0 0 0, .int .i64 2]) (by simp [results, Try.results14, go_sem, encV, y1, y2, y3, y4, y5]) rfl (EOut.err (by
              refine below5 ((HZ.out.2.base.setCell (p := ⟨X, 0, none⟩) ?_ _).setCell (p := ⟨X, 1, none⟩) ?_ _) (by have := HBE.out; omega) _ _ _ _ _ <;> (have := HBE.out; show w.heap.size ≤ X; omega)))
          · have d6 : decide ((65536 : Int) < (q.wait : Int)) = false := by simp; omega
            have hh2 : (q.low, q.high, ((q.wait : Nat) : Int), ((q.out.length : Nat) : Int), (0 : Int), pack q.out) = (lo, hi, wt, NN, EE, be) := by
              rw [← HPF.out, ← HE.out]
              unfold encWhat
              rw [if_pos ⟨HOL.out, by omega⟩]
            simp only [Prod.mk.injEq] at hh2
            obtain ⟨rfl, rfl, rfl, rfl, rfl, rfl⟩ := hh2
            have HRR := Lib.hid ((isB_parts HI7.out).2.2.1)
            go_wp2
            exact bodyPost_ret (v := .tuple #[encV q.low q.high (q.wait : Int) A7 n7 c7 ((q.out.length : Nat) : Int), .int .i64 0]) (by simp [results, Try.results14, go_sem, encV, y1, y2, y3, y4, y5]) rfl ⟨A7, n7, c7, rfl, by
              refine below5 ((HZ.out.2.base.setCell (p := ⟨X, 0, none⟩) ?_ _).setCell (p := ⟨X, 1, none⟩) ?_ _) (by have := HBE.out; omega) _ _ _ _ _ <;> (have := HBE.out; show w.heap.size ≤ X; omega), rput_end HRR.out HBX.out HZ.out.2.1.2.2.1 n1 _ _ _ _ _ _ _⟩
end Go.Proofs.Ytgelgbfnioagbaa.Cd
