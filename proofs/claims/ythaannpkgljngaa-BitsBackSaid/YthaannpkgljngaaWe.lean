/-
  What Put and PutCode answer.
-/
import Derived.Test.YthaannpkgljngaaWd
import Derived.Deep.RegionWith
import Derived.Deep.RegionHeld3
namespace Go.Proofs.Ythaannpkgljngaa
open Go.RowKit

/-- a store into a cell that holds no byte leaves bytes alone -/
theorem Rd.setCell {w : World} {A : Option Addr} {n : Nat} {bs : List Nat} (h : Rd w A n bs) {p : Addr} (u : Value) (hp : ∀ x, w.cell? p ≠ some (byteV x)) : Rd (w.setCell p u) A n bs :=
  ⟨h.1, h.2.1, fun hn => by
    obtain ⟨ad, e, hc⟩ := h.2.2 hn
    refine ⟨ad, e, fun j x hx => ?_⟩
    have hcell := hc j x hx
    rw [World.cell?_setCell_other w p (ad.add j) u (fun e => hp x (by rw [e]; exact hcell))]
    exact hcell⟩
theorem IsB.res {w : World} {v : Value} {l : List Bool} (h : IsB w v l) {r : Nat} {A : Option Addr} {n c : Nat} {N : Int} (h0 : w.cell? ⟨r, 0, none⟩ = some (.slice A n c)) (h1 : w.cell? ⟨r, 1, none⟩ = some (.int .i64 N)) (a b : Value) :
    IsB ((w.setCell ⟨r, 0, none⟩ a).setCell ⟨r, 1, none⟩ b) v l := by
  obtain ⟨A, c, rfl, hr, hl⟩ := h
  refine ⟨A, c, rfl, (hr.setCell a (fun x => by rw [h0]; simp [byteV])).setCell b (fun x => ?_), hl⟩
  rw [World.cell?_setCell_other w ⟨r, 0, none⟩ ⟨r, 1, none⟩ a (by simp), h1]
  simp [byteV]

/-- an answer that is bits and an error -/
def BOut (w : World) (Q : Value → Int → World → Prop) (e : Ending) (w' : World) : Prop :=
  ∃ A n c N er, e = .returned (.tuple #[.agg #[.slice A n c, .int .i64 N], .int .i64 er]) ∧ Below w.heap.size w w' ∧ Q (.agg #[.slice A n c, .int .i64 N]) er w'
/-- bits that are not too many, in a block of their own, or too long -/
def JQ (B : Nat) (l : List Bool) (v : Value) (er : Int) (w' : World) : Prop :=
  (l.length ≤ 65536 ∧ er = 0 ∧ IsN w' B v l) ∨ (65536 < l.length ∧ er = 2 ∧ v = zeroB)
theorem JQ.res {B r : Nat} {l : List Bool} {v : Value} {er : Int} {w : World} (h : JQ B l v er w) (hr : r < B) (a b : Value) :
    JQ B l v er ((w.setCell ⟨r, 0, none⟩ a).setCell ⟨r, 1, none⟩ b) := by
  rcases h with ⟨h2, h3, h4⟩ | h
  · exact .inl ⟨h2, h3, h4.res hr a b⟩
  · exact .inr h
theorem JQ.mono {B B' : Nat} {l : List Bool} {v : Value} {er : Int} {w : World} (h : JQ B l v er w) (hB : B' ≤ B) : JQ B' l v er w := by
  rcases h with ⟨h2, h3, h4⟩ | h
  · exact .inl ⟨h2, h3, h4.mono hB⟩
  · exact .inr h

/-- Join, where all may be -/
theorem join_out (AL : Option Addr) (n cap : Nat) (xs : List It) (w : World) (hn : n ≤ 1000000) (hR : RdL w AL n xs) (hok : ∀ x ∈ xs, x.ok = true) :
    Calls Try.prog 21 #[.slice AL n cap] w (BOut w (JQ w.heap.size (allBits xs))) := by
  refine (joinN_any AL n cap xs w hn (Lib.hid hR)).mono ?_
  rintro e w' ⟨hb, h⟩
  have hl := allBits_length xs hok
  rcases h with ⟨⟨x, hx, hf⟩, _⟩ | ⟨_, h2, rfl⟩ | ⟨_, h2, v, rfl, hB⟩
  · rw [hok x hx] at hf; cases hf
  · exact ⟨_, _, _, _, _, rfl, hb, .inr ⟨by omega, rfl, rfl⟩⟩
  · have hB' := hB
    obtain ⟨g, rfl, _, _, _⟩ := hB'
    exact ⟨_, _, _, _, _, rfl, hb, .inl ⟨by omega, rfl, hB⟩⟩
def It.of (A : Option Addr) (c : Nat) (l : List Bool) : It := ⟨A, (pack l).length, c, (l.length : Int), pack l⟩
theorem It.of_ok (A : Option Addr) (c : Nat) (l : List Bool) (h : l.length ≤ 65536) : (It.of A c l).ok = true := okB_pack l h
theorem It.of_bits (A : Option Addr) (c : Nat) (l : List Bool) : (It.of A c l).bits = l := by simp [It.bits, It.of, bitsIn_pack]
/-- two, laid side by side -/
theorem RdL.two {w : World} {g : Nat} {A1 A2 : Option Addr} {c1 c2 n1 n2 : Nat} {l1 l2 : List Bool} {t : TypeId} (e1 : n1 = (pack l1).length) (e2 : n2 = (pack l2).length) (h1 : Rd w A1 n1 (pack l1)) (h2 : Rd w A2 n2 (pack l2))
    (hb : Blk w g t #[.slice A1 n1 c1, .int .i64 (l1.length : Int), .slice A2 n2 c2, .int .i64 (l2.length : Int)]) :
    RdL w (some ⟨g, 0, none⟩) 2 [It.of A1 c1 l1, It.of A2 c2 l2] := by
  subst e1 e2
  refine ⟨rfl, fun _ => ⟨_, rfl, fun j x hx => ?_⟩⟩
  match j, hx with
  | 0, hx =>
    simp only [List.getElem?_cons_zero, Option.some.injEq] at hx
    subst hx
    refine ⟨?_, ?_, h1⟩
    · rw [add_own, hb.cell]; rfl
    · rw [add_own]; exact (hb.cell 1).trans rfl
  | 1, hx =>
    simp only [List.getElem?_cons_succ, List.getElem?_cons_zero, Option.some.injEq] at hx
    subst hx
    refine ⟨?_, ?_, h2⟩
    · rw [add_own, hb.cell]; rfl
    · rw [add_own]; exact (hb.cell 3).trans rfl

theorem bitLen_le_iff (v w : Nat) (hv : v < 2 ^ 64) (hw : w ≤ 64) : Lib.bitLen v ≤ w ↔ v < 2 ^ w := by
  constructor
  · intro h
    have key : ∀ (f x : Nat), x < 2 ^ f → x < 2 ^ Lib.bitLenAux f x := by
      intro f
      induction f with
      | zero => intro x hx; simpa [Lib.bitLenAux] using hx
      | succ f ih =>
        intro x hx
        simp only [Lib.bitLenAux]
        split
        · rename_i h0; subst h0; simp
        · have := ih (x / 2) (by rw [Nat.pow_succ] at hx; omega)
          rw [Nat.add_comm, Nat.pow_succ]
          omega
    exact Nat.lt_of_lt_of_le (key 64 v hv) (Nat.pow_le_pow_right (by omega) h)
  · intro h
    exact Lib.bitLen_le v w hw h

theorem undrew {B : Nat} {w w' : World} (h : Below B w.drew w') : Below B w w' := ⟨h.os, h.tape, h.output, h.size, h.block⟩
theorem len64_nat (v k : Nat) (w : World) (hv : v < 2 ^ 64) (hk : k = Lib.bitLen v) :
    Calls Try.prog 29 #[.int .u64 (v : Int)] w fun e w' => e = .returned (.int .i64 (k : Int)) ∧ w = w' := by
  refine (len64_any v w (by omega) (by omega)).mono ?_
  rintro e w' ⟨rfl, rfl⟩
  rw [Int.toNat_natCast, hk]
  exact ⟨rfl, rfl⟩
/-- what lies in the box and in the result's cell behind a call -/
def Two (w : World) (b : Nat) (v0 v1 : Value) (w1 : World) : Prop :=
  Blk w1 b 24 #[v0, v1] ∧ Blk w1 (b + 1) 24 #[.slice none 0 0, .int .i64 0] ∧ Below b w w1
theorem Two.start (w : World) (v0 v1 : Value) : Two w w.heap.size v0 v1 ((w.alloc (.cells #[v0, v1] 24)).alloc (.cells #[.slice none 0 0, .int .i64 0] 24)) :=
  ⟨(Blk.new _ _ _).alloc _, Blk.newAt (by simp), ((Below.refl _ _).alloc (Nat.le_refl _) _).alloc (by simp) _⟩
theorem Two.next {w w1 w2 : World} {b : Nat} {v0 v1 : Value} (h : Two w b v0 v1 w1) (hb : Below w1.heap.size w1 w2) : Two w b v0 v1 w2 :=
  ⟨h.1.below hb h.1.lt, h.2.1.below hb h.2.1.lt, h.2.2.trans (hb.mono (Nat.le_of_lt h.1.lt))⟩
theorem Two.alloc {w w1 : World} {b : Nat} {v0 v1 : Value} (h : Two w b v0 v1 w1) (o : Obj) : Two w b v0 v1 (w1.alloc o) :=
  ⟨h.1.alloc o, h.2.1.alloc o, h.2.2.alloc (Nat.le_of_lt h.1.lt) o⟩
theorem Two.cells {w w1 : World} {b : Nat} {v0 v1 : Value} (h : Two w b v0 v1 w1) : w1.cell? ⟨b, 0, none⟩ = some v0 ∧ w1.cell? ⟨b, 1, none⟩ = some v1 := ⟨h.1.cell 0, h.1.cell 1⟩
theorem Two.res {w w1 : World} {b : Nat} {v0 v1 : Value} (h : Two w b v0 v1 w1) :
    w1.cell? ⟨b + 1, 0, none⟩ = some (.slice none 0 0) ∧ w1.cell? ⟨b + 1, 1, none⟩ = some (.int .i64 0) ∧ w1.frozen? ⟨b + 1, 0, none⟩ = false ∧ w1.frozen? ⟨b + 1, 1, none⟩ = false := ⟨h.2.1.cell 0, h.2.1.cell 1, h.2.1.frozen 0, h.2.1.frozen 1⟩

theorem join_two (A1 A2 : Option Addr) (c1 c2 n1 n2 : Nat) (l1 l2 : List Bool) (w : World) (e1 : n1 = (pack l1).length) (e2 : n2 = (pack l2).length) (h1 : Rd w A1 n1 (pack l1)) (h2 : Rd w A2 n2 (pack l2)) (hl1 : l1.length ≤ 65536) (hl2 : l2.length ≤ 65536) :
    Calls Try.prog 21 #[.slice (some ⟨w.heap.size, 0, none⟩) 2 2] (w.alloc (.cells #[.slice A1 n1 c1, .int .i64 (l1.length : Int), .slice A2 n2 c2, .int .i64 (l2.length : Int)] 24))
      (BOut (w.alloc (.cells #[.slice A1 n1 c1, .int .i64 (l1.length : Int), .slice A2 n2 c2, .int .i64 (l2.length : Int)] 24)) (JQ (w.alloc (.cells #[.slice A1 n1 c1, .int .i64 (l1.length : Int), .slice A2 n2 c2, .int .i64 (l2.length : Int)] 24)).heap.size (l1 ++ l2))) := by
  have h := join_out (some ⟨w.heap.size, 0, none⟩) 2 2 [It.of A1 c1 l1, It.of A2 c2 l2] _ (by omega) (RdL.two e1 e2 (h1.alloc _) (h2.alloc _) (Blk.new w 24 _)) (by
    intro x hx
    rcases List.mem_cons.1 hx with rfl | hx
    · exact It.of_ok _ _ _ hl1
    · rcases List.mem_cons.1 hx with rfl | hx
      · exact It.of_ok _ _ _ hl2
      · cases hx)
  have e : allBits [It.of A1 c1 l1, It.of A2 c2 l2] = l1 ++ l2 := by simp [allBits, It.of_bits]
  rw [e] at h
  exact h

set_option maxHeartbeats 1000000 in
theorem put_core (A : Option Addr) (n c : Nat) (l : List Bool) (v width k : Nat) (w : World) (hr : Hid (Rd w A n (pack l))) (hn : Hid (n = (pack l).length)) (hl : l.length ≤ 65536)
    (hw : width ≤ 64) (hv : Hid (v < 2 ^ width)) (hv64 : Hid (v < 2 ^ 64)) (hk : Hid (k = Lib.bitLen v)) (hkw : k ≤ width) :
    Calls Try.prog 12 #[.agg #[.slice A n c, .int .i64 (l.length : Int)], .int .u64 (v : Int), .int .i64 (width : Int)] w (BOut w (JQ w.heap.size (l ++ bitsOf width v))) := by
  have hd1 : decide ((0 : Int) ≤ (width : Int) ∧ (width : Int) ≤ 64) = true := by simp; omega
  go_enter Try.func12, Try.ntmps12
  go_wp2_with fail
  refine (check_yes _ _ _ _ (pack l) _ ((hr.out.alloc _).alloc _) (okB_pack l hl)).mono ?_
  rintro e w1 ⟨rfl, hb1⟩
  have T1 := (Two.start w (.slice A n c) (.int .i64 (l.length : Int))).next hb1
  have hr1 := ((hr.out.alloc _).alloc _).below hb1
  have H1 := Lib.hid T1
  have HR1 := Lib.hid hr1
  clear T1 hr1 hb1
  go_wp2_with (first
    | (go_at_call 28; refine (isWidth_any _ _).mono ?_; rintro e w' ⟨rfl, rfl⟩)
    | (go_at_call 29; refine (len64_nat v k _ hv64.out hk.out).mono ?_; rintro e w' ⟨rfl, rfl⟩))
  obtain ⟨b0, b1⟩ := H1.out.cells
  have HL := Lib.hid hl
  clear hd1 hl
  go_region_with (first
    | (go_at_call 30
       refine (number_any v width _ hw hv.out).mono ?_
       rintro e w2 ⟨x, rfl, ⟨A2, c2, rfl, hr2, hl2⟩, hb2⟩
       obtain ⟨b20, b21⟩ := (H1.out.next (undrew hb2)).cells
       have H2 := Lib.hid (H1.out.next (undrew hb2))
       have HR12 := Lib.hid (HR1.out.below (undrew hb2))
       have HR2 := Lib.hid hr2
       have HL2 := Lib.hid hl2
       clear hr2 hl2 hb2)
    | (go_at_call 21
       refine (join_two A A2 c c2 n _ l _ _ hn.out rfl HR12.out HR2.out HL.out HL2.out).mono ?_
       rintro e w3 ⟨A3, n3, c3, N3, er, rfl, hb3, hq⟩
       obtain ⟨y0, y1, y2, y3⟩ := ((H2.out.alloc _).next hb3).res
       have H3 := Lib.hid ((H2.out.alloc _).next hb3)
       have HQ := Lib.hid hq
       clear hb3 hq))
  all_goals
    go_wp2
    refine bodyPost_ret (v := .tuple #[.agg #[.slice A3 n3 c3, .int .i64 N3], .int .i64 er]) (by simp [results, Try.results12, go_sem, y0, y1]) rfl ⟨_, _, _, _, _, rfl, ?_, ?_⟩
    · exact (H3.out.2.2.setCell (by simp) _).setCell (by simp) _
    · exact (HQ.out.res (by have := H2.out.2.1.lt; simp; omega) _ _).mono (by have := H2.out.2.1.lt; simp; omega)

end Go.Proofs.Ythaannpkgljngaa
