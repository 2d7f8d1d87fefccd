/-
  Own texts, laid together: Bb, Ca, Cb, Cd, Ce, CG, Gj, Fb, CH, Ha, MN, MW.
-/
import Derived.Test.YtgpdgegelipboaaDoorP1
set_option linter.unusedSimpArgs false
set_option linter.unusedVariables false
set_option maxRecDepth 8000
namespace Go.Proofs.YtgpdgegelipboaaDoor
open Go.RowKit
/-- an answer that is just these bits -/
def BGood (w : World) (l : List Bool) (n N : Nat) (e : Ending) (w' : World) : Prop :=
  ∃ A c, e = .returned (.tuple #[.agg #[.slice A n c, .int .i64 (N : Int)], .int .i64 0]) ∧ IsB w' (.agg #[.slice A n c, .int .i64 (N : Int)]) l ∧ Below w.heap.size w w'
theorem BOut.good {w w' : World} {B : Nat} {l : List Bool} {n N : Nat} {e : Ending} (h : BOut w (JQ B l) e w') (hl : l.length ≤ 65536) (hn : n = (pack l).length) (hN : N = l.length) : BGood w l n N e w' := by
  obtain ⟨A, n', c, N', er, rfl, hb, ⟨_, rfl, hNw⟩ | ⟨h2, _⟩⟩ := h
  · have hB := hNw.isB
    have hB' := hB
    obtain ⟨A1, c1, e1, _, _⟩ := hB'
    simp only [Value.agg.injEq, Array.mk.injEq, List.cons.injEq, Value.slice.injEq, Value.int.injEq, and_true, true_and] at e1
    obtain ⟨⟨rfl, rfl, rfl⟩, rfl⟩ := e1
    subst hn hN
    exact ⟨_, _, rfl, hB, hb⟩
  · omega
end Go.Proofs.YtgpdgegelipboaaDoor
namespace Go.Proofs.YtgpdgegelipboaaDoor
open Go.RowKit
/-- an answer that is no bits, and an error -/
def BBad (w : World) (er : Int) (e : Ending) (w' : World) : Prop := e = .returned (.tuple #[zeroB, .int .i64 er]) ∧ Below w.heap.size w w'
/-- the text of bytes -/
def strOf (bs : List Nat) : ByteArray := (bs.map fun n => ((n : Nat) : Int)).foldl (fun r n => r.push (UInt8.ofNat n.toNat)) ByteArray.empty
theorem run_str {w : World} {A : Option Addr} {n : Nat} {bs : List Nat} (c : Nat) (h : Rd w A n bs) : (convert 28 9 (.slice A n c)).run Tryd.prog w = .ok (.string (strOf bs)) w := by
  rw [run_convert_bytes_string w 28 9 5 A n c Tryd.underlying28 Tryd.underlying5 Tryd.underlying9]
  obtain ⟨rfl, hlt, hc⟩ := h
  cases A with
  | none =>
    have h0 : bs = [] := by
      cases bs with
      | nil => rfl
      | cons b bs =>
        obtain ⟨ad, e, _⟩ := hc (by simp)
        cases e
    subst h0
    rfl
  | some ad =>
    have hload : (loadCells ad bs.length).run Tryd.prog w = .ok ((bs.map fun n => ((n : Nat) : Int)).map (Value.int .u8)).toArray w := by
      have := run_loadCells_list (P := Tryd.prog) w ad (bs.map byteV) (fun j v hv => by
        rw [List.getElem?_map] at hv
        obtain ⟨x, hx, rfl⟩ := Option.map_eq_some_iff.1 hv
        have hpos : 0 < bs.length := by
          have := (List.getElem?_eq_some_iff.1 hx).1
          omega
        obtain ⟨ad', e, hc'⟩ := hc hpos
        injection e with e
        subst e
        exact hc' j x hx)
      rw [List.length_map] at this
      rw [this, List.map_map]
      rfl
    exact run_bytesToString w ad _ c _ hload
end Go.Proofs.YtgpdgegelipboaaDoor
namespace Go.Proofs.YtgpdgegelipboaaDoor
open Go.RowKit
theorem RdL.one {w : World} {g : Nat} {A : Option Addr} {n c : Nat} {N : Int} {bs : List Nat} {t : TypeId} (h : Rd w A n bs) (hb : Blk w g t #[.slice A n c, .int .i64 N]) :
    RdL w (some ⟨g, 0, none⟩) 1 [⟨A, n, c, N, bs⟩] := by
  refine ⟨rfl, fun _ => ⟨_, rfl, fun j x hx => ?_⟩⟩
  match j, hx with
  | 0, hx =>
    simp only [List.getElem?_cons_zero, Option.some.injEq] at hx
    subst hx
    refine ⟨?_, ?_, h⟩
    · rw [add_own, hb.cell]; rfl
    · rw [add_own]; exact (hb.cell 1).trans rfl
theorem IsB.rd {w : World} {A : Option Addr} {n c : Nat} {N : Int} {l : List Bool} (h : IsB w (.agg #[.slice A n c, .int .i64 N]) l) : Rd w A n (pack l) := by
  obtain ⟨A1, c1, e1, hr, _⟩ := h
  simp only [Value.agg.injEq, Array.mk.injEq, List.cons.injEq, Value.slice.injEq, Value.int.injEq, and_true, true_and] at e1
  obtain ⟨⟨rfl, rfl, rfl⟩, rfl⟩ := e1
  exact hr
end Go.Proofs.YtgpdgegelipboaaDoor
namespace Go.Proofs.YtgpdgegelipboaaDoor
open Go.RowKit
end Go.Proofs.YtgpdgegelipboaaDoor
namespace Go.Proofs.YtgpdgegelipboaaDoor
open Go.RowKit
/-- the slice v owns the bytes of l -/
def OwnB (w : World) (base : Nat) (v : Value) (l : List Bool) : Prop := w.ownsRow base 5 1 v (pack l).length ((pack l).map byteV)
theorem OwnB.nil_ (w : World) (base : Nat) : OwnB w base (.slice none 0 0) [] := World.ownsRow_nil w base 5 1
theorem OwnB.alloc {w : World} {base : Nat} {v : Value} {l : List Bool} (h : OwnB w base v l) (o : Obj) : OwnB (w.alloc o) base v l := World.ownsRow.alloc h o
theorem OwnB.rd {w : World} {base n c : Nat} {A : Option Addr} {l : List Bool} (h : OwnB w base (.slice A n c) l) : Rd w A n (pack l) ∧ n = (pack l).length := by
  have hf := h.2
  have hl := h.1
  rcases hf with ⟨e, h0⟩ | ⟨g, cap, cur, e, hb, hh, hnc, hcm, hcs, ht⟩
  · injection e with e1 e2 e3
    subst e1 e2
    refine ⟨⟨by omega, pack_lt _, fun h => by omega⟩, h0.symm⟩
  · injection e with e1 e2 e3
    subst e1
    refine ⟨⟨e2.symm, pack_lt _, fun _ => ⟨_, rfl, fun j x hx => ?_⟩⟩, e2⟩
    have := World.ownsRow.cells h (g := g) rfl j (byteV x) (by rw [List.getElem?_map, hx]; rfl)
    exact this
theorem Blk.ne_ {w : World} {g g' : Nat} {t t' : TypeId} {cs cs' : Array Value} (h : Blk w g t cs) (h' : Blk w g' t' cs') (hne : t ≠ t') : g ≠ g' := by
  rintro rfl
  unfold Blk at h h'
  rw [h] at h'
  injection h' with h'
  injection h' with _ ht
  exact hne ht
theorem OwnB.lt {w : World} {base n c : Nat} {A : Option Addr} {l : List Bool} (h : OwnB w base (.slice A n c) l) : ∀ ad, A = some ad → ad.block < w.heap.size := by
  intro ad e
  subst e
  exact (World.ownsRow.lt h ad.block rfl).2
end Go.Proofs.YtgpdgegelipboaaDoor
namespace Go.Proofs.YtgpdgegelipboaaDoor
open Go.RowKit
theorem Blk.row {w w' : World} {g : Nat} {t : TypeId} {cs : Array Value} {row : Option Nat} (h : Blk w g t cs) (hb : w.grownBy w' row) (hg : row ≠ some g) : Blk w' g t cs := (hb.block g h.lt (fun e => hg e.symm)).trans h
theorem OwnB.keep {w w' : World} {base : Nat} {v : Value} {l : List Bool} (h : OwnB w base v l) (hb : Below w.heap.size w w') : OwnB w' base v l :=
  World.ownsRow.kept h (only_of_below hb none) (by cases hv : v.ownBlock with | none => exact .inl rfl | some k => exact .inr (by simp))
/-- what the outer loop knows -/
def RO (w : World) (g7 : Nat) (l : List Bool) (wr : World) : Prop :=
  Blk wr w.heap.size 46 #[.slice none 0 0, .int .i64 0] ∧ Below w.heap.size w wr ∧
  ∃ A n c, Blk wr g7 46 #[.slice A n c, .int .i64 ((l.length : Nat) : Int)] ∧ OwnB wr w.heap.size (.slice A n c) l
theorem RO.alloc {w wr : World} {g7 : Nat} {l : List Bool} (h : RO w g7 l wr) (o : Obj) : RO w g7 l (wr.alloc o) := by
  obtain ⟨h1, h2, A, n, c, h3, h4⟩ := h
  exact ⟨h1.alloc o, h2.alloc h2.size o, A, n, c, h3.alloc o, h4.alloc o⟩
end Go.Proofs.YtgpdgegelipboaaDoor
namespace Go.Proofs.YtgpdgegelipboaaDoor
open Go.RowKit
/-- what is joined: the number of bits, the error, the bytes -/
def jWhat (xs : List It) : Int × Int × List Nat :=
  if xs.all It.ok then (if sumN xs ≤ 65536 then (((allBits xs).length : Int), 0, pack (allBits xs)) else (0, 2, [])) else (0, 1, [])
def JOut (w : World) (N E : Int) (bs : List Nat) (e : Ending) (w' : World) : Prop :=
  ∃ A n c, e = .returned (.tuple #[.agg #[.slice A n c, .int .i64 N], .int .i64 E]) ∧ Below w.heap.size w w' ∧ Rd w' A n bs
theorem JoinPost.out {w w' : World} {xs : List It} {e : Ending} {N E : Int} {bs : List Nat} (h : JoinPost w xs e w') (hj : jWhat xs = (N, E, bs)) : JOut w N E bs e w' := by
  obtain ⟨hb, h⟩ := h
  unfold jWhat at hj
  rcases h with ⟨⟨x, hx, hf⟩, rfl⟩ | ⟨hok, hs, rfl⟩ | ⟨hok, hs, v, rfl, hv⟩
  · have hall : xs.all It.ok = false := by
      cases h : xs.all It.ok
      · rfl
      · rw [List.all_eq_true.1 h x hx] at hf; cases hf
    rw [hall] at hj
    simp only [Bool.false_eq_true, if_false, Prod.mk.injEq] at hj
    obtain ⟨rfl, rfl, rfl⟩ := hj
    exact ⟨none, 0, 0, rfl, hb, Rd.none_⟩
  · rw [List.all_eq_true.2 hok, if_pos rfl, if_neg (by omega)] at hj
    simp only [Prod.mk.injEq] at hj
    obtain ⟨rfl, rfl, rfl⟩ := hj
    exact ⟨none, 0, 0, rfl, hb, Rd.none_⟩
  · rw [List.all_eq_true.2 hok, if_pos rfl, if_pos hs] at hj
    simp only [Prod.mk.injEq] at hj
    obtain ⟨rfl, rfl, rfl⟩ := hj
    obtain ⟨A, c, rfl, hr, _⟩ := hv
    exact ⟨A, _, c, rfl, hb, hr⟩
end Go.Proofs.YtgpdgegelipboaaDoor
namespace Go.Proofs.YtgpdgegelipboaaDoor
open Go.RowKit
end Go.Proofs.YtgpdgegelipboaaDoor
namespace Go.Proofs.YtgpdgegelipboaaDoor
open Go.RowKit
/-- what is answered where bits l come to be -/
def pWhat (l : List Bool) : Int × Int × List Nat := if l.length ≤ 65536 then ((l.length : Int), 0, pack l) else (0, 2, [])
theorem BBad.out {w w' : World} {e : Ending} {E : Int} (h : BBad w E e w') : JOut w 0 E [] e w' := by
  obtain ⟨rfl, hb⟩ := h
  exact ⟨none, 0, 0, rfl, hb, Rd.none_⟩
theorem BOut.out {w w' : World} {B : Nat} {l : List Bool} {e : Ending} {N E : Int} {bs : List Nat} (h : BOut w (JQ B l) e w') (hp : pWhat l = (N, E, bs)) : JOut w N E bs e w' := by
  obtain ⟨A, n, c, N', er, rfl, hb, hq⟩ := h
  unfold pWhat at hp
  rcases hq with ⟨h1, rfl, g, e1, _, hblk, _⟩ | ⟨h1, rfl, e1⟩
  · rw [if_pos h1] at hp
    simp only [Prod.mk.injEq] at hp
    obtain ⟨rfl, rfl, rfl⟩ := hp
    rw [e1]
    exact ⟨_, _, _, rfl, hb, Rd.of_blk hblk (pack_lt _)⟩
  · rw [if_neg (by omega)] at hp
    simp only [Prod.mk.injEq] at hp
    obtain ⟨rfl, rfl, rfl⟩ := hp
    rw [e1]
    exact ⟨none, 0, 0, rfl, hb, Rd.none_⟩
end Go.Proofs.YtgpdgegelipboaaDoor
namespace Go.Proofs.YtgpdgegelipboaaDoor.Cd
open Go.RowKit
/-- an interval that needs no widening -/
def wideB (low high : Nat) : Bool := decide (low < high ∧ high < 4294967296 ∧ kind low high = 3)
theorem blk2 {w : World} {t : TypeId} {a b : Value} {g : Nat} (h : Blk w g t #[a, b]) : w.cell? ⟨g, 0, none⟩ = some a ∧ w.cell? ⟨g, 1, none⟩ = some b ∧ w.frozen? ⟨g, 0, none⟩ = false ∧ w.frozen? ⟨g, 1, none⟩ = false := ⟨h.cell 0, h.cell 1, h.frozen 0, h.frozen 1⟩
end Go.Proofs.YtgpdgegelipboaaDoor.Cd
namespace Go.Proofs.YtgpdgegelipboaaDoor.Cd
open Go.RowKit
/-- an encoder's state by value -/
def encV (low high : Nat) (wt : Int) (A : Option Addr) (n c : Nat) (N : Int) : Value := .agg #[.int .u32 (low : Int), .int .u32 (high : Int), .int .i64 wt, .slice A n c, .int .i64 N]
theorem blk5 {w : World} {t : TypeId} {a b c d e : Value} {g : Nat} (h : Blk w g t #[a, b, c, d, e]) : w.cell? ⟨g, 0, none⟩ = some a ∧ w.cell? ⟨g, 1, none⟩ = some b ∧ w.cell? ⟨g, 2, none⟩ = some c ∧ w.cell? ⟨g, 3, none⟩ = some d ∧ w.cell? ⟨g, 4, none⟩ = some e := ⟨h.cell 0, h.cell 1, h.cell 2, h.cell 3, h.cell 4⟩
end Go.Proofs.YtgpdgegelipboaaDoor.Cd
namespace Go.Proofs.YtgpdgegelipboaaDoor.Cd
open Go.RowKit
/-- bits by value that may be: where they lie -/
theorem isB_parts {w : World} {A : Option Addr} {n c : Nat} {N : Int} {l : List Bool} (h : IsB w (.agg #[.slice A n c, .int .i64 N]) l) : n = (pack l).length ∧ N = (l.length : Int) ∧ Rd w A n (pack l) ∧ l.length ≤ 65536 := by
  obtain ⟨A', c', e, hr, hl⟩ := h
  simp only [Value.agg.injEq, Array.mk.injEq, List.cons.injEq, Value.slice.injEq, Value.int.injEq, and_true, true_and] at e
  obtain ⟨⟨rfl, rfl, rfl⟩, rfl⟩ := e
  exact ⟨rfl, rfl, hr, hl⟩
end Go.Proofs.YtgpdgegelipboaaDoor.Cd
namespace Go.Proofs.YtgpdgegelipboaaDoor.Cd
open Go.RowKit
/-- a decoder's state by value -/
def decV (low high code : Nat) (A : Option Addr) (n c : Nat) (N At : Int) : Value := .agg #[.int .u32 (low : Int), .int .u32 (high : Int), .int .u32 (code : Int), .slice A n c, .int .i64 N, .int .i64 At]
theorem blk6 {w : World} {t : TypeId} {a b c d e f : Value} {g : Nat} (h : Blk w g t #[a, b, c, d, e, f]) : w.cell? ⟨g, 0, none⟩ = some a ∧ w.cell? ⟨g, 1, none⟩ = some b ∧ w.cell? ⟨g, 2, none⟩ = some c ∧ w.cell? ⟨g, 3, none⟩ = some d ∧ w.cell? ⟨g, 4, none⟩ = some e ∧ w.cell? ⟨g, 5, none⟩ = some f := ⟨h.cell 0, h.cell 1, h.cell 2, h.cell 3, h.cell 4, h.cell 5⟩
theorem frz6 {w : World} {t : TypeId} {cs : Array Value} {g : Nat} (h : Blk w g t cs) : w.frozen? ⟨g, 0, none⟩ = false ∧ w.frozen? ⟨g, 1, none⟩ = false ∧ w.frozen? ⟨g, 2, none⟩ = false ∧ w.frozen? ⟨g, 3, none⟩ = false ∧ w.frozen? ⟨g, 4, none⟩ = false ∧ w.frozen? ⟨g, 5, none⟩ = false := ⟨h.frozen 0, h.frozen 1, h.frozen 2, h.frozen 3, h.frozen 4, h.frozen 5⟩
/-- whether it may be -/
def okD (low high code : Nat) (bs : List Nat) (N At : Int) : Bool := wideB low high && (decide (low ≤ code) && (decide (code ≤ high) && (okB bs N && (decide (32 ≤ At) && decide (At ≤ 65600)))))
theorem rd_far {w : World} {A : Option Addr} {n g : Nat} {bs : List Nat} (h : Rd w A n bs) (hA : ∀ ad, A = some ad → 0 < n → ad.block ≠ g) (o : Nat) (u : Value) : Rd (w.setCell ⟨g, o, none⟩ u) A n bs :=
  ⟨h.1, h.2.1, fun hn => by
    obtain ⟨ad, e, hc⟩ := h.2.2 hn
    refine ⟨ad, e, fun j x hx => ?_⟩
    have := hc j x hx
    rw [← this]
    exact World.cell?_of_block (Below.heap_setCell w ⟨g, o, none⟩ u (ad.add j).block (by rw [block_of_add]; exact hA ad e hn))⟩
theorem val_lt (inp : List Bool) (m : Nat) : val inp m < 2 ^ m := by
  have := (val_add inp 0 m).2
  simpa [val] using this
/-- a decoder's state, and an error -/
def DOut (w : World) (lo hi co : Nat) (At N E : Int) (bs : List Nat) (e : Ending) (w' : World) : Prop :=
  ∃ A n c, e = .returned (.tuple #[decV lo hi co A n c N At, .int .i64 E]) ∧ Below w.heap.size w w' ∧ Rd w' A n bs
theorem below6 {B g : Nat} {w u : World} (h : Below B w u) (hg : B ≤ g) (a b c d e f : Value) : Below B w ((((((u.setCell ⟨g, 0, none⟩ a).setCell ⟨g, 1, none⟩ b).setCell ⟨g, 2, none⟩ c).setCell ⟨g, 3, none⟩ d).setCell ⟨g, 4, none⟩ e).setCell ⟨g, 5, none⟩ f) :=
  (((((h.setCell hg a).setCell hg b).setCell hg c).setCell hg d).setCell hg e).setCell hg f
end Go.Proofs.YtgpdgegelipboaaDoor.Cd
namespace Go.Proofs.YtgpdgegelipboaaDoor.Cd
open Go.RowKit
def ivV (low high : Nat) : Value := .agg #[.int .u32 (low : Int), .int .u32 (high : Int)]
theorem whole_any (w : World) : Calls Tryd.prog 48 #[] w fun e w' => e = .returned (ivV 0 4294967295) ∧ Below w.heap.size w w' := by
  go_enter Tryd.func48, Tryd.ntmps48
  go_wp2
  exact bodyPost_ret (v := ivV 0 4294967295) (by simp [results, Tryd.results48, go_sem, ivV]) rfl ⟨rfl, (Below.refl w.heap.size w).alloc (Nat.le_refl _) _⟩
/-- what is taken ahead of doubling, and whether it is needed -/
def excT (k : Nat) : Value := .tuple #[.int .u32 (takeK k : Int), .bool (decide (k ≠ 3))]
theorem excT_3 : excT 3 = .tuple #[.int .u32 0, .bool false] := rfl
theorem excT_0 : excT 0 = .tuple #[.int .u32 0, .bool true] := rfl
theorem excT_1 : excT 1 = .tuple #[.int .u32 2147483648, .bool true] := rfl
theorem excT_2 : excT 2 = .tuple #[.int .u32 1073741824, .bool true] := rfl
theorem excess_any (low high k : Nat) (w : World) (hk : kind low high = k) :
    Calls Tryd.prog 46 #[.agg #[.int .u32 (low : Int), .int .u32 (high : Int)]] w fun e w' => e = .returned (excT k) ∧ Below w.heap.size w w' := by
  subst hk
  rcases kind_cases low high with ⟨hk, k1⟩ | ⟨hk, k1, k2⟩ | ⟨hk, k1, k2, k3, k4⟩ | ⟨hk, k1, k2, k3⟩
  · rw [hk, excT_0]
    have d3 : decide ((high : Int) < 2147483648) = true := by simp; omega
    clear hk
    go_enter Tryd.func46, Tryd.ntmps46
    go_wp2
    go_ret2
    exact ⟨rfl, (Below.refl _ _).alloc (Nat.le_refl _) _⟩
  · rw [hk, excT_1]
    have d3 : decide ((high : Int) < 2147483648) = false := by simp; omega
    have d4 : decide (2147483648 ≤ (low : Int)) = true := by simp; omega
    clear hk
    go_enter Tryd.func46, Tryd.ntmps46
    go_wp2
    go_ret2
    exact ⟨rfl, (Below.refl _ _).alloc (Nat.le_refl _) _⟩
  · rw [hk, excT_2]
    have d3 : decide ((high : Int) < 2147483648) = false := by simp; omega
    have d4 : decide (2147483648 ≤ (low : Int)) = false := by simp; omega
    have d5 : decide (1073741824 ≤ (low : Int)) = true := by simp; omega
    have d6 : decide ((high : Int) < 3221225472) = true := by simp; omega
    clear hk
    go_enter Tryd.func46, Tryd.ntmps46
    go_wp2
    go_ret2
    exact ⟨rfl, (Below.refl _ _).alloc (Nat.le_refl _) _⟩
  · rw [hk, excT_3]
    have d3 : decide ((high : Int) < 2147483648) = false := by simp; omega
    have d4 : decide (2147483648 ≤ (low : Int)) = false := by simp; omega
    clear hk
    by_cases k5 : 1073741824 ≤ low
    · have d5 : decide (1073741824 ≤ (low : Int)) = true := by simp; omega
      have d6 : decide ((high : Int) < 3221225472) = false := by simp; omega
      go_enter Tryd.func46, Tryd.ntmps46
      go_wp2
      go_ret2
      exact ⟨rfl, (Below.refl _ _).alloc (Nat.le_refl _) _⟩
    · have d5 : decide (1073741824 ≤ (low : Int)) = false := by simp; omega
      go_enter Tryd.func46, Tryd.ntmps46
      go_wp2
      go_ret2
      exact ⟨rfl, (Below.refl _ _).alloc (Nat.le_refl _) _⟩
theorem size_any (low high W : Nat) (w : World) (h1 : low ≤ high) (h2 : high < 4294967296) (hW : Hid (W = high - low + 1)) :
    Calls Tryd.prog 68 #[.agg #[.int .u32 (low : Int), .int .u32 (high : Int)]] w fun e w' => e = .returned (.int .u64 (W : Int)) ∧ Below w.heap.size w w' := by
  have e1 : ((high : Int) - (low : Int) + 1) = (W : Int) := by have := hW.out; omega
  have HE := Lib.hid e1
  clear e1
  go_enter Tryd.func68, Tryd.ntmps68
  go_wp2
  go_ret
  exact ⟨by rw [← HE.out]; rfl, (Below.refl _ _).alloc (Nat.le_refl _) _⟩
/-- both ends doubled -/
theorem double_any (p low high t lo hi : Nat) (w : World) (h1 : t ≤ low) (h2 : t ≤ high) (h3 : lo = 2 * (low - t)) (h4 : hi = 2 * (high - t) + 1) (h5 : lo < 4294967296) (h6 : hi < 4294967296) (hlow : low < 4294967296) (_hhigh : high < 4294967296)
    (c0 : w.cell? ⟨p, 0, none⟩ = some (.int .u32 (low : Int))) (c1 : w.cell? ⟨p, 1, none⟩ = some (.int .u32 (high : Int))) (f0 : w.frozen? ⟨p, 0, none⟩ = false) (f1 : w.frozen? ⟨p, 1, none⟩ = false) :
    Calls Tryd.prog 70 #[.pointer (some ⟨p, 0, none⟩), .int .u32 (t : Int)] w fun e w' => e = .returned (.tuple #[]) ∧ (w.setCell ⟨p, 0, none⟩ (.int .u32 (lo : Int))).setCell ⟨p, 1, none⟩ (.int .u32 (hi : Int)) = w' := by
  have e1 := Lib.hid (show ((low : Int) - (t : Int)) * 2 = (lo : Int) by omega)
  have e2 := Lib.hid (show ((high : Int) - (t : Int)) * 2 + 1 = (hi : Int) by omega)
  have b1 : ((low : Int) - (t : Int)) * 2 < 4294967296 := by omega
  have b2 : ((high : Int) - (t : Int)) * 2 < 4294967295 := by omega
  have b3 : (t : Int) ≤ (low : Int) := by omega
  have b4 : (t : Int) ≤ (high : Int) := by omega
  clear h3 h4
  go_enter Tryd.func70, Tryd.ntmps70
  go_wp2
  go_end0
  exact ⟨rfl, by rw [← e1.out, ← e2.out]⟩
end Go.Proofs.YtgpdgegelipboaaDoor.Cd
namespace Go.Proofs.YtgpdgegelipboaaDoor.Cd
open Go.RowKit
theorem spanV_some (xs : List Int) (s : Int) : ∃ a b e : Int, Fq.spanV xs s = Fq.spanT a b e ∧ (Fq.symB xs s = true → e = 0 ∧ a = xs.getD s.toNat 0 ∧ b = xs.getD (s.toNat + 1) 0) ∧ (Fq.symB xs s = false → e = 1) := by
  unfold Fq.spanV
  cases h : Fq.symB xs s with
  | true => exact ⟨_, _, _, rfl, fun _ => ⟨rfl, rfl, rfl⟩, (fun h => by cases h)⟩
  | false => exact ⟨_, _, _, rfl, (fun h => by cases h), fun _ => rfl⟩
/-- what narrow leaves -/
def NrP (w : World) (p lo hi : Nat) (e : Ending) (w' : World) : Prop :=
  e = .returned (.int .i64 0) ∧ ∃ w1, Below w.heap.size w w1 ∧ w' = (w1.setCell ⟨p, 1, none⟩ (.int .u32 (hi : Int))).setCell ⟨p, 0, none⟩ (.int .u32 (lo : Int))
/-- inside of it -/
def NrS (w : World) (bf : Nat) (C : Option Addr) (m d : Nat) (xs : List Int) (u : World) : Prop := Blk u bf 52 #[.slice C m d] ∧ Fq.RdI u C m xs ∧ Below w.heap.size w u
theorem NrS.next {w : World} {bf : Nat} {C : Option Addr} {m d : Nat} {xs : List Int} {u u' : World} (h : NrS w bf C m d xs u) (hb : Below u.heap.size u u') : NrS w bf C m d xs u' :=
  ⟨h.1.below hb h.1.lt, h.2.1.below hb, h.2.2.trans (hb.mono h.2.2.size)⟩
theorem NrS.drew {w : World} {bf : Nat} {C : Option Addr} {m d : Nat} {xs : List Int} {u : World} (h : NrS w bf C m d xs u) : NrS w bf C m d xs u.drew := ⟨h.1, h.2.1, Below.drew h.2.2⟩
theorem nrs_start {w : World} {C : Option Addr} {m d : Nat} {xs : List Int} (h : Fq.RdI w C m xs) : NrS w w.heap.size C m d xs (w.alloc (.cells #[.slice C m d] 52)) :=
  ⟨Blk.new w _ _, h.alloc _, (Below.refl w.heap.size w).alloc (Nat.le_refl _) _⟩
/-- a symbol that may be: its numbers -/
def symP (xs : List Int) (s : Int) (a b T : Nat) : Prop := Fq.spanV xs s = Fq.spanT (a : Int) (b : Int) 0 ∧ Fq.okF xs = true ∧ Fq.totF true xs = (T : Int) ∧ Sp a b T
/-- two cells of a block, that may be written -/
def Two (w : World) (p low high : Nat) : Prop := w.cell? ⟨p, 0, none⟩ = some (.int .u32 (low : Int)) ∧ w.cell? ⟨p, 1, none⟩ = some (.int .u32 (high : Int)) ∧ w.frozen? ⟨p, 0, none⟩ = false ∧ w.frozen? ⟨p, 1, none⟩ = false
theorem Two.lt {w : World} {p low high : Nat} (h : Two w p low high) : p < w.heap.size := World.block_lt_of_cell? _ _ h.1
theorem Two.below {w u : World} {p low high : Nat} (h : Two w p low high) (hb : Below w.heap.size w u) : Two u p low high :=
  ⟨(hb.cell (p := ⟨p, 0, none⟩) h.lt).trans h.1, (hb.cell (p := ⟨p, 1, none⟩) h.lt).trans h.2.1, (hb.frozen (p := ⟨p, 0, none⟩) h.lt).trans h.2.2.1, (hb.frozen (p := ⟨p, 1, none⟩) h.lt).trans h.2.2.2⟩
theorem Two.drew {w : World} {p low high : Nat} (h : Two w p low high) : Two w.drew p low high := h
set_option maxRecDepth 100000 in
set_option maxHeartbeats 2000000 in
theorem narrow_ok (p low high a b T lo hi : Nat) (C : Option Addr) (m d : Nat) (xs : List Int) (s : Int) (w : World) (h1 : low ≤ high) (h2 : high < 4294967296) (hx : Hid (Fq.RdI w C m xs)) (hm : Hid (m ≤ maxLen)) (hsym : Hid (symP xs s a b T)) (h2c : Hid (Two w p low high))
    (hlo : Hid (lo = low + (high - low + 1) * a / T)) (hhi : Hid (hi = low + (high - low + 1) * b / T - 1)) (hb1 : Hid (1 ≤ (high - low + 1) * b / T)) (hlh : lo ≤ hi) (hhi2 : hi < 4294967296) :
    Calls Tryd.prog 49 #[.pointer (some ⟨p, 0, none⟩), .agg #[.slice C m d], .int .i64 s] w (NrP w p lo hi) := by
  obtain ⟨W, hW⟩ : ∃ W, W = high - low + 1 := ⟨_, rfl⟩
  have HWW := Lib.hid hW
  have W2 : W ≤ 4294967296 := by omega
  obtain ⟨S1, S2, S3⟩ := hsym.out.2.2.2
  have HLO := hlo.out
  have HHI := hhi.out
  have HB1 := hb1.out
  rw [← hW] at HLO HHI HB1
  obtain ⟨pa, hpa⟩ : ∃ pa, pa = W * a := ⟨_, rfl⟩
  obtain ⟨pb, hpb⟩ : ∃ pb, pb = W * b := ⟨_, rfl⟩
  have pa2 : pa ≤ 70368744177664 := by rw [hpa]; exact Nat.le_trans (Nat.mul_le_mul W2 (show a ≤ 16384 by omega)) (by omega)
  have pb2 : pb ≤ 70368744177664 := by rw [hpb]; exact Nat.le_trans (Nat.mul_le_mul W2 (show b ≤ 16384 by omega)) (by omega)
  have epa : (W : Int) * (a : Int) = (pa : Int) := by rw [hpa]; simp
  have epb : (W : Int) * (b : Int) = (pb : Int) := by rw [hpb]; simp
  obtain ⟨qa, hqa⟩ : ∃ qa, qa = pa / T := ⟨_, rfl⟩
  obtain ⟨qb, hqb⟩ : ∃ qb, qb = pb / T := ⟨_, rfl⟩
  have eqa : (pa : Int) / (T : Int) = (qa : Int) := by rw [hqa]; simp
  have eqb : (pb : Int) / (T : Int) = (qb : Int) := by rw [hqb]; simp
  rw [← hpa, ← hqa] at HLO
  rw [← hpb, ← hqb] at HHI HB1
  obtain ⟨qc, hqc⟩ : ∃ qc, qc + 1 = qb := ⟨qb - 1, by omega⟩
  have eqc : (qb : Int) - 1 = (qc : Int) := by omega
  have elo : (low : Int) + (qa : Int) = (lo : Int) := by omega
  have ehi : (low : Int) + (qc : Int) = (hi : Int) := by omega
  have qa3 : qa < 4294967296 := by omega
  have qc3 : qc < 4294967296 := by omega
  have qb3 : qb ≤ 4294967296 := by omega
  have T0 : ¬ (T : Int) = 0 := by omega
  have T0' : ((T : Int) == 0) = false := by simp; omega
  have T1 : T ≤ 16384 := S3
  have E1 := Lib.hid epa
  have E2 := Lib.hid epb
  have E3 := Lib.hid eqa
  have E4 := Lib.hid eqb
  have E5 := Lib.hid eqc
  have E6 := Lib.hid elo
  have E7 := Lib.hid ehi
  clear hW hpa hpb hqa hqb hqc HLO HHI HB1 epa epb eqa eqb eqc elo ehi
  have HS0 := Lib.hid (nrs_start (d := d) hx.out)
  go_enter Tryd.func49, Tryd.ntmps49
  go_wp2_with fail
  have H0 := Lib.hid (h2c.out.below (((Below.refl w.heap.size w).alloc (Nat.le_refl _) (.cells #[.slice C m d] 52))))
  obtain ⟨bf, hbf⟩ : ∃ bf, bf = w.heap.size := ⟨_, rfl⟩
  generalize w.alloc (.cells #[.slice C m d] 52) = w0 at HS0 H0 ⊢
  rw [← hbf] at HS0 ⊢
  have HBF := Lib.hid hbf
  clear hbf
  have hcon := Fq.span_any C m d xs s w0 (Lib.hid HS0.out.2.1) hm.out
  rw [hsym.out.1] at hcon
  refine hcon.mono ?_
  clear hcon
  rintro e w1 ⟨rfl, hb1⟩
  have HS1 := Lib.hid (HS0.out.next hb1)
  have H1 := Lib.hid (H0.out.below hb1)
  clear hb1 HS0 H0
  unfold Fq.spanT
  go_wp2_with fail
  obtain ⟨x1, x2, -, -⟩ := H1.out
  have x3 := Fq.blk0 HS1.out.1
  have v1 : IntKind.u64.wrap (T : Int) = (T : Int) := IntWalk.u64_in _ (by omega)
  have C1 := Lib.hid (show ∀ u, NrS w bf C m d xs u ∧ Two u p low high → Calls Tryd.prog 69 #[.agg #[.slice C m d]] u (fun e w' => e = .returned (.int .i64 (T : Int)) ∧ NrS w bf C m d xs w' ∧ Two w' p low high) from fun u h =>
    (Fq.total_any C m d xs true (T : Int) u (Lib.hid h.1.2.1) hm.out hsym.out.2.1 hsym.out.2.2.1).mono fun e w' ⟨h1, h2⟩ => ⟨h1, h.1.next h2, h.2.below h2⟩)
  have C2 := Lib.hid (show ∀ u, NrS w bf C m d xs u ∧ Two u p low high → Calls Tryd.prog 68 #[.agg #[.int .u32 (low : Int), .int .u32 (high : Int)]] u (fun e w' => e = .returned (.int .u64 (W : Int)) ∧ NrS w bf C m d xs w' ∧ Two w' p low high) from fun u h =>
    (size_any low high W u h1 h2 HWW).mono fun e w' ⟨h1, h2⟩ => ⟨h1, h.1.next h2, h.2.below h2⟩)
  go_region_held3 (fun w' => w'.cell? ⟨p, 0, none⟩ = some (.int .u32 (low : Int)) ∧ w'.cell? ⟨p, 1, none⟩ = some (.int .u32 (high : Int)) ∧ w'.cell? ⟨bf, 0, none⟩ = some (.slice C m d) ∧ NrS w bf C m d xs w' ∧ Two w' p low high) (first | exact ⟨hQ.2.1, hQ.2.2.1, Fq.blk0 hQ.1.1, hQ⟩ | exact ⟨x1, x2, x3, HS1.out, H1.out⟩ | exact ⟨x1, x2, x3, HS1.out.drew, H1.out.drew⟩) (first
    | (go_at_call 69; refine (C1.out _ (by first | exact hQ | exact ⟨HS1.out, H1.out⟩ | exact ⟨HS1.out.drew, H1.out.drew⟩)).mono ?_; rintro e w6 ⟨rfl, hQ⟩)
    | (go_at_call 68; refine (C2.out _ (by first | exact hQ | exact ⟨HS1.out, H1.out⟩ | exact ⟨HS1.out.drew, H1.out.drew⟩)).mono ?_; rintro e w6 ⟨rfl, hQ⟩))
  all_goals
    have HQ := Lib.hid hQ
    clear hQ x1 x2 x3 v1 C1 C2
    obtain ⟨y1, y2, y3, y4⟩ := HQ.out.2
    have e1 := E1.out
    have e2 := E2.out
    have e3 := E3.out
    have e4 := E4.out
    have e5 := E5.out
    have e6 := E6.out
    have e7 := E7.out
    go_wp2
    go_ret
    exact ⟨rfl, _, HQ.out.1.2.2, rfl⟩
theorem narrow_no (p : Nat) (C : Option Addr) (m d : Nat) (xs : List Int) (s : Int) (w : World) (hx : Hid (Fq.RdI w C m xs)) (hm : Hid (m ≤ maxLen)) (hsym : Hid (Fq.symB xs s = false)) :
    Calls Tryd.prog 49 #[.pointer (some ⟨p, 0, none⟩), .agg #[.slice C m d], .int .i64 s] w fun e w' => e = .returned (.int .i64 1) ∧ Below w.heap.size w w' := by
  have HS0 := Lib.hid (nrs_start (d := d) hx.out)
  go_enter Tryd.func49, Tryd.ntmps49
  go_wp2_with fail
  generalize w.alloc (.cells #[.slice C m d] 52) = w0 at HS0 ⊢
  have hcon := Fq.span_any C m d xs s w0 (Lib.hid HS0.out.2.1) hm.out
  obtain ⟨a, b, e, he, -, h1⟩ := spanV_some xs s
  obtain rfl := h1 hsym.out
  rw [he] at hcon
  refine hcon.mono ?_
  clear hcon he h1
  rintro e w1 ⟨rfl, hb1⟩
  have HS1 := Lib.hid (HS0.out.next hb1)
  clear hb1 HS0
  unfold Fq.spanT
  go_wp2
  go_ret
  exact ⟨rfl, HS1.out.2.2⟩
end Go.Proofs.YtgpdgegelipboaaDoor.Cd
namespace Go.Proofs.YtgpdgegelipboaaDoor.Cd
open Go.RowKit
/-- a piece's two cells -/
def itC (x : It) : List Value := [.slice x.A x.n x.c, .int .i64 x.N]
def itCells (xs : List It) : List Value := xs.flatMap itC
theorem itCells_snoc (xs : List It) (x : It) : itCells (xs ++ [x]) = itCells xs ++ itC x := by simp [itCells]
theorem itCells_get (xs : List It) : ∀ (j : Nat) (x : It), xs[j]? = some x → (itCells xs)[j * 2]? = some (.slice x.A x.n x.c) ∧ (itCells xs)[j * 2 + 1]? = some (.int .i64 x.N) := by
  induction xs with
  | nil => intro j x h; simp at h
  | cons y xs ih =>
    intro j x h
    cases j with
    | zero =>
      have : y = x := by simpa using h
      subst this
      exact ⟨rfl, rfl⟩
    | succ j =>
      have h' : xs[j]? = some x := by simpa using h
      obtain ⟨a, b⟩ := ih j x h'
      have e : itCells (y :: xs) = itC y ++ itCells xs := by simp [itCells]
      have el : (itC y).length = 2 := rfl
      rw [e]
      refine ⟨?_, ?_⟩
      · rw [List.getElem?_append_right (by omega), el, show (j + 1) * 2 - 2 = j * 2 by omega]; exact a
      · rw [List.getElem?_append_right (by omega), el, show (j + 1) * 2 + 1 - 2 = j * 2 + 1 by omega]; exact b
/-- bytes that lie in another block -/
def Apart (x : It) (p : Nat) : Prop := ∀ ad, x.A = some ad → 0 < x.n → ad.block ≠ p
theorem only_refl (w : World) (row : Option Nat) : w.grownBy w row := ⟨rfl, rfl, rfl, Nat.le_refl _, fun _ _ _ => rfl⟩
def wrC (low high wait N g k cap : Nat) : Array Value := #[.int .u32 (low : Int), .int .u32 (high : Int), .int .i64 (wait : Int), .slice (some ⟨g, 0, none⟩) k cap, .int .i64 (N : Int)]
/-- a world as it was, and a block that stays -/
structure Bs where
  w : World
  r : Nat
  o : Option Obj
def Kp (z : Bs) (p g : Nat) (w : World) : Prop := z.r ≠ p ∧ z.r ≠ g ∧ z.r < w.heap.size ∧ w.heap[z.r]? = z.o
/-- a writer at block p, its pieces at block g -/
structure WSx (z : Bs) (p g k cap : Nat) (xs : List It) (low high wait N : Nat) (out : List Bool) (w : World) : Prop where
  blk : Blk w p 105 (wrC low high wait N g k cap)
  own : w.ownsRow z.w.heap.size 46 2 (.slice (some ⟨g, 0, none⟩) k cap) k (itCells xs)
  hp : z.w.heap.size ≤ p
  hg : z.w.heap.size ≤ g
  ne : g ≠ p
  len : xs.length = k
  rd : ∀ x ∈ xs, Rd w x.A x.n x.bs ∧ x.ok = true ∧ Apart x p ∧ Apart x g
  bits : allBits xs = out
  few : k ≤ out.length + 1
  kp : Kp z p g w
section
variable {z : Bs} {p g k cap : Nat} {xs : List It} {low high wait N : Nat} {out : List Bool} {w w' : World}
theorem WSx.next (h : WSx z p g k cap xs low high wait N out w) (hb : Below w.heap.size w w') : WSx z p g k cap xs low high wait N out w' where
  blk := h.blk.below hb h.blk.lt
  own := World.ownsRow.kept h.own (only_of_below hb none) (.inr (by simp [Value.ownBlock]))
  hp := h.hp
  hg := h.hg
  ne := h.ne
  len := h.len
  rd := fun x hx => ⟨(h.rd x hx).1.below hb, (h.rd x hx).2⟩
  bits := h.bits
  few := h.few
  kp := ⟨h.kp.1, h.kp.2.1, Nat.lt_of_lt_of_le h.kp.2.2.1 hb.size, (hb.block _ h.kp.2.2.1).trans h.kp.2.2.2⟩
theorem WSx.drew (h : WSx z p g k cap xs low high wait N out w) : WSx z p g k cap xs low high wait N out w.drew := ⟨h.blk, h.own, h.hp, h.hg, h.ne, h.len, h.rd, h.bits, h.few, h.kp⟩
/-- a store into the writer's own block -/
theorem WSx.put (h : WSx z p g k cap xs low high wait N out w) (i : Nat) (u : Value) {low' high' wait' N' : Nat} (he : (wrC low high wait N g k cap).setIfInBounds i u = wrC low' high' wait' N' g k cap) : WSx z p g k cap xs low' high' wait' N' out (w.setCell ⟨p, i, none⟩ u) where
  blk := by have := h.blk.set_ i u; rwa [he] at this
  own := World.ownsRow.kept h.own (only_setCell (only_refl w (some p)) (.inl rfl) u) (.inr (by simp [Value.ownBlock]; exact h.ne))
  hp := h.hp
  hg := h.hg
  ne := h.ne
  len := h.len
  rd := fun x hx => ⟨(h.rd x hx).1.only (only_setCell (only_refl w (some p)) (.inl rfl) u) (h.rd x hx).2.2.1, (h.rd x hx).2⟩
  bits := h.bits
  few := h.few
  kp := ⟨h.kp.1, h.kp.2.1, by simpa [World.setCell] using h.kp.2.2.1, (Below.heap_setCell w ⟨p, i, none⟩ u _ h.kp.1).trans h.kp.2.2.2⟩
theorem WSx.rdL (h : WSx z p g k cap xs low high wait N out w) : RdL w (some ⟨g, 0, none⟩) k xs := by
  refine ⟨h.len, fun _ => ⟨_, rfl, fun j x hx => ?_⟩⟩
  obtain ⟨a, b⟩ := itCells_get xs j x hx
  have c0 := World.ownsRow.cells h.own (g := g) rfl _ _ a
  have c1 := World.ownsRow.cells h.own (g := g) rfl _ _ b
  rw [add_own] at c0 c1
  refine ⟨by rw [add_own]; exact c0, ?_, (h.rd x (List.mem_of_getElem? hx)).1⟩
  rw [add_own]
  exact c1
/-- one piece more -/
theorem WSx.push (h : WSx z p g k cap xs low high wait N out w) (y : It) (hy : Rd w y.A y.n y.bs) (hok : y.ok = true) (hyp : Apart y p) (hyg : Apart y g) (hy1 : 1 ≤ y.bits.length) {g' cap' : Nat}
    (ho : w'.ownsRow z.w.heap.size 46 2 (.slice (some ⟨g', 0, none⟩) (k + 1) cap') (k + 1) (itCells xs ++ itC y)) (hgr : w.grownBy w' (some g)) (hat : g = g' ∨ w.heap.size ≤ g') :
    WSx z p g' (k + 1) cap' (xs ++ [y]) low high wait N (out ++ y.bits) (w'.setCell ⟨p, 3, none⟩ (.slice (some ⟨g', 0, none⟩) (k + 1) cap')) := by
  have hpw : p < w.heap.size := h.blk.lt
  have hne : g' ≠ p := by
    rcases hat with e | e
    · rw [← e]; exact h.ne
    · omega
  have hsc := only_setCell (only_refl w' (some p)) (p := ⟨p, 3, none⟩) (.inl rfl) (.slice (some ⟨g', 0, none⟩) (k + 1) cap')
  have far : ∀ x : It, Rd w x.A x.n x.bs → Apart x g → Apart x g' := by
    intro x hr ha ad e hn
    rcases hat with e' | e'
    · rw [← e']; exact ha ad e hn
    · have := hr.lies hn ad e
      omega
  refine ⟨?_, ?_, h.hp, (World.ownsRow.lt ho g' rfl).1, hne, by rw [List.length_append, h.len]; rfl, ?_, by rw [allBits_snoc, h.bits], by rw [List.length_append]; have := h.few; omega, h.kp.1, ?_, ?_, ?_⟩
  · have := (h.blk.only hgr (fun e => h.ne e.symm)).set_ 3 (.slice (some ⟨g', 0, none⟩) (k + 1) cap')
    exact this
  · rw [itCells_snoc]
    exact World.ownsRow.kept ho hsc (.inr (by simp [Value.ownBlock]; exact hne))
  · intro x hx
    rw [List.mem_append] at hx
    rcases hx with hx | hx
    · obtain ⟨a, b, c, d⟩ := h.rd x hx
      exact ⟨(a.only hgr d).only hsc c, b, c, far x a d⟩
    · have : x = y := by simpa using hx
      subst this
      exact ⟨(hy.only hgr hyg).only hsc hyp, hok, hyp, far x hy hyg⟩
  · rcases hat with e | e
    · rw [← e]; exact h.kp.2.1
    · have := h.kp.2.2.1; omega
  · have := hgr.size; have := h.kp.2.2.1; simp [World.setCell]; omega
  · exact ((Below.heap_setCell w' ⟨p, 3, none⟩ _ _ h.kp.1).trans (hgr.block _ h.kp.2.2.1 (fun e => h.kp.2.1 (by injection e)))).trans h.kp.2.2.2
theorem WSx.five (h : WSx z p g k cap xs low high wait N out w) : w.cell? ⟨p, 0, none⟩ = some (.int .u32 (low : Int)) ∧ w.cell? ⟨p, 1, none⟩ = some (.int .u32 (high : Int)) ∧ w.cell? ⟨p, 2, none⟩ = some (.int .i64 (wait : Int)) ∧ w.cell? ⟨p, 3, none⟩ = some (.slice (some ⟨g, 0, none⟩) k cap) ∧ w.cell? ⟨p, 4, none⟩ = some (.int .i64 (N : Int)) :=
  ⟨h.blk.cell 0, h.blk.cell 1, h.blk.cell 2, h.blk.cell 3, h.blk.cell 4⟩
theorem WSx.frz (h : WSx z p g k cap xs low high wait N out w) (i : Nat) : w.frozen? ⟨p, i, none⟩ = false := h.blk.frozen i
theorem WSx.two (h : WSx z p g k cap xs low high wait N out w) : Two w p low high := ⟨h.blk.cell 0, h.blk.cell 1, h.blk.frozen 0, h.blk.frozen 1⟩
end
/-- a writer, and all that was there ahead of it as it was -/
def WSm (w0 : Bs) (p low high wait N : Nat) (out : List Bool) (w : World) : Prop := Below w0.w.heap.size w0.w w ∧ ∃ g k cap xs, WSx w0 p g k cap xs low high wait N out w
def WS (w0 : Bs) (p : Nat) (e : En) (w : World) : Prop := WSm w0 p e.low e.high e.wait e.out.length e.out w
section
variable {w0 : Bs} {w w' : World} {p low high wait N : Nat} {out : List Bool}
theorem WSm.next (h : WSm w0 p low high wait N out w) (hb : Below w.heap.size w w') : WSm w0 p low high wait N out w' := by
  obtain ⟨h1, g, k, cap, xs, h2⟩ := h
  exact ⟨h1.trans (hb.mono h1.size), g, k, cap, xs, h2.next hb⟩
theorem WSm.setIv (h : WSm w0 p low high wait N out w) (lo hi : Nat) : WSm w0 p lo hi wait N out ((w.setCell ⟨p, 1, none⟩ (.int .u32 (hi : Int))).setCell ⟨p, 0, none⟩ (.int .u32 (lo : Int))) := by
  obtain ⟨h1, g, k, cap, xs, h2⟩ := h
  exact ⟨(h1.setCell h2.hp _).setCell h2.hp _, g, k, cap, xs, (h2.put 1 _ (low' := low) (high' := hi) (wait' := wait) (N' := N) rfl).put 0 _ rfl⟩
theorem WSm.setIv' (h : WSm w0 p low high wait N out w) (lo hi : Nat) : WSm w0 p lo hi wait N out ((w.setCell ⟨p, 0, none⟩ (.int .u32 (lo : Int))).setCell ⟨p, 1, none⟩ (.int .u32 (hi : Int))) := by
  obtain ⟨h1, g, k, cap, xs, h2⟩ := h
  exact ⟨(h1.setCell h2.hp _).setCell h2.hp _, g, k, cap, xs, (h2.put 0 _ (low' := lo) (high' := high) (wait' := wait) (N' := N) rfl).put 1 _ rfl⟩
theorem WSm.setWait (h : WSm w0 p low high wait N out w) (wt : Nat) : WSm w0 p low high wt N out (w.setCell ⟨p, 2, none⟩ (.int .i64 (wt : Int))) := by
  obtain ⟨h1, g, k, cap, xs, h2⟩ := h
  exact ⟨h1.setCell h2.hp _, g, k, cap, xs, h2.put 2 _ rfl⟩
theorem WSm.setN (h : WSm w0 p low high wait N out w) (n : Nat) : WSm w0 p low high wait n out (w.setCell ⟨p, 4, none⟩ (.int .i64 (n : Int))) := by
  obtain ⟨h1, g, k, cap, xs, h2⟩ := h
  exact ⟨h1.setCell h2.hp _, g, k, cap, xs, h2.put 4 _ rfl⟩
theorem WSm.two (h : WSm w0 p low high wait N out w) : Two w p low high := by
  obtain ⟨_, g, k, cap, xs, h2⟩ := h
  exact h2.two
theorem WSm.wait_ (h : WSm w0 p low high wait N out w) : w.cell? ⟨p, 2, none⟩ = some (.int .i64 (wait : Int)) ∧ w.frozen? ⟨p, 2, none⟩ = false := by
  obtain ⟨_, g, k, cap, xs, h2⟩ := h
  exact ⟨h2.blk.cell 2, h2.blk.frozen 2⟩
theorem WSm.n_ (h : WSm w0 p low high wait N out w) : w.cell? ⟨p, 4, none⟩ = some (.int .i64 (N : Int)) ∧ w.frozen? ⟨p, 4, none⟩ = false := by
  obtain ⟨_, g, k, cap, xs, h2⟩ := h
  exact ⟨h2.blk.cell 4, h2.blk.frozen 4⟩
theorem WSm.lt (h : WSm w0 p low high wait N out w) : p < w.heap.size := by
  obtain ⟨_, g, k, cap, xs, h2⟩ := h
  exact h2.blk.lt
end
end Go.Proofs.YtgpdgegelipboaaDoor.Cd
namespace Go.Proofs.YtgpdgegelipboaaDoor.Cd
open Go.RowKit
theorem bitsOf_rep (x : Bool) (n : Nat) : bitsOf n (x.toNat * (2 ^ n - 1)) = List.replicate n x := by
  have h : num (List.replicate n x) = x.toNat * (2 ^ n - 1) := by
    cases x with
    | false => rw [num_rep_false]; simp
    | true => rw [num_rep_true]; simp
  have := bitsOf_num (List.replicate n x)
  rw [h, List.length_replicate] at this
  exact this
theorem pow64 : (2 : Nat) ^ 64 = 18446744073709551616 := by decide
theorem ones_nat (wd : Nat) (h : wd ≤ 64) : 18446744073709551615 / 2 ^ (64 - wd) = 2 ^ wd - 1 := by
  have e : 2 ^ (64 - wd) * 2 ^ wd = 18446744073709551616 := by rw [← Nat.pow_add, show 64 - wd + wd = 64 by omega, pow64]
  have ha : 0 < 2 ^ (64 - wd) := Nat.pow_pos (by omega)
  have hb : 0 < 2 ^ wd := Nat.pow_pos (by omega)
  generalize 2 ^ (64 - wd) = a at e ha
  generalize 2 ^ wd = b at e hb
  obtain ⟨c, rfl⟩ : ∃ c, b = c + 1 := ⟨b - 1, by omega⟩
  rw [Nat.mul_add, Nat.mul_one] at e
  rw [Nat.add_sub_cancel]
  refine Nat.div_eq_of_lt_le ?_ ?_
  · rw [Nat.mul_comm]; omega
  · rw [Nat.add_mul, Nat.mul_comm c, Nat.one_mul]; omega
theorem ones_int (wd t : Nat) (h : wd ≤ 64) (ht : t ≤ 1) : IntKind.u64.wrap ((t : Int) * (18446744073709551615 / 2 ^ (64 - wd))) = ((t * (2 ^ wd - 1) : Nat) : Int) := by
  have e2 : (18446744073709551615 : Int) / 2 ^ (64 - wd) = ((2 ^ wd - 1 : Nat) : Int) := by rw [← ones_nat wd h]; simp
  have hb : 2 ^ wd ≤ 2 ^ 64 := Nat.pow_le_pow_right (by omega) h
  rw [pow64] at hb
  rw [e2]
  rcases (show t = 0 ∨ t = 1 by omega) with rfl | rfl
  · simp; rfl
  · rw [Nat.one_mul, Int.natCast_one, Int.one_mul]
    exact IntWalk.u64_in _ (by omega)
/-- a piece of its own -/
def PcP (w : World) (l : List Bool) (n8 L : Nat) (e : Ending) (w' : World) : Prop :=
  ∃ g, e = .returned (.tuple #[.agg #[.slice (some ⟨g, 0, none⟩) n8 n8, .int .i64 (L : Int)], .int .i64 0]) ∧ w.heap.size ≤ g ∧ Blk w' g 5 (bcells (pack l)) ∧ Below w.heap.size w w'
theorem put_piece (x : Bool) (t wd n8 : Nat) (xi : Int) (w : World) (ht : t = x.toNat) (hw : wd ≤ 64) (hx : xi = ((t * (2 ^ wd - 1) : Nat) : Int)) (hn8 : n8 = (pack (List.replicate wd x)).length) :
    Calls Tryd.prog 82 #[.agg #[.slice none 0 0, .int .i64 0], .int .u64 xi, .int .i64 (wd : Int)] w (PcP w (List.replicate wd x) n8 wd) := by
  subst ht hx hn8
  refine (put_any _ [] (x.toNat * (2 ^ wd - 1)) wd w (IsB.nil_ w) hw ?_).mono ?_
  · have : 0 < 2 ^ wd := Nat.pow_pos (by omega)
    cases x <;> simp <;> omega
  · rintro e w' ⟨A, n, c, N, er, rfl, hb, h⟩
    rw [List.nil_append, bitsOf_rep] at h
    rcases h with ⟨_, rfl, g, hv, hg, hk, hl⟩ | ⟨h, _⟩
    · refine ⟨g, ?_, hg, hk, hb⟩
      rw [hv, List.length_replicate]
    · rw [List.length_replicate] at h; omega
theorem bits_rep (x : Bool) (wd n8 : Nat) (A : Option Addr) (c : Nat) : It.bits ⟨A, n8, c, (wd : Int), pack (List.replicate wd x)⟩ = List.replicate wd x := by
  unfold It.bits
  have := bitsIn_pack (List.replicate wd x)
  rw [List.length_replicate] at this
  exact this
theorem lay_push {w0 : Bs} {w3 w5 : World} {p g k cap low high wait M j : Nat} {xs : List It} {out : List Bool} {g' cap' : Nat} {o : Obj} (x : Bool) (wd n8 gp : Nat)
    (hx3 : WSx w0 p g k cap xs low high wait M (out ++ List.replicate j x) w3) (hxa : WSx w0 p g k cap xs low high wait M (out ++ List.replicate j x) (w3.alloc o).drew) (h13 : Below w0.w.heap.size w0.w w3) (hP : Blk w3 gp 5 (bcells (pack (List.replicate wd x)))) (hn8 : n8 = (pack (List.replicate wd x)).length) (hG : gp ≠ p ∧ gp ≠ g) (hw : wd ≤ 64) (hw1 : 1 ≤ wd)
    (ho : w5.ownsRow w0.w.heap.size 46 2 (.slice (some ⟨g', 0, none⟩) (k + 1) cap') (k + 1) (itCells xs ++ [.slice (some ⟨gp, 0, none⟩) n8 n8, .int .i64 (wd : Int)])) (hgr : (w3.alloc o).drew.grownBy w5 (Value.slice (some ⟨g, 0, none⟩) k cap).ownBlock) (hat : (Value.slice (some ⟨g, 0, none⟩) k cap).ownBlock = some g' ∨ g' = w3.heap.size + 1) :
    WSm w0 p low high wait M (out ++ List.replicate (j + wd) x) (w5.setCell ⟨p, 3, none⟩ (.slice (some ⟨g', 0, none⟩) (k + 1) cap')) := by
  have hb := bits_rep x wd n8 (some ⟨gp, 0, none⟩) n8
  have hr : Rd (w3.alloc o).drew (some ⟨gp, 0, none⟩) n8 (pack (List.replicate wd x)) := by
    rw [hn8]; exact Rd.of_blk (hP.alloc o).drew (pack_lt _)
  have hpush := hxa.push (w' := w5) (g' := g') (cap' := cap') ⟨some ⟨gp, 0, none⟩, n8, n8, (wd : Int), pack (List.replicate wd x)⟩ hr
    (by have := okB_pack (List.replicate wd x) (by rw [List.length_replicate]; omega); rw [List.length_replicate] at this; exact this)
    (by intro ad e _; injection e with e; rw [← e]; exact hG.1) (by intro ad e _; injection e with e; rw [← e]; exact hG.2) (by rw [hb, List.length_replicate]; exact hw1) ho hgr
    (by rcases hat with e | e
        · left; simpa [Value.ownBlock] using e
        · right; rw [e]; simp)
  rw [hb] at hpush
  have hbel : Below w0.w.heap.size w0.w w5 := (Below.drew (h13.alloc h13.size o)).grown hgr (by have := h13.size; simp; omega) (fun k hk => by
    have : g = k := by simpa [Value.ownBlock] using hk
    rw [← this]; exact hx3.hg)
  have hs : Below w0.w.heap.size w0.w (w5.setCell ⟨p, 3, none⟩ (.slice (some ⟨g', 0, none⟩) (k + 1) cap')) := hbel.setCell (p := ⟨p, 3, none⟩) hx3.hp _
  rw [← List.replicate_append_replicate, ← List.append_assoc]
  exact ⟨hs, g', k + 1, cap', _, hpush⟩
theorem info_bits : (Tryd.prog.info? 46).map (fun i => (i.zero, i.size, i.bytes)) = some (some (.agg #[.slice none 0 0, .int .i64 0]), 2, 32) := by kernel_rfl
set_option maxRecDepth 100000 in
set_option maxHeartbeats 2000000 in
theorem lay_w (w0 : Bs) (p low high wait N n M : Nat) (x : Bool) (t : Nat) (out out2 : List Bool) (w : World) (h : Hid (WSm w0 p low high wait N out w)) (ht : Hid (t = x.toNat)) (ht1 : t ≤ 1) (hn : n ≤ 100000) (ho : out.length ≤ 200000) (hN : N ≤ 300000) (hM : Hid (M = N + n)) (ho2 : Hid (out2 = out ++ List.replicate n x)) :
    Calls Tryd.prog 71 #[.pointer (some ⟨p, 0, none⟩), .int .u64 (t : Int), .int .i64 (n : Int)] w fun e w' => e = .returned (.tuple #[]) ∧ WSm w0 p low high wait M out2 w' := by
  obtain ⟨i0, hi0, hz0, hz1, hz2⟩ := info_parts info_bits
  obtain ⟨c4, f4⟩ := h.out.n_
  have eM : (N : Int) + (n : Int) = (M : Int) := by have := hM.out; omega
  go_enter Tryd.func71, Tryd.ntmps71
  go_wp2_with fail
  clear c4 f4 eM
  have HS := Lib.hid (h.out.setN M)
  generalize w.setCell ⟨p, 4, none⟩ (.int .i64 (M : Int)) = w1 at HS ⊢
  go_loopw [2] (fun vn wr => ∃ (r j : Nat), vn = .int .i64 (r : Int) ∧ r ≤ 100000 ∧ Hid (r + j = n ∧ WSm w0 p low high wait M (out ++ List.replicate j x) wr)) (fun vn _ => (intOf vn).toNat)
  case atStart => exact ⟨n, 0, rfl, hn, Lib.hid ⟨rfl, by simpa using HS.out⟩⟩
  case round =>
    obtain ⟨r, j, rfl, hr, HZ⟩ := hrel
    clear HS
    by_cases hgo : 0 < r
    · have d1 : decide ((0 : Int) < (r : Int)) = true := by simp; omega
      obtain ⟨wd, hwd⟩ : ∃ wd, wd = min r 64 := ⟨_, rfl⟩
      have em : min (r : Int) 64 = (wd : Int) := by omega
      have w1' : wd ≤ 64 := by omega
      have w2' : 1 ≤ wd := by omega
      have w3' : wd ≤ r := by omega
      obtain ⟨n8, hn8⟩ : ∃ n8, n8 = (pack (List.replicate wd x)).length := ⟨_, rfl⟩
      have HN8 := Lib.hid hn8
      clear hwd hn8
      go_wp2_with fail
      with_reducible refine (put_piece x t wd n8 _ wr ht.out w1' ?hx HN8.out).mono ?_
      case hx => exact ones_int wd t w1' ht1
      rintro e w2 ⟨gp, rfl, hgp, hkp, hb2⟩
      obtain ⟨h1, g, k, cap, xs, h2⟩ := HZ.out.2
      have HX := Lib.hid (h2.next hb2)
      have H1 := Lib.hid (h1.trans (hb2.mono h1.size))
      have HP := Lib.hid hkp
      have HG := Lib.hid (show gp ≠ p ∧ gp ≠ g from ⟨by have := h2.blk.lt; omega, by have := (World.ownsRow.lt h2.own g rfl).2; omega⟩)
      have HRJ := Lib.hid HZ.out.1
      clear hgp hkp hb2 h1 h2 HZ em
      go_wp2_with fail
      have HX3 := Lib.hid (HX.out.next ((Below.refl w2.heap.size w2).alloc (Nat.le_refl _) (.cells #[.slice (some ⟨gp, 0, none⟩) n8 n8, .int .i64 (wd : Int)] 46)))
      have H13 := Lib.hid (H1.out.alloc H1.out.size (.cells #[.slice (some ⟨gp, 0, none⟩) n8 n8, .int .i64 (wd : Int)] 46))
      have HP3 := Lib.hid (HP.out.alloc (.cells #[.slice (some ⟨gp, 0, none⟩) n8 n8, .int .i64 (wd : Int)] 46))
      have HB3 := Lib.hid (Blk.new w2 46 #[.slice (some ⟨gp, 0, none⟩) n8 n8, .int .i64 (wd : Int)])
      have bg : g < w2.heap.size := (World.ownsRow.lt HX.out.own g rfl).2
      obtain ⟨bx, hbx⟩ : ∃ bx, bx = w2.heap.size := ⟨_, rfl⟩
      rw [← hbx] at HB3 bg ⊢
      generalize w2.alloc (.cells #[.slice (some ⟨gp, 0, none⟩) n8 n8, .int .i64 (wd : Int)] 46) = w3 at HX3 H13 HP3 HB3 ⊢
      clear HX H1 HP hbx
      obtain ⟨-, -, -, c3, -⟩ := HX3.out.five
      have f3 := HX3.out.frz 3
      have b0 := HB3.out.cell 0
      have b1 := HB3.out.cell 1
      have lp : p < w3.heap.size := HX3.out.blk.lt
      have lx : bx < w3.heap.size := HB3.out.lt
      have ag : (Value.slice (some ⟨g, 0, none⟩) k cap).ownBlock ≠ some p := by simp [Value.ownBlock]; exact HX3.out.ne
      have ax : (Value.slice (some ⟨g, 0, none⟩) k cap).ownBlock ≠ some bx := by simp [Value.ownBlock]; omega
      have hk63 : k + 1 ≤ 400000 := by
        have h1 := HX3.out.few
        have h2 := HRJ.out
        rw [List.length_append, List.length_replicate] at h1
        omega
      have hnews := Lib.hid (World.news_of_block (cs := #[.slice (some ⟨gp, 0, none⟩) n8 n8, .int .i64 (wd : Int)]) (t := 46) (fr := (0, 0)) (heap_alloc_new w3 _))
      have HBA := Lib.hid (show w0.w.heap.size ≤ (w3.alloc (.cells #[.slice (some ⟨gp, 0, none⟩) n8 n8, .int .i64 (wd : Int)] 46)).drew.heap.size from by have := H13.out.size; simp; omega)
      have HXA := Lib.hid (HX3.out.next ((Below.refl w3.heap.size w3).alloc (Nat.le_refl _) (.cells #[.slice (some ⟨gp, 0, none⟩) n8 n8, .int .i64 (wd : Int)] 46))).drew
      have HBX := Lib.hid (HB3.out.alloc (.cells #[.slice (some ⟨gp, 0, none⟩) n8 n8, .int .i64 (wd : Int)] 46)).drew
      have SA := Lib.hid (show (w3.alloc (.cells #[.slice (some ⟨gp, 0, none⟩) n8 n8, .int .i64 (wd : Int)] 46)).drew.cell? ⟨p, 3, none⟩ = some (.slice (some ⟨g, 0, none⟩) k cap) ∧ (w3.alloc (.cells #[.slice (some ⟨gp, 0, none⟩) n8 n8, .int .i64 (wd : Int)] 46)).drew.cell? ⟨bx, 0, none⟩ = some (.slice (some ⟨gp, 0, none⟩) n8 n8) ∧ (w3.alloc (.cells #[.slice (some ⟨gp, 0, none⟩) n8 n8, .int .i64 (wd : Int)] 46)).drew.cell? ⟨bx, 1, none⟩ = some (.int .i64 (wd : Int)) ∧ (w3.alloc (.cells #[.slice (some ⟨gp, 0, none⟩) n8 n8, .int .i64 (wd : Int)] 46)).drew.frozen? ⟨p, 3, none⟩ = false from ⟨HXA.out.five.2.2.2.1, HBX.out.cell 0, HBX.out.cell 1, HXA.out.frz 3⟩)
      go_region_law
        ((refine step_append_lies _ (by rfl) _ _ _ (by rfl) w0.w.heap.size 46 i0 _ 2 32 Tryd.underlying103 hi0 hz0 hz1 hz2 rfl (by omega) (.slice (some ⟨g, 0, none⟩) k cap) k (itCells xs) (by rfl) ((HX3.out.own.alloc _).drew)
            ⟨w3.heap.size, 0, none⟩ 1 1 [.slice (some ⟨gp, 0, none⟩) n8 n8, .int .i64 (wd : Int)] (by rfl) (by rfl) hnews.out (by simp [Value.oneCell'])
            (by omega) (by unfold maxLen; omega) (by omega) HBA.out (w3.heap.size + 1) (by simp) ?_; intro g' cap' w5 hown1 hgrow hat hlt; have f5 : w5.frozen? ⟨p, 3, none⟩ = false := (hgrow.frozen_far _ (by simp; omega) (Ne.symm ag)).trans SA.out.2.2.2; have f6 : (w5.cell? ⟨p, 3, none⟩) = some (.slice (some ⟨g, 0, none⟩) k cap) := (hgrow.cell_far _ (by simp; omega) (Ne.symm ag)).trans SA.out.1))
      all_goals
        have HO1 := Lib.hid hown1
        have HG1 := Lib.hid hgrow
        have HA1 := Lib.hid hat
        clear hown1 hgrow hat
        go_wp2
        refine ⟨⟨r - wd, j + wd, by congr 1; omega, by omega, Lib.hid ⟨by have := HRJ.out; omega, ?_⟩⟩, by simp [intOf]; omega⟩
        exact lay_push x wd n8 gp HX3.out HXA.out H13.out HP3.out HN8.out HG.out w1' w2' HO1.out HG1.out HA1.out
    · have hr0 : r = 0 := by omega
      have HE := Lib.hid (show j = n by have := HZ.out.1; omega)
      have d1 : decide ((0 : Int) < (r : Int)) = false := by simp; omega
      go_wp2
      go_end0
      exact ⟨rfl, by rw [ho2.out, ← HE.out]; exact HZ.out.2⟩
end Go.Proofs.YtgpdgegelipboaaDoor.Cd
namespace Go.Proofs.YtgpdgegelipboaaDoor.Cd
open Go.RowKit
theorem emit_eq (out : List Bool) (x : Bool) (n : Nat) : emit out x n = (out ++ List.replicate 1 x) ++ List.replicate n (!x) := by simp [emit]
theorem lay_n (w0 : Bs) (p low high wait N n M : Nat) (ni : Int) (x : Bool) (t : Nat) (out out2 : List Bool) (w : World) (h : Hid (WSm w0 p low high wait N out w)) (ht : Hid (t = x.toNat)) (ht1 : t ≤ 1) (hni : ni = (n : Int)) (hn : n ≤ 100000) (ho : out.length ≤ 200000) (hN : N ≤ 300000) (hM : Hid (M = N + n)) (ho2 : Hid (out2 = out ++ List.replicate n x)) :
    Calls Tryd.prog 71 #[.pointer (some ⟨p, 0, none⟩), .int .u64 (t : Int), .int .i64 ni] w fun e w' => e = .returned (.tuple #[]) ∧ WSm w0 p low high wait M out2 w' := by
  subst hni
  exact lay_w w0 p low high wait N n M x t out out2 w h ht ht1 hn ho hN hM ho2
set_option maxHeartbeats 1000000 in
theorem send_w (w0 : Bs) (p low high wait N M : Nat) (x : Bool) (t : Nat) (out out2 : List Bool) (w : World) (h : Hid (WSm w0 p low high wait N out w)) (ht : Hid (t = x.toNat)) (ht1 : t ≤ 1) (hw : wait ≤ 100000) (hN : Hid (N = out.length)) (ho : out.length ≤ 190000) (hM : Hid (M = out2.length)) (ho2 : Hid (out2 = emit out x wait)) :
    Calls Tryd.prog 51 #[.pointer (some ⟨p, 0, none⟩), .int .u64 (t : Int)] w fun e w' => e = .returned (.tuple #[]) ∧ WSm w0 p low high 0 M out2 w' := by
  obtain ⟨t', ht'⟩ : ∃ t' : Nat, t' = (!x).toNat := ⟨_, rfl⟩
  have et : (1 : Int) - (t : Int) = (t' : Int) := by rw [ht', ht.out]; cases x <;> rfl
  have ht2 : t' ≤ 1 := by omega
  have HT' := Lib.hid ht'
  clear ht'
  have hl1 : (out ++ List.replicate 1 x).length = out.length + 1 := by simp
  have HM2 := Lib.hid (show M = (N + 1) + wait by rw [hM.out, ho2.out, emit_length, hN.out]; omega)
  have HL1 := Lib.hid hl1
  clear hl1
  have HN2 : N ≤ 190000 := by have := hN.out; omega
  go_enter Tryd.func51, Tryd.ntmps51
  go_wp2_with fail
  with_reducible refine (lay_n w0 p low high wait N 1 (N + 1) 1 x t out (out ++ List.replicate 1 x) w h ht ht1 rfl (by omega) (by omega) (by omega) (Lib.hid rfl) (Lib.hid rfl)).mono ?_
  rintro e w1 ⟨rfl, h1⟩
  have H1 := Lib.hid h1
  clear h1
  obtain ⟨c2, f2⟩ := H1.out.wait_
  go_wp2_with fail
  clear c2 f2
  with_reducible refine (lay_w w0 p low high wait (N + 1) wait M (!x) t' (out ++ List.replicate 1 x) out2 w1 H1 HT' ht2 (by omega) (by have := HL1.out; omega) (by omega) HM2 (Lib.hid (by rw [ho2.out, emit_eq]))).mono ?_
  rintro e w2 ⟨rfl, h2⟩
  have H2 := Lib.hid h2
  clear h2
  obtain ⟨c2, f2⟩ := H2.out.wait_
  go_wp2
  go_end0
  exact ⟨rfl, H2.out.setWait 0⟩
theorem send_n (w0 : Bs) (p low high wait N M : Nat) (ti : Int) (x : Bool) (t : Nat) (out out2 : List Bool) (w : World) (h : Hid (WSm w0 p low high wait N out w)) (hti : ti = (t : Int)) (ht : Hid (t = x.toNat)) (ht1 : t ≤ 1) (hw : wait ≤ 100000) (hN : Hid (N = out.length)) (ho : out.length ≤ 190000) (hM : Hid (M = out2.length)) (ho2 : Hid (out2 = emit out x wait)) :
    Calls Tryd.prog 51 #[.pointer (some ⟨p, 0, none⟩), .int .u64 ti] w fun e w' => e = .returned (.tuple #[]) ∧ WSm w0 p low high 0 M out2 w' := by
  subst hti
  exact send_w w0 p low high wait N M x t out out2 w h ht ht1 hw hN ho hM ho2
theorem double_n (p low high t lo hi : Nat) (ti : Int) (w : World) (hti : ti = (t : Int)) (h1 : t ≤ low) (h2 : t ≤ high) (h3 : lo = 2 * (low - t)) (h4 : hi = 2 * (high - t) + 1) (h5 : lo < 4294967296) (h6 : hi < 4294967296) (hlow : low < 4294967296) (hhigh : high < 4294967296) (h2c : Two w p low high) :
    Calls Tryd.prog 70 #[.pointer (some ⟨p, 0, none⟩), .int .u32 ti] w fun e w' => e = .returned (.tuple #[]) ∧ (w.setCell ⟨p, 0, none⟩ (.int .u32 (lo : Int))).setCell ⟨p, 1, none⟩ (.int .u32 (hi : Int)) = w' := by
  subst hti
  exact double_any p low high t lo hi w h1 h2 h3 h4 h5 h6 hlow hhigh h2c.1 h2c.2.1 h2c.2.2.1 h2c.2.2.2
/-- so many steps of widening are left -/
def WidR (w0 : Bs) (p : Nat) (fin : En) (m : Nat) (wr : World) : Prop := ∃ e : En, WS w0 p e wr ∧ widE m e = fin ∧ Ok e.low e.high ∧ 4294967296 < wid e * 2 ^ (m + 1) ∧ len e + m ≤ 140000 ∧ e.wait + m ≤ 70000
theorem widR_zero {e : En} (hok : Ok e.low e.high) (h : 4294967296 < wid e * 2 ^ (0 + 1)) : kind e.low e.high = 3 := by
  by_cases hk : kind e.low e.high = 3
  · exact hk
  · have := wid_small hok hk
    simp at h
    omega
theorem stepE_wait {e : En} (h : kind e.low e.high ≠ 3) : (stepE e).wait ≤ e.wait + 1 := by
  rcases kind_cases e.low e.high with ⟨hk, _⟩ | ⟨hk, _⟩ | ⟨hk, _⟩ | ⟨hk, _⟩
  · rw [stepE_0 hk]; exact Nat.zero_le _
  · rw [stepE_1 hk]; exact Nat.zero_le _
  · rw [stepE_2 hk]; exact Nat.le_refl _
  · exact absurd hk h
theorem WidR.step {w0 : Bs} {wr : World} {p m : Nat} {fin e : En} (hok : Ok e.low e.high) (hk : kind e.low e.high ≠ 3) (hf : widE (m + 1) e = fin) (hw : 4294967296 < wid e * 2 ^ (m + 1 + 1)) (h1 : len e + (m + 1) ≤ 140000) (h2 : e.wait + (m + 1) ≤ 70000) (hs : WS w0 p (stepE e) wr) : WidR w0 p fin m wr := by
  refine ⟨stepE e, hs, ?_, (stepE_low hok hk).2.2, ?_, ?_, ?_⟩
  · unfold widE at hf; rwa [if_neg hk] at hf
  · rw [stepE_wid hok hk]
    rw [Nat.pow_succ 2 (m + 1)] at hw
    rw [Nat.mul_comm 2 (wid e), Nat.mul_assoc, Nat.mul_comm 2]
    exact hw
  · rw [(stepE_off hk).2]; omega
  · have := stepE_wait hk; omega
set_option maxRecDepth 100000 in
set_option maxHeartbeats 2000000 in
theorem widen_w (w0 : Bs) (p m : Nat) (fin : En) (w : World) (h : Hid (WidR w0 p fin m w)) :
    Calls Tryd.prog 50 #[.pointer (some ⟨p, 0, none⟩)] w fun e w' => e = .returned (.tuple #[]) ∧ WS w0 p fin w' := by
  go_enter Tryd.func50, Tryd.ntmps50
  go_wp2_with fail
  go_loopg [2] m (fun k _ wr => Hid (WidR w0 p fin k wr))
  case atStart => exact h
  case round =>
    have HR := hrel
    clear hrel h
    obtain ⟨e, hs, hf, hok, hw, hb1, hb2⟩ := HR.out
    obtain ⟨c0, c1, -, -⟩ := WSm.two hs
    have HS := Lib.hid hs
    have HF := Lib.hid hf
    have HOK := Lib.hid hok
    have HW := Lib.hid hw
    have HB1 := Lib.hid hb1
    have HB2 := Lib.hid hb2
    clear hs hf hok hw hb1 hb2 HR
    go_wp2_with fail
    obtain ⟨kk, hkk⟩ : ∃ kk, kind e.low e.high = kk := ⟨_, rfl⟩
    refine (excess_any e.low e.high kk _ hkk).mono ?_
    rintro ee w1 ⟨rfl, hb⟩
    have H1 := Lib.hid (WSm.next HS.out hb)
    clear hb HS c0 c1
    rcases kind_cases e.low e.high with ⟨hk, k1⟩ | ⟨hk, k1, k2⟩ | ⟨hk, k1, k2, k3, k4⟩ | ⟨hk, k1, k2, k3⟩
    · obtain rfl : kk = 0 := by omega
      rw [excT_0]
      cases gk with
      | zero => exact absurd (widR_zero HOK.out HW.out) (by omega)
      | succ q =>
        obtain ⟨lo, hlo⟩ : ∃ lo, lo = 2 * (e.low - 0) := ⟨_, rfl⟩
        obtain ⟨hi, hhi⟩ : ∃ hi, hi = 2 * (e.high - 0) + 1 := ⟨_, rfl⟩
        have ok1 := HOK.out.1
        have ok2 := HOK.out.2
        have bw : e.wait ≤ 70000 := by have := HB2.out; omega
        have bo : e.out.length ≤ 140000 := by have := HB1.out; unfold len at this; omega
        have HK := Lib.hid hk
        have HLO := Lib.hid hlo
        have HHI := Lib.hid hhi
        have l1 : lo < 4294967296 := by omega
        have l2 : hi < 4294967296 := by omega
        clear hk hkk hlo hhi
        go_wp2_with fail
        with_reducible refine (send_n w0 p e.low e.high e.wait e.out.length (emit e.out false e.wait).length 0 false 0 e.out (emit e.out false e.wait) w1 H1 rfl (Lib.hid rfl) (by omega) (by omega) (Lib.hid rfl) (by omega) (Lib.hid rfl) (Lib.hid rfl)).mono ?_
        rintro ee w2 ⟨rfl, h2⟩
        have H2 := Lib.hid h2
        clear h2
        go_wp2_with fail
        with_reducible refine (double_n p e.low e.high 0 lo hi 0 w2 rfl (by omega) (by omega) HLO.out HHI.out l1 l2 (by omega) ok2 (WSm.two H2.out)).mono ?_
        rintro ee w3 ⟨rfl, rfl⟩
        have H3 := Lib.hid (WSm.setIv' H2.out lo hi)
        generalize ((w2.setCell ⟨p, 0, none⟩ (.int .u32 (lo : Int))).setCell ⟨p, 1, none⟩ (.int .u32 (hi : Int))) = w3 at H3 ⊢
        go_wp2
        go_roundg q
        case rel =>
          refine Lib.hid (WidR.step HOK.out (by rw [HK.out]; decide) HF.out HW.out HB1.out HB2.out ?_)
          rw [stepE_0 HK.out]
          have h3 := H3.out
          rw [HLO.out, HHI.out] at h3
          exact h3
        case measure => omega
    · obtain rfl : kk = 1 := by omega
      rw [excT_1]
      cases gk with
      | zero => exact absurd (widR_zero HOK.out HW.out) (by omega)
      | succ q =>
        obtain ⟨lo, hlo⟩ : ∃ lo, lo = 2 * (e.low - 2147483648) := ⟨_, rfl⟩
        obtain ⟨hi, hhi⟩ : ∃ hi, hi = 2 * (e.high - 2147483648) + 1 := ⟨_, rfl⟩
        have ok1 := HOK.out.1
        have ok2 := HOK.out.2
        have bw : e.wait ≤ 70000 := by have := HB2.out; omega
        have bo : e.out.length ≤ 140000 := by have := HB1.out; unfold len at this; omega
        have HK := Lib.hid hk
        have HLO := Lib.hid hlo
        have HHI := Lib.hid hhi
        have l1 : lo < 4294967296 := by omega
        have l2 : hi < 4294967296 := by omega
        clear hk hkk hlo hhi
        go_wp2_with fail
        with_reducible refine (send_n w0 p e.low e.high e.wait e.out.length (emit e.out true e.wait).length 1 true 1 e.out (emit e.out true e.wait) w1 H1 rfl (Lib.hid rfl) (by omega) (by omega) (Lib.hid rfl) (by omega) (Lib.hid rfl) (Lib.hid rfl)).mono ?_
        rintro ee w2 ⟨rfl, h2⟩
        have H2 := Lib.hid h2
        clear h2
        go_wp2_with fail
        with_reducible refine (double_n p e.low e.high 2147483648 lo hi 2147483648 w2 rfl (by omega) (by omega) HLO.out HHI.out l1 l2 (by omega) ok2 (WSm.two H2.out)).mono ?_
        rintro ee w3 ⟨rfl, rfl⟩
        have H3 := Lib.hid (WSm.setIv' H2.out lo hi)
        generalize ((w2.setCell ⟨p, 0, none⟩ (.int .u32 (lo : Int))).setCell ⟨p, 1, none⟩ (.int .u32 (hi : Int))) = w3 at H3 ⊢
        go_wp2
        go_roundg q
        case rel =>
          refine Lib.hid (WidR.step HOK.out (by rw [HK.out]; decide) HF.out HW.out HB1.out HB2.out ?_)
          rw [stepE_1 HK.out]
          have h3 := H3.out
          rw [HLO.out, HHI.out] at h3
          exact h3
        case measure => omega
    · obtain rfl : kk = 2 := by omega
      rw [excT_2]
      cases gk with
      | zero => exact absurd (widR_zero HOK.out HW.out) (by omega)
      | succ q =>
        obtain ⟨lo, hlo⟩ : ∃ lo, lo = 2 * (e.low - 1073741824) := ⟨_, rfl⟩
        obtain ⟨hi, hhi⟩ : ∃ hi, hi = 2 * (e.high - 1073741824) + 1 := ⟨_, rfl⟩
        have ok1 := HOK.out.1
        have ok2 := HOK.out.2
        have bw : e.wait ≤ 70000 := by have := HB2.out; omega
        have bo : e.out.length ≤ 140000 := by have := HB1.out; unfold len at this; omega
        have HK := Lib.hid hk
        have HLO := Lib.hid hlo
        have HHI := Lib.hid hhi
        have l1 : lo < 4294967296 := by omega
        have l2 : hi < 4294967296 := by omega
        clear hk hkk hlo hhi
        obtain ⟨c2, f2⟩ := WSm.wait_ H1.out
        go_wp2_with fail
        clear c2 f2
        have H2 := Lib.hid (WSm.setWait H1.out (e.wait + 1))
        have ew : (e.wait : Int) + 1 = ((e.wait + 1 : Nat) : Int) := by omega
        rw [ew]
        clear ew
        generalize w1.setCell ⟨p, 2, none⟩ (.int .i64 ((e.wait + 1 : Nat) : Int)) = w2 at H2 ⊢
        with_reducible refine (double_n p e.low e.high 1073741824 lo hi 1073741824 w2 rfl (by omega) (by omega) HLO.out HHI.out l1 l2 (by omega) ok2 (WSm.two H2.out)).mono ?_
        rintro ee w3 ⟨rfl, rfl⟩
        have H3 := Lib.hid (WSm.setIv' H2.out lo hi)
        generalize ((w2.setCell ⟨p, 0, none⟩ (.int .u32 (lo : Int))).setCell ⟨p, 1, none⟩ (.int .u32 (hi : Int))) = w3 at H3 ⊢
        go_wp2
        go_roundg q
        case rel =>
          refine Lib.hid (WidR.step HOK.out (by rw [HK.out]; decide) HF.out HW.out HB1.out HB2.out ?_)
          rw [stepE_2 HK.out]
          have h3 := H3.out
          rw [HLO.out, HHI.out] at h3
          exact h3
        case measure => omega
    · obtain rfl : kk = 3 := by omega
      rw [excT_3]
      have HE := Lib.hid (show e = fin from by
        have := HF.out
        cases gk with
        | zero => exact this
        | succ q => unfold widE at this; rwa [if_pos hk] at this)
      clear hk hkk
      go_wp2
      exact bodyPost_ret (v := .tuple #[]) (by simp [results, Tryd.results50, go_sem]) rfl ⟨rfl, by rw [← HE.out]; exact H1.out⟩
end Go.Proofs.YtgpdgegelipboaaDoor.Cd
namespace Go.Proofs.YtgpdgegelipboaaDoor.Cd
open Go.RowKit
/-- whether a state is too long -/
def putC (e : En) : Int := if e.out.length ≤ 65536 ∧ e.wait ≤ 65536 then 0 else 2
theorem widR_start {w0 : Bs} {w1 : World} {p : Nat} {e : En} {a b T : Nat} (h : WSm w0 p e.low e.high e.wait e.out.length e.out w1) (hok : Ok e.low e.high) (hk : kind e.low e.high = 3) (hS : Sp a b T) (ho : e.out.length ≤ 65536) (hw : e.wait ≤ 65536) {lo hi : Nat} (hlo : lo = e.low + (e.high - e.low + 1) * a / T) (hhi : hi = e.low + (e.high - e.low + 1) * b / T - 1) :
    WidR w0 p (putE e a b T) 40 ((w1.setCell ⟨p, 1, none⟩ (.int .u32 (hi : Int))).setCell ⟨p, 0, none⟩ (.int .u32 (lo : Int))) := by
  obtain ⟨n1, _, _, _, n5⟩ := nar_ok hok hk hS
  have hs := WSm.setIv h lo hi
  subst hlo hhi
  refine ⟨nar e a b T, hs, rfl, n1, ?_, ?_, ?_⟩
  · rw [pow41]; omega
  · show e.out.length + e.wait + 40 ≤ 140000; omega
  · show e.wait + 40 ≤ 70000; omega
set_option maxRecDepth 100000 in
set_option maxHeartbeats 2000000 in
theorem put_w (w0 : Bs) (p : Nat) (e fin : En) (cd : Int) (C : Option Addr) (m d : Nat) (xs : List Int) (s : Int) (a b T : Nat) (w : World) (h : Hid (WS w0 p e w)) (hok : Hid (Ok e.low e.high)) (hk : Hid (kind e.low e.high = 3)) (ho : e.out.length ≤ 65536) (hw : e.wait ≤ 65536) (hx : Hid (Fq.RdI w C m xs)) (hm : Hid (m ≤ maxLen)) (hsym : Hid (symP xs s a b T)) (hfin : Hid (putE e a b T = fin)) (hcd : Hid (putC fin = cd)) :
    Calls Tryd.prog 29 #[.pointer (some ⟨p, 0, none⟩), .agg #[.slice C m d], .int .i64 s] w fun r w' => r = .returned (.int .i64 cd) ∧ WS w0 p fin w' := by
  obtain ⟨n1, -, n3, -, n5⟩ := nar_ok hok.out hk.out hsym.out.2.2.2
  obtain ⟨lo, hlo⟩ : ∃ lo, lo = e.low + (e.high - e.low + 1) * a / T := ⟨_, rfl⟩
  obtain ⟨hi, hhi⟩ : ∃ hi, hi = e.low + (e.high - e.low + 1) * b / T - 1 := ⟨_, rfl⟩
  have hb1 : 1 ≤ (e.high - e.low + 1) * b / T := by
    have hw := wide_wid hok.out hk.out
    have hw1 : 1073741824 ≤ e.high - e.low + 1 := hw.1
    exact Nat.lt_of_le_of_lt (Nat.zero_le _) (nar_parts hsym.out.2.2.2 (W := e.high - e.low + 1) (by omega)).1
  have l1 : lo ≤ hi := by rw [hlo, hhi]; exact n1.1
  have l2 : hi < 4294967296 := by rw [hhi]; exact n1.2
  have o1 := hok.out.1
  have o2 := hok.out.2
  have HLO := Lib.hid hlo
  have HHI := Lib.hid hhi
  have HB1 := Lib.hid hb1
  clear hlo hhi hb1 n1 n3 n5
  have HS0 := Lib.hid (nrs_start (d := d) hx.out)
  have HW0 := Lib.hid (WSm.next h.out ((Below.refl w.heap.size w).alloc (Nat.le_refl _) (.cells #[.slice C m d] 52)))
  go_enter Tryd.func29, Tryd.ntmps29
  go_wp2_with fail
  generalize w.alloc (.cells #[.slice C m d] 52) = w1 at HS0 HW0 ⊢
  obtain ⟨bf, hbf⟩ : ∃ bf, bf = w.heap.size := ⟨_, rfl⟩
  rw [← hbf] at HS0 ⊢
  clear hbf
  have c0 := Fq.blk0 HS0.out.1
  go_region_with (go_at_call 49; refine (narrow_ok p e.low e.high a b T lo hi C m d xs s _ o1 o2 (Lib.hid HS0.out.2.1.drew) hm hsym (Lib.hid (WSm.two HW0.out).drew) HLO HHI HB1 l1 l2).mono ?_; rintro r w2 ⟨rfl, w3, hb3, rfl⟩)
  have H3 := Lib.hid (WSm.next HW0.out (show Below w1.heap.size w1 w3 from ⟨hb3.os, hb3.tape, hb3.output, hb3.size, hb3.block⟩))
  have H4 := Lib.hid (widR_start H3.out hok.out hk.out hsym.out.2.2.2 ho hw HLO.out HHI.out)
  generalize (w3.setCell ⟨p, 1, none⟩ (.int .u32 (hi : Int))).setCell ⟨p, 0, none⟩ (.int .u32 (lo : Int)) = w4 at H4 ⊢
  clear hb3 c0 H3 HW0 HS0
  go_wp2_with fail
  rw [hfin.out] at H4
  with_reducible refine (widen_w w0 p 40 fin w4 H4).mono ?_
  rintro r w5 ⟨rfl, h5⟩
  have H5 := Lib.hid h5
  clear h5
  obtain ⟨c4, -⟩ := WSm.n_ H5.out
  obtain ⟨c2, -⟩ := WSm.wait_ H5.out
  by_cases q1 : fin.out.length ≤ 65536
  · have d1 : decide ((65536 : Int) < (fin.out.length : Int)) = false := by simp; omega
    by_cases q2 : fin.wait ≤ 65536
    · have d2 : decide ((65536 : Int) < (fin.wait : Int)) = false := by simp; omega
      have HC := Lib.hid (show cd = 0 by rw [← hcd.out, putC, if_pos ⟨q1, q2⟩])
      go_wp2
      go_ret
      exact ⟨by rw [HC.out]; rfl, H5.out⟩
    · have d2 : decide ((65536 : Int) < (fin.wait : Int)) = true := by simp; omega
      have HC := Lib.hid (show cd = 2 by rw [← hcd.out, putC, if_neg (fun h => q2 h.2)])
      go_wp2
      go_ret
      exact ⟨by rw [HC.out]; rfl, H5.out⟩
  · have d1 : decide ((65536 : Int) < (fin.out.length : Int)) = true := by simp; omega
    have HC := Lib.hid (show cd = 2 by rw [← hcd.out, putC, if_neg (fun h => q1 h.1)])
    go_wp2
    go_ret
    exact ⟨by rw [HC.out]; rfl, H5.out⟩
set_option maxHeartbeats 1000000 in
theorem put_no (w0 : Bs) (p low high wait N : Nat) (out : List Bool) (C : Option Addr) (m d : Nat) (xs : List Int) (s : Int) (w : World) (h : Hid (WSm w0 p low high wait N out w)) (hx : Hid (Fq.RdI w C m xs)) (hm : Hid (m ≤ maxLen)) (hsym : Hid (Fq.symB xs s = false)) :
    Calls Tryd.prog 29 #[.pointer (some ⟨p, 0, none⟩), .agg #[.slice C m d], .int .i64 s] w fun r w' => r = .returned (.int .i64 1) ∧ WSm w0 p low high wait N out w' := by
  have HS0 := Lib.hid (nrs_start (d := d) hx.out)
  have HW0 := Lib.hid (WSm.next h.out ((Below.refl w.heap.size w).alloc (Nat.le_refl _) (.cells #[.slice C m d] 52)))
  go_enter Tryd.func29, Tryd.ntmps29
  go_wp2_with fail
  generalize w.alloc (.cells #[.slice C m d] 52) = w1 at HS0 HW0 ⊢
  obtain ⟨bf, hbf⟩ : ∃ bf, bf = w.heap.size := ⟨_, rfl⟩
  rw [← hbf] at HS0 ⊢
  clear hbf
  have c0 := Fq.blk0 HS0.out.1
  go_region_with (go_at_call 49; refine (narrow_no p C m d xs s _ (Lib.hid HS0.out.2.1.drew) hm hsym).mono ?_; rintro r w3 ⟨rfl, hb3⟩)
  have H3 := Lib.hid (WSm.next HW0.out (show Below w1.heap.size w1 w3 from ⟨hb3.os, hb3.tape, hb3.output, hb3.size, hb3.block⟩))
  clear hb3 c0
  go_wp2
  go_ret
  exact ⟨rfl, H3.out⟩
end Go.Proofs.YtgpdgegelipboaaDoor.Cd
namespace Go.Proofs.YtgpdgegelipboaaDoor.Cd
open Go.RowKit
theorem end_join {w0 : Bs} {w : World} {p low high wait N : Nat} {out : List Bool} (h : WSm w0 p low high wait N out w) (ho : out.length ≤ 250000) :
    ∃ g k cap, w.cell? ⟨p, 3, none⟩ = some (.slice (some ⟨g, 0, none⟩) k cap) ∧ Calls Tryd.prog 52 #[.slice (some ⟨g, 0, none⟩) k cap] w (BOut w (JQ w.heap.size out)) := by
  obtain ⟨hb, g, k, cap, xs, h2⟩ := h
  refine ⟨g, k, cap, h2.blk.cell 3, ?_⟩
  have := join_out (some ⟨g, 0, none⟩) k cap xs w (by have := h2.few; omega) h2.rdL (fun x hx => (h2.rd x hx).2.1)
  rw [h2.bits] at this
  exact this
theorem JQ.far {B r : Nat} {l : List Bool} {v : Value} {er : Int} {w : World} (h : JQ B l v er w) (hr : r < B) (i : Nat) (a : Value) : JQ B l v er (w.setCell ⟨r, i, none⟩ a) := by
  rcases h with ⟨h2, h3, g, e, hg, hb, hl⟩ | h
  · exact .inl ⟨h2, h3, g, e, hg, hb.far (by simp; omega) _, hl⟩
  · exact .inr h
theorem JQ.mono {B B' : Nat} {l : List Bool} {v : Value} {er : Int} {w : World} (h : JQ B l v er w) (hb : B' ≤ B) : JQ B' l v er w := by
  rcases h with ⟨h2, h3, g, e, hg, hb2, hl⟩ | h
  · exact .inl ⟨h2, h3, g, e, by omega, hb2, hl⟩
  · exact .inr h
/-- another block made: it stays from now on -/
theorem WSm.rebase {w0 : Bs} {w : World} {p low high wait N : Nat} {out : List Bool} (h : WSm w0 p low high wait N out w) {r : Nat} (hr : r = w.heap.size) (o : Obj) : WSm ⟨w0.w, r, some o⟩ p low high wait N out (w.alloc o) := by
  subst hr
  have hn := h.next ((Below.refl w.heap.size w).alloc (Nat.le_refl _) o)
  obtain ⟨hb, g, k, cap, xs, h2⟩ := hn
  obtain ⟨_, g', k', cap', xs', h3⟩ := h
  have e : g' = g := by
    have a1 := h2.blk.cell 3
    have a2 := (World.cell?_alloc_lt w o ⟨p, 3, none⟩ h3.blk.lt).trans (h3.blk.cell 3)
    rw [a1] at a2
    have a3 : (some (Value.slice (some ⟨g, 0, none⟩) k cap)) = some (Value.slice (some ⟨g', 0, none⟩) k' cap') := a2
    injection a3 with a3; injection a3 with a3; injection a3 with a3; injection a3 with a3; exact a3.symm
  subst e
  refine ⟨hb, g', k, cap, xs, h2.blk, h2.own, h2.hp, h2.hg, h2.ne, h2.len, h2.rd, h2.bits, h2.few, ?_, ?_, ?_, ?_⟩
  · have := h3.blk.lt; show w.heap.size ≠ p; omega
  · have := (World.ownsRow.lt h3.own g' rfl).2; show w.heap.size ≠ g'; omega
  · show w.heap.size < _; simp
  · exact heap_alloc_new w o
theorem WSm.stay {w0 : Bs} {w : World} {p low high wait N : Nat} {out : List Bool} (h : WSm w0 p low high wait N out w) : w.heap[w0.r]? = w0.o := by
  obtain ⟨_, g, k, cap, xs, h2⟩ := h
  exact h2.kp.2.2.2
theorem WSm.base {w0 : Bs} {w : World} {p low high wait N : Nat} {out : List Bool} (h : WSm w0 p low high wait N out w) : Below w0.w.heap.size w0.w w := h.1
set_option maxRecDepth 100000 in
set_option maxHeartbeats 2000000 in
theorem end_w (w0 : Bs) (p : Nat) (e : En) (out2 : List Bool) (w : World) (h : Hid (WS w0 p e w)) (ho : e.out.length ≤ 65536) (hw : e.wait ≤ 65536) (ho2 : Hid (out2 = endBits e)) :
    Calls Tryd.prog 30 #[.pointer (some ⟨p, 0, none⟩)] w (BOut w0.w (JQ w0.w.heap.size out2)) := by
  have HW1 := Lib.hid (WSm.rebase (WSm.setWait h.out (e.wait + 1)) (r := w.heap.size) (by simp) (.cells #[.slice none 0 0, .int .i64 0] 46))
  have HB0 := Lib.hid (show w0.w.heap.size ≤ w.heap.size from h.out.1.size)
  have HL2 := Lib.hid (show out2.length = e.out.length + e.wait + 2 by rw [ho2.out, endBits_length]; rfl)
  obtain ⟨c2, f2⟩ := WSm.wait_ h.out
  obtain ⟨c0, -, -, -⟩ := WSm.two h.out
  have lp := WSm.lt h.out
  have ew : (e.wait : Int) + 1 = ((e.wait + 1 : Nat) : Int) := by omega
  have HEW := Lib.hid ew
  clear ew
  by_cases hl : 1073741824 ≤ e.low
  · have d1 : decide ((e.low : Int) < 1073741824) = false := by simp; omega
    have HO := Lib.hid (show out2 = emit e.out true (e.wait + 1) by rw [ho2.out]; unfold endBits; rw [decide_eq_true hl])
    clear hl
    go_enter Tryd.func30, Tryd.ntmps30
    go_wp2_with fail
    clear c0 c2 f2
    rw [HEW.out]
    obtain ⟨br, hbr⟩ : ∃ br, br = w.heap.size := ⟨_, rfl⟩
    generalize ((w.setCell ⟨p, 2, none⟩ (.int .i64 ((e.wait + 1 : Nat) : Int))).alloc (.cells #[.slice none 0 0, .int .i64 0] 46)) = w1 at HW1 ⊢
    rw [← hbr] at HW1 ⊢
    have HBR := Lib.hid (show w0.w.heap.size ≤ br by have := HB0.out; omega)
    clear hbr lp HB0
    with_reducible refine (send_n ⟨w0.w, br, some (.cells #[.slice none 0 0, .int .i64 0] 46)⟩ p e.low e.high (e.wait + 1) e.out.length out2.length 1 true 1 e.out out2 w1 HW1 rfl (Lib.hid rfl) (by omega) (by omega) (Lib.hid rfl) (by omega) (Lib.hid rfl) HO).mono ?_
    rintro ee w2 ⟨rfl, h2⟩
    have H2 := Lib.hid h2
    have HR2 := Lib.hid (show Blk w2 br 46 #[.slice none 0 0, .int .i64 0] from h2.stay)
    obtain ⟨g, k, cap, c3, hj⟩ := end_join h2 (by have := HL2.out; omega)
    have HJ := Lib.hid hj
    clear h2 hj
    go_wp2_with fail
    with_reducible refine HJ.out.mono ?_
    rintro ee w3 ⟨A, n, c, N, er, rfl, hb3, hq⟩
    have HK3 := Lib.hid (HR2.out.below hb3 HR2.out.lt)
    have HQ3 := Lib.hid hq
    have HB3 := Lib.hid (H2.out.base.trans (hb3.mono H2.out.base.size))
    have HS3 := Lib.hid (show br < w2.heap.size ∧ w0.w.heap.size ≤ w2.heap.size from ⟨HR2.out.lt, H2.out.base.size⟩)
    clear hb3 hq HJ c3
    obtain ⟨y1, y2, y3, y4⟩ := blk2 HK3.out
    go_wp2
    exact bodyPost_ret (v := .tuple #[.agg #[.slice A n c, .int .i64 N], .int .i64 er]) (by simp [results, Tryd.results30, go_sem, y1, y2]) rfl ⟨A, n, c, N, er, rfl, (HB3.out.setCell HBR.out _).setCell HBR.out _, JQ.mono (JQ.far (JQ.far HQ3.out HS3.out.1 _ _) HS3.out.1 _ _) HS3.out.2⟩
  · have d1 : decide ((e.low : Int) < 1073741824) = true := by simp; omega
    have HO := Lib.hid (show out2 = emit e.out false (e.wait + 1) by rw [ho2.out]; unfold endBits; rw [decide_eq_false hl])
    clear hl
    go_enter Tryd.func30, Tryd.ntmps30
    go_wp2_with fail
    clear c0 c2 f2
    rw [HEW.out]
    obtain ⟨br, hbr⟩ : ∃ br, br = w.heap.size := ⟨_, rfl⟩
    generalize ((w.setCell ⟨p, 2, none⟩ (.int .i64 ((e.wait + 1 : Nat) : Int))).alloc (.cells #[.slice none 0 0, .int .i64 0] 46)) = w1 at HW1 ⊢
    rw [← hbr] at HW1 ⊢
    have HBR := Lib.hid (show w0.w.heap.size ≤ br by have := HB0.out; omega)
    clear hbr lp HB0
    with_reducible refine (send_n ⟨w0.w, br, some (.cells #[.slice none 0 0, .int .i64 0] 46)⟩ p e.low e.high (e.wait + 1) e.out.length out2.length 0 false 0 e.out out2 w1 HW1 rfl (Lib.hid rfl) (by omega) (by omega) (Lib.hid rfl) (by omega) (Lib.hid rfl) HO).mono ?_
    rintro ee w2 ⟨rfl, h2⟩
    have H2 := Lib.hid h2
    have HR2 := Lib.hid (show Blk w2 br 46 #[.slice none 0 0, .int .i64 0] from h2.stay)
    obtain ⟨g, k, cap, c3, hj⟩ := end_join h2 (by have := HL2.out; omega)
    have HJ := Lib.hid hj
    clear h2 hj
    go_wp2_with fail
    with_reducible refine HJ.out.mono ?_
    rintro ee w3 ⟨A, n, c, N, er, rfl, hb3, hq⟩
    have HK3 := Lib.hid (HR2.out.below hb3 HR2.out.lt)
    have HQ3 := Lib.hid hq
    have HB3 := Lib.hid (H2.out.base.trans (hb3.mono H2.out.base.size))
    have HS3 := Lib.hid (show br < w2.heap.size ∧ w0.w.heap.size ≤ w2.heap.size from ⟨HR2.out.lt, H2.out.base.size⟩)
    clear hb3 hq HJ c3
    obtain ⟨y1, y2, y3, y4⟩ := blk2 HK3.out
    go_wp2
    exact bodyPost_ret (v := .tuple #[.agg #[.slice A n c, .int .i64 N], .int .i64 er]) (by simp [results, Tryd.results30, go_sem, y1, y2]) rfl ⟨A, n, c, N, er, rfl, (HB3.out.setCell HBR.out _).setCell HBR.out _, JQ.mono (JQ.far (JQ.far HQ3.out HS3.out.1 _ _) HS3.out.1 _ _) HS3.out.2⟩
end Go.Proofs.YtgpdgegelipboaaDoor.Cd
namespace Go.Proofs.YtgpdgegelipboaaDoor.Cd
open Go.RowKit
/-- the world in which a writer was made -/
def rsC (low high : Nat) (wt : Int) (A : Option Addr) (n c : Nat) (N : Int) : Array Value := #[.int .u32 (low : Int), .int .u32 (high : Int), .int .i64 wt, .slice A n c, .int .i64 N]
def rsW (w : World) (low high : Nat) (wt : Int) (A : Option Addr) (n c : Nat) (N : Int) : World :=
  ((w.alloc (.cells (rsC low high wt A n c N) 75)).alloc (.cells #[.slice A n c, .int .i64 N] 46)).alloc (.cells #[.int .u32 (low : Int), .int .u32 (high : Int), .int .i64 wt, .slice (some ⟨w.heap.size + 1, 0, none⟩) 1 1, .int .i64 N] 105)
theorem rs_start {w : World} {low high k : Nat} {A : Option Addr} {n c : Nat} {N : Int} {l : List Bool} (h : IsB w (.agg #[.slice A n c, .int .i64 N]) l) :
    WSm ⟨w, w.heap.size, some (.cells (rsC low high (k : Int) A n c N) 75)⟩ (w.heap.size + 1 + 1) low high k l.length l (rsW w low high (k : Int) A n c N) := by
  obtain ⟨hn, hN, hr, hl⟩ := isB_parts h
  have hb : Below w.heap.size w (rsW w low high (k : Int) A n c N) := (((Below.refl w.heap.size w).alloc (Nat.le_refl _) _).alloc (by simp) _).alloc (by simp; omega) _
  have hr2 : Rd (rsW w low high (k : Int) A n c N) A n (pack l) := hr.below hb
  refine ⟨hb, w.heap.size + 1, 1, 1, [⟨A, n, c, N, pack l⟩], ?_, ?_, ?_, ?_, ?_, rfl, ?_, ?_, ?_, ?_, ?_, ?_, ?_⟩
  · rw [hN]
    exact Blk.newAt (by simp)
  · refine ⟨rfl, .inr ⟨w.heap.size + 1, 1, #[.slice A n c, .int .i64 N], rfl, by show w.heap.size ≤ _; omega, ?_, by omega, by unfold maxLen; omega, rfl, rfl⟩⟩
    have : Blk ((w.alloc (.cells (rsC low high (k : Int) A n c N) 75)).alloc (.cells #[.slice A n c, .int .i64 N] 46)) (w.heap.size + 1) 46 #[.slice A n c, .int .i64 N] := Blk.newAt (by simp)
    exact this.alloc _
  · show w.heap.size ≤ _; omega
  · show w.heap.size ≤ _; omega
  · omega
  · intro x hx
    have : x = ⟨A, n, c, N, pack l⟩ := by simpa using hx
    subst this
    refine ⟨hr2, by show okB (pack l) N = true; rw [hN]; exact okB_pack l hl, ?_, ?_⟩
    · intro ad e hn
      have := hr.lies hn ad e
      omega
    · intro ad e hn
      have := hr.lies hn ad e
      omega
  · show bitsIn (pack l) N.toNat ++ [] = l
    rw [hN, List.append_nil]
    exact bitsIn_pack l
  · omega
  · show w.heap.size ≠ _; omega
  · show w.heap.size ≠ _; omega
  · show w.heap.size < _; unfold rsW; simp; omega
  · have : Blk (w.alloc (.cells (rsC low high (k : Int) A n c N) 75)) w.heap.size 75 (rsC low high (k : Int) A n c N) := Blk.new w _ _
    exact (this.alloc _).alloc _
/-- a writer was made -/
def RsOk (w : World) (low high k : Nat) (l : List Bool) (e : Ending) (w' : World) : Prop :=
  ∃ z p, z.w = w ∧ e = .returned (.tuple #[.pointer (some ⟨p, 0, none⟩), .int .i64 0]) ∧ WSm z p low high k l.length l w'
set_option maxRecDepth 100000 in
set_option maxHeartbeats 2000000 in
theorem resume_ok (low high k : Nat) (A : Option Addr) (n c : Nat) (N : Int) (l : List Bool) (w : World) (_hl : low < 4294967296) (_hh : high < 4294967296) (hk : k ≤ 65536) (hw : Hid (kind low high = 3)) (hib : Hid (IsB w (.agg #[.slice A n c, .int .i64 N]) l)) :
    Calls Tryd.prog 27 #[encV low high (k : Int) A n c N] w (RsOk w low high k l) := by
  unfold encV
  have HS := Lib.hid (rs_start (low := low) (high := high) (k := k) hib.out)
  unfold rsW rsC at HS
  have d1 : decide ((k : Int) < 0) = false := by simp
  have d2 : decide ((65536 : Int) < (k : Int)) = false := by simp; omega
  go_enter Tryd.func27, Tryd.ntmps27
  go_wp2_with fail
  generalize ((w.alloc (.cells #[.int .u32 (low : Int), .int .u32 (high : Int), .int .i64 (k : Int), .slice A n c, .int .i64 N] 75)).alloc (.cells #[.slice A n c, .int .i64 N] 46)).alloc (.cells #[.int .u32 (low : Int), .int .u32 (high : Int), .int .i64 (k : Int), .slice (some ⟨w.heap.size + 1, 0, none⟩) 1 1, .int .i64 N] 105) = w1 at HS ⊢
  refine (excess_any low high 3 w1 hw.out).mono ?_
  rintro e w2 ⟨rfl, hb2⟩
  have H2 := Lib.hid (WSm.next HS.out hb2)
  have HE2 := Lib.hid (show Blk w2 w.heap.size 75 #[.int .u32 (low : Int), .int .u32 (high : Int), .int .i64 (k : Int), .slice A n c, .int .i64 N] from H2.out.stay)
  clear hb2 HS
  rw [excT_3]
  obtain ⟨x1, x2, x3, x4, x5⟩ := blk5 HE2.out
  go_wp2_with fail
  have hcon := check_any A n c N (pack l) w2 ((isB_parts hib.out).2.2.1.below H2.out.base)
  rw [show okB (pack l) N = true by rw [(isB_parts hib.out).2.1]; exact okB_pack l (isB_parts hib.out).2.2.2] at hcon
  refine hcon.mono ?_
  clear hcon
  rintro e w3 ⟨rfl, hb3⟩
  have H3 := Lib.hid (WSm.next H2.out hb3)
  clear hb3
  go_wp2
  go_ret2
  exact ⟨_, _, rfl, rfl, H3.out⟩
theorem below5 {B g : Nat} {w u : World} (h : Below B w u) (hg : B ≤ g) (a b c d e : Value) : Below B w (((((u.setCell ⟨g, 0, none⟩ a).setCell ⟨g, 1, none⟩ b).setCell ⟨g, 2, none⟩ c).setCell ⟨g, 3, none⟩ d).setCell ⟨g, 4, none⟩ e) :=
  ((((h.setCell hg a).setCell hg b).setCell hg c).setCell hg d).setCell hg e
theorem below5a {g : Nat} {w u : World} (h : Below w.heap.size w u) (hg : w.heap.size ≤ g) (a b c d e : Value) (o : Obj) : Below w.heap.size w ((((((u.setCell ⟨g, 0, none⟩ a).setCell ⟨g, 1, none⟩ b).setCell ⟨g, 2, none⟩ c).setCell ⟨g, 3, none⟩ d).setCell ⟨g, 4, none⟩ e).alloc o) :=
  (below5 h hg a b c d e).alloc (below5 h hg a b c d e).size o
/-- what Begin answers -/
theorem begin_any (w : World) : Calls Tryd.prog 28 #[] w fun e w' => e = .returned (encV 0 4294967295 0 none 0 0 0) ∧ Below w.heap.size w w' := by
  have HK := Lib.hid (Blk.new w 75 #[.int .u32 0, .int .u32 0, .int .i64 0, .slice none 0 0, .int .i64 0])
  have HB := Lib.hid ((Below.refl w.heap.size w).alloc (Nat.le_refl _) (.cells #[.int .u32 0, .int .u32 0, .int .i64 0, .slice none 0 0, .int .i64 0] 75))
  go_enter Tryd.func28, Tryd.ntmps28
  go_wp2_with fail
  generalize w.alloc (.cells #[.int .u32 0, .int .u32 0, .int .i64 0, .slice none 0 0, .int .i64 0] 75) = w1 at HK HB ⊢
  refine (whole_any w1).mono ?_
  rintro e w2 ⟨rfl, hb2⟩
  have HK2 := Lib.hid (HK.out.below hb2 HK.out.lt)
  have HB2 := Lib.hid (HB.out.trans (hb2.mono HB.out.size))
  clear hb2 HB HK
  unfold ivV
  have b2 := HK2.out.lt
  obtain ⟨x1, x2, x3, x4, x5⟩ := blk5 HK2.out
  obtain ⟨f1, f2, f3, f4, f5, -⟩ := frz6 HK2.out
  go_wp2
  exact bodyPost_ret (v := encV 0 4294967295 0 none 0 0 0) (by simp [results, Tryd.results28, go_sem, encV, x1, x2, x3, x4, x5, b2]) rfl ⟨rfl, below5a HB2.out (Nat.le_refl _) _ _ _ _ _ _⟩
end Go.Proofs.YtgpdgegelipboaaDoor.Cd
namespace Go.Proofs.YtgpdgegelipboaaDoor.Cd
open Go.RowKit
/-- a table where it lies -/
structure Tb where
  C : Option Addr
  m : Nat
  d : Nat
  xs : List Int
/-- the slice '.slice L n c' reads as the tables ts -/
def RdT (w : World) (L : Option Addr) (n : Nat) (ts : List Tb) : Prop :=
  ts.length = n ∧ (0 < n → ∃ ad, L = some ad ∧ ∀ j t, ts[j]? = some t → w.cell? (ad.add j) = some (.slice t.C t.m t.d) ∧ Fq.RdI w t.C t.m t.xs ∧ t.m ≤ maxLen)
section
variable {w w' : World} {L : Option Addr} {n : Nat} {ts : List Tb}
theorem RdT.none_ : RdT w L 0 [] := ⟨rfl, fun h => absurd h (by omega)⟩
theorem RdT.below (h : RdT w L n ts) (hb : Below w.heap.size w w') : RdT w' L n ts := by
  refine ⟨h.1, fun hn => ?_⟩
  obtain ⟨ad, e, hc⟩ := h.2 hn
  refine ⟨ad, e, fun j t ht => ?_⟩
  obtain ⟨h1, h2, h3⟩ := hc j t ht
  exact ⟨(hb.cell (World.block_lt_of_cell? _ _ h1)).trans h1, h2.below hb, h3⟩
theorem RdT.at_ (h : RdT w L n ts) {k : Nat} (hk : k < n) : ∃ ad t, L = some ad ∧ ts[k]? = some t ∧ ad.block < w.heap.size ∧ w.cell? (ad.add k) = some (.slice t.C t.m t.d) ∧ Fq.RdI w t.C t.m t.xs ∧ t.m ≤ maxLen := by
  obtain ⟨ad, e, hc⟩ := h.2 (by omega)
  have hl : k < ts.length := by have := h.1; omega
  obtain ⟨t, ht⟩ : ∃ t, ts[k]? = some t := ⟨ts[k], by simp [hl]⟩
  obtain ⟨h1, h2, h3⟩ := hc k t ht
  have hb := World.block_lt_of_cell? _ _ h1
  rw [block_of_add] at hb
  exact ⟨ad, t, e, ht, hb, h1, h2, h3⟩
end
/-- a symbol and its table -/
abbrev Pr := Int × List Int
def spA (q : Pr) : Nat := (q.2.getD q.1.toNat 0).toNat
def spB (q : Pr) : Nat := (q.2.getD (q.1.toNat + 1) 0).toNat
def spT (xs : List Int) : Nat := (Fq.totF true xs).toNat
def okP (q : Pr) : Bool := Fq.symB q.2 q.1
theorem symP_of {q : Pr} (h : okP q = true) : symP q.2 q.1 (spA q) (spB q) (spT q.2) := by
  have h' := h
  unfold okP Fq.symB at h'
  simp only [Bool.and_eq_true, decide_eq_true_eq] at h'
  obtain ⟨hok, h0, h1⟩ := h'
  have hp := Fq.okF_parts hok
  have i1 : q.1.toNat + 1 < q.2.length := by omega
  have b1 := Fq.okF_bd hok (i := q.1.toNat) (by omega)
  have b2 := Fq.okF_bd hok (i := q.1.toNat + 1) i1
  have b3 := Fq.okF_bd hok (i := q.2.length - 1) (by omega)
  have m1 := Fq.okF_mono hok (i := q.1.toNat) (j := q.1.toNat + 1) (by omega) i1
  have m2 := Fq.mono_le hok (i := q.1.toNat + 1) (j := q.2.length - 1) (by omega) (by omega)
  have e1 : ((spA q : Nat) : Int) = q.2.getD q.1.toNat 0 := by unfold spA; omega
  have e2 : ((spB q : Nat) : Int) = q.2.getD (q.1.toNat + 1) 0 := by unfold spB; omega
  have e3 : ((spT q.2 : Nat) : Int) = q.2.getD (q.2.length - 1) 0 := by unfold spT Fq.totF; simp only [if_true]; omega
  refine ⟨?_, hok, ?_, ?_, ?_, ?_⟩
  · unfold Fq.spanV
    unfold okP at h
    rw [h, e1, e2]
    rfl
  · rw [e3]; rfl
  · omega
  · omega
  · omega
/-- the state behind one more symbol -/
def put1 (e : En) (q : Pr) : En := putE e (spA q) (spB q) (spT q.2)
def stE (e : En) (ps : List Pr) : En := ps.foldl put1 e
theorem stE_cons (e : En) (q : Pr) (ps : List Pr) : stE e (q :: ps) = stE (put1 e q) ps := rfl
theorem stE_snoc (e : En) (ps : List Pr) (q : Pr) : stE e (ps ++ [q]) = put1 (stE e ps) q := by simp [stE]
theorem putC_cases (e : En) : (putC e = 0 ∧ e.out.length ≤ 65536 ∧ e.wait ≤ 65536) ∨ putC e = 2 := by
  unfold putC
  split
  · rename_i h; exact .inl ⟨rfl, h⟩
  · exact .inr rfl
/-- the first error -/
def allErr (e : En) : List Pr → Int
  | [] => 0
  | q :: r => if okP q = true then (if putC (put1 e q) = 0 then allErr (put1 e q) r else 2) else 1
theorem allErr_no {e : En} {q : Pr} {r : List Pr} (h : okP q = false) : allErr e (q :: r) = 1 := by unfold allErr; rw [h]; rfl
theorem allErr_long {e : En} {q : Pr} {r : List Pr} (h : okP q = true) (h2 : putC (put1 e q) = 2) : allErr e (q :: r) = 2 := by unfold allErr; rw [if_pos h, if_neg (by rw [h2]; decide)]
theorem allErr_ok {e : En} {q : Pr} {r : List Pr} (h : okP q = true) (h2 : putC (put1 e q) = 0) : allErr e (q :: r) = allErr (put1 e q) r := by rw [allErr, if_pos h, if_pos h2]
/-- a state that is fine -/
def Fine (e : En) : Prop := Ok e.low e.high ∧ kind e.low e.high = 3 ∧ e.out.length ≤ 65536 ∧ e.wait ≤ 65536
theorem Fine.put {e : En} {q : Pr} (h : Fine e) (hq : okP q = true) (hc : putC (put1 e q) = 0) : Fine (put1 e q) := by
  obtain ⟨a, b, _⟩ := put_facts h.1 h.2.1 (symP_of hq).2.2.2
  rcases putC_cases (put1 e q) with ⟨_, c, d⟩ | c
  · exact ⟨a, b, c, d⟩
  · rw [c] at hc; cases hc
theorem fine0 : Fine e0 := ⟨e0_ok.1, e0_ok.2, by decide, by decide⟩
/-- where there is no error, each is a symbol, and each state is fine -/
theorem allErr_zero {ps : List Pr} : ∀ {e : En}, Fine e → allErr e ps = 0 → Fine (stE e ps) ∧ ∀ q ∈ ps, okP q = true := by
  induction ps with
  | nil => intro e h _; exact ⟨h, by simp⟩
  | cons q r ih =>
    intro e h h0
    cases hq : okP q with
    | false => rw [allErr_no hq] at h0; cases h0
    | true =>
      rcases putC_cases (put1 e q) with ⟨c, _, _⟩ | c
      · rw [allErr_ok hq c] at h0
        obtain ⟨a, b⟩ := ih (h.put hq c) h0
        rw [stE_cons]
        refine ⟨a, fun q' hq' => ?_⟩
        rcases List.mem_cons.1 hq' with e | e
        · rw [e]; exact hq
        · exact b q' e
      · rw [allErr_long hq c] at h0; cases h0
/-- what All answers -/
def AllOut (w : World) (ps : List Pr) (e : Ending) (w' : World) : Prop :=
  (allErr e0 ps = 0 ∧ BOut w (JQ w.heap.size (endBits (stE e0 ps))) e w') ∨ (allErr e0 ps ≠ 0 ∧ BBad w (allErr e0 ps) e w')
end Go.Proofs.YtgpdgegelipboaaDoor.Cd
namespace Go.Proofs.YtgpdgegelipboaaDoor.Cd
open Go.RowKit
/-- pairs of symbols and tables -/
def prs (ss : List Int) (ts : List Tb) : List Pr := ss.zip (ts.map (·.xs))
theorem prs_get {ss : List Int} {ts : List Tb} {k : Nat} {t : Tb} (h1 : k < ss.length) (h2 : ts[k]? = some t) : (prs ss ts).drop k = (ss.getD k 0, t.xs) :: (prs ss ts).drop (k + 1) ∧ (prs ss ts).take (k + 1) = (prs ss ts).take k ++ [(ss.getD k 0, t.xs)] := by
  obtain ⟨hk, e⟩ := List.getElem?_eq_some_iff.1 h2
  have hl : k < (prs ss ts).length := by unfold prs; rw [List.length_zip, List.length_map]; omega
  have hg : (prs ss ts)[k] = (ss.getD k 0, t.xs) := by
    have : (prs ss ts)[k]? = some (ss.getD k 0, t.xs) := by
      unfold prs
      rw [List.getElem?_zip_eq_some]
      exact ⟨Fq.get_of_lt h1, by rw [List.getElem?_map, h2]; rfl⟩
    rw [List.getElem?_eq_getElem hl] at this
    injection this
  exact ⟨by rw [List.drop_eq_getElem_cons hl, hg], by rw [List.take_succ_eq_append_getElem hl, hg]⟩
/-- what the loop of All knows -/
def AllR (w : World) (z : Bs) (p br : Nat) (ps : List Pr) (k : Nat) (wr : World) : Prop :=
  WS z p (stE e0 (ps.take k)) wr ∧ Fine (stE e0 (ps.take k)) ∧ allErr e0 ps = allErr (stE e0 (ps.take k)) (ps.drop k) ∧ Blk z.w br 46 #[.slice none 0 0, .int .i64 0] ∧ Below w.heap.size w z.w ∧ w.heap.size ≤ br
theorem AllR.below {w : World} {z : Bs} {p br : Nat} {ps : List Pr} {k : Nat} {wr : World} (h : AllR w z p br ps k wr) : Below w.heap.size w wr := h.2.2.2.2.1.trans (h.1.1.mono h.2.2.2.2.1.size)
theorem BOut.store {w w1 w2 : World} {br : Nat} {l : List Bool} {A : Option Addr} {n c : Nat} {N er : Int} (hb : Below w.heap.size w w1) (hbr : w.heap.size ≤ br) (hlt : br < w1.heap.size) (h2 : Below w1.heap.size w1 w2) (hq : JQ w1.heap.size l (.agg #[.slice A n c, .int .i64 N]) er w2) (a b : Value) :
    BOut w (JQ w.heap.size l) (.returned (.tuple #[.agg #[.slice A n c, .int .i64 N], .int .i64 er])) ((w2.setCell ⟨br, 0, none⟩ a).setCell ⟨br, 1, none⟩ b) :=
  ⟨A, n, c, N, er, rfl, ((hb.trans (h2.mono hb.size)).setCell hbr _).setCell hbr _, JQ.mono (JQ.far (JQ.far hq hlt _ _) hlt _ _) hb.size⟩
set_option maxRecDepth 100000 in
set_option maxHeartbeats 4000000 in
theorem all_walk (A : Option Addr) (n c : Nat) (L : Option Addr) (d : Nat) (ss : List Int) (ts : List Tb) (w : World) (hn : Hid (n ≤ maxLen)) (hs : Hid (Fq.RdI w A n ss)) (ht : Hid (RdT w L n ts)) :
    Calls Tryd.prog 14 #[.slice A n c, .slice L n d] w (AllOut w (prs ss ts)) := by
  obtain ⟨ps, hps⟩ : ∃ ps, ps = prs ss ts := ⟨_, rfl⟩
  rw [← hps]
  have HPS := Lib.hid hps
  clear hps
  have d1 : ((n : Int) != (n : Int)) = false := by simp
  have b1 : n ≤ 9223372036854775807 := by have := hn.out; unfold maxLen at this; omega
  have HK := Lib.hid (Blk.new w 46 #[.slice none 0 0, .int .i64 0])
  have HB := Lib.hid ((Below.refl w.heap.size w).alloc (Nat.le_refl _) (.cells #[.slice none 0 0, .int .i64 0] 46))
  go_enter Tryd.func14, Tryd.ntmps14
  go_wp2_with fail
  generalize w.alloc (.cells #[.slice none 0 0, .int .i64 0] 46) = w1 at HK HB ⊢
  obtain ⟨br, hbr⟩ : ∃ br, br = w.heap.size := ⟨_, rfl⟩
  have HBR := Lib.hid (show w.heap.size ≤ br by omega)
  rw [← hbr] at HK ⊢
  clear hbr
  refine (begin_any w1).mono ?_
  rintro e w2 ⟨rfl, hb2⟩
  have HK2 := Lib.hid (HK.out.below hb2 HK.out.lt)
  have HB2 := Lib.hid (HB.out.trans (hb2.mono HB.out.size))
  clear hb2 HB HK
  have hcon := resume_ok 0 4294967295 0 none 0 0 0 [] w2 (by omega) (by omega) (by omega) (Lib.hid e0_ok.2) (Lib.hid (IsB.nil_ w2))
  unfold encV at hcon ⊢
  go_wp2_with fail
  refine hcon.mono ?_
  clear hcon
  rintro e w3 ⟨z, p, hz, rfl, h3⟩
  have HR0 := Lib.hid (show AllR w z p br ps 0 w3 from ⟨h3, fine0, rfl, by rw [hz]; exact HK2.out, by rw [hz]; exact HB2.out, HBR.out⟩)
  clear hz h3 HK2 HB2
  go_wp2
  go_loopw [28] (fun v wr => ∃ k : Nat, v = .int .i64 (k : Int) ∧ k ≤ n ∧ Hid (AllR w z p br ps k wr)) (fun v _ => n - (intOf v).toNat)
  case atStart => exact ⟨0, rfl, by omega, HR0⟩
  case round =>
    obtain ⟨k, rfl, hk, HZ⟩ := hrel
    clear HR0
    by_cases hlt : k < n
    · obtain ⟨ad, rfl, had, x1⟩ := (hs.out.below HZ.out.below).at_ hlt
      obtain ⟨ad2, t, rfl, hget, had2, x2, hx, hm⟩ := (ht.out.below HZ.out.below).at_ hlt
      obtain ⟨g1, g2⟩ := prs_get (ss := ss) (by have := hs.out.1; omega) hget
      rw [← HPS.out] at g1 g2
      obtain ⟨s, hs'⟩ : ∃ s, s = ss.getD k 0 := ⟨_, rfl⟩
      rw [← hs'] at x1 g1 g2
      have HG1 := Lib.hid g1
      have HG2 := Lib.hid g2
      have HX := Lib.hid hx
      have HM := Lib.hid hm
      obtain ⟨C, m, dd, xs⟩ := t
      dsimp only at x2 HX HM HG1 HG2
      clear hs' g1 g2 hget hx hm
      cases hq : okP (s, xs) with
      | false =>
        have HQ := Lib.hid hq
        clear hq
        go_wp2_with fail
        refine (put_no z p _ _ _ _ _ C m dd xs s _ (Lib.hid HZ.out.1) HX HM HQ).mono ?_
        rintro e w5 ⟨rfl, h5⟩
        have HE := Lib.hid (show allErr e0 ps = 1 by rw [HZ.out.2.2.1, HG1.out, allErr_no HQ.out])
        have HK5 := Lib.hid (HZ.out.2.2.2.1.below h5.base HZ.out.2.2.2.1.lt)
        have HB5 := Lib.hid (HZ.out.2.2.2.2.1.trans (h5.base.mono HZ.out.2.2.2.2.1.size))
        clear h5 x1 x2
        obtain ⟨y1, y2, y3, y4⟩ := blk2 HK5.out
        go_wp2
        exact bodyPost_ret (v := .tuple #[zeroB, .int .i64 1]) (by simp [results, Tryd.results14, go_sem, zeroB, y1, y2]) rfl (.inr ⟨by rw [HE.out]; decide, by rw [HE.out], (HB5.out.setCell HBR.out _).setCell HBR.out _⟩)
      | true =>
        have HQ := Lib.hid hq
        clear hq
        have HF := Lib.hid HZ.out.2.1
        obtain ⟨E, hE⟩ : ∃ E, E = stE e0 (ps.take k) := ⟨_, rfl⟩
        have HWS := Lib.hid (show WS z p E wr by rw [hE]; exact HZ.out.1)
        rw [← hE] at HF
        have HEE := Lib.hid hE
        clear hE
        have f3 : E.out.length ≤ 65536 := HF.out.2.2.1
        have f4 : E.wait ≤ 65536 := HF.out.2.2.2
        rcases putC_cases (put1 E (s, xs)) with ⟨hc, -, -⟩ | hc
        · have HC := Lib.hid hc
          clear hc
          go_wp2_with fail
          refine (put_w z p E (put1 E (s, xs)) 0 C m dd xs s _ _ _ _ HWS (Lib.hid HF.out.1) (Lib.hid HF.out.2.1) f3 f4 HX HM (Lib.hid (symP_of HQ.out)) (Lib.hid rfl) HC).mono ?_
          rintro e w5 ⟨rfl, h5⟩
          have HR5 := Lib.hid (show AllR w z p br ps (k + 1) w5 from by
            refine ⟨?_, ?_, ?_, HZ.out.2.2.2⟩
            · rw [HG2.out, stE_snoc, ← HEE.out]; exact h5
            · rw [HG2.out, stE_snoc, ← HEE.out]; exact HF.out.put HQ.out HC.out
            · rw [HG2.out, stE_snoc, ← HEE.out, HZ.out.2.2.1, HG1.out, ← HEE.out, allErr_ok HQ.out HC.out])
          clear h5 x1 x2
          go_wp2
          go_roundw
          case rel => exact ⟨k + 1, by go_num, by omega, HR5⟩
          case measure => simp [intOf]; omega
        · have HC := Lib.hid hc
          clear hc
          go_wp2_with fail
          refine (put_w z p E (put1 E (s, xs)) 2 C m dd xs s _ _ _ _ HWS (Lib.hid HF.out.1) (Lib.hid HF.out.2.1) f3 f4 HX HM (Lib.hid (symP_of HQ.out)) (Lib.hid rfl) HC).mono ?_
          rintro e w5 ⟨rfl, h5⟩
          have HE := Lib.hid (show allErr e0 ps = 2 by rw [HZ.out.2.2.1, HG1.out, ← HEE.out, allErr_long HQ.out HC.out])
          have HK5 := Lib.hid (HZ.out.2.2.2.1.below (WSm.base h5) HZ.out.2.2.2.1.lt)
          have HB5 := Lib.hid (HZ.out.2.2.2.2.1.trans ((WSm.base h5).mono HZ.out.2.2.2.2.1.size))
          clear h5 x1 x2
          obtain ⟨y1, y2, y3, y4⟩ := blk2 HK5.out
          go_wp2
          exact bodyPost_ret (v := .tuple #[zeroB, .int .i64 2]) (by simp [results, Tryd.results14, go_sem, zeroB, y1, y2]) rfl (.inr ⟨by rw [HE.out]; decide, by rw [HE.out], (HB5.out.setCell HBR.out _).setCell HBR.out _⟩)
    · obtain rfl : k = n := by omega
      have hpl : ps.length = k := by rw [HPS.out]; unfold prs; rw [List.length_zip, List.length_map, hs.out.1, ht.out.1]; omega
      obtain ⟨E, hE⟩ : ∃ E, E = stE e0 ps := ⟨_, rfl⟩
      obtain ⟨q1, q2, q3, q4, q5, -⟩ := HZ.out
      rw [List.take_of_length_le (by omega), ← hE] at q1 q2 q3
      rw [List.drop_of_length_le (by omega)] at q3
      have Q1 := Lib.hid q1
      have Q2 := Lib.hid q2
      have Q3 := Lib.hid (show allErr e0 ps = 0 from q3)
      have Q4 := Lib.hid q4
      have Q5 := Lib.hid q5
      have HE := Lib.hid hE
      have f3 : E.out.length ≤ 65536 := q2.2.2.1
      have f4 : E.wait ≤ 65536 := q2.2.2.2
      clear q1 q2 q3 q4 q5 hE hpl HZ
      go_wp2_with fail
      refine (end_w z p E (endBits E) _ Q1 f3 f4 (Lib.hid rfl)).mono ?_
      rintro e w5 ⟨A5, n5, c5, N5, er5, rfl, hb5, hq5⟩
      have HK5 := Lib.hid (Q4.out.below hb5 Q4.out.lt)
      have HB5 := Lib.hid hb5
      have HQ5 := Lib.hid hq5
      clear hb5 hq5
      obtain ⟨y1, y2, y3, y4⟩ := blk2 HK5.out
      go_wp2
      refine bodyPost_ret (v := .tuple #[.agg #[.slice A5 n5 c5, .int .i64 N5], .int .i64 er5]) (by simp [results, Tryd.results14, go_sem, y1, y2]) rfl (.inl ⟨Q3.out, ?_⟩)
      rw [← HE.out]
      exact BOut.store Q5.out HBR.out Q4.out.lt HB5.out HQ5.out _ _
end Go.Proofs.YtgpdgegelipboaaDoor.Cd
namespace Go.Proofs.YtgpdgegelipboaaDoor.Fq
open Go.RowKit
/-- places as a block's cells -/
def ncells (xs : List Nat) : Array Value := icells (xs.map fun x : Nat => (x : Int))
/-- what greatestFirst's comparison needs of memory; the row that is sorted is another block -/
def CmpOk (w : World) (B C : Nat) (ls : List Int) : Prop :=
  C ≠ B ∧ ∃ A m c, w.cell? ⟨C, 0, none⟩ = some (.slice A m c) ∧ RdI w A m ls ∧ ∀ ad, A = some ad → 0 < m → ad.block ≠ B
theorem CmpOk.only {w w' : World} {B C : Nat} {ls : List Int} (h : CmpOk w B C ls) (hg : w.grownBy w' (some B)) : CmpOk w' B C ls := by
  obtain ⟨h1, A, m, c, h2, h3, h4⟩ := h
  refine ⟨h1, A, m, c, ?_, h3.only hg h4, h4⟩
  exact (World.cell?_of_block (hg.block C (World.block_lt_of_cell? _ _ h2) (fun e => h1 (by injection e)))).trans h2
theorem CmpOk.drewN {w : World} {B C : Nat} {ls : List Int} (h : CmpOk w B C ls) (n : Nat) : CmpOk (w.drewN n) B C ls := h
end Go.Proofs.YtgpdgegelipboaaDoor.Fq
namespace Go.Proofs.YtgpdgegelipboaaDoor.Fq
open Go.RowKit
/-- the row B holds xs, and nothing else is another than in w -/
def St (w wr : World) (B : Nat) (xs : List Nat) : Prop := w.grownBy wr (some B) ∧ Blk wr B 3 (ncells xs)
theorem St.drewN {w wr : World} {B : Nat} {xs : List Nat} (h : St w wr B xs) (n : Nat) : St w (wr.drewN n) B xs := ⟨only_drewN h.1 n, h.2⟩
theorem St.drew {w wr : World} {B : Nat} {xs : List Nat} (h : St w wr B xs) : St w wr.drew B xs := ⟨only_drew h.1, h.2⟩
theorem St.trans {w wr wr' : World} {B : Nat} {xs ys : List Nat} (h : St w wr B xs) (h' : St wr wr' B ys) : St w wr' B ys :=
  ⟨World.grownBy.trans h.1 h'.1, h'.2⟩
/-- places within n -/
def Ins (xs : List Nat) (n : Nat) : Prop := ∀ x ∈ xs, x < n
theorem Ins.at_ {xs : List Nat} {n i : Nat} (h : Ins xs n) (hi : i < xs.length) : xs.getD i 0 < n := by
  have e : xs.getD i 0 = xs[i] := by simp [List.getD_eq_getElem?_getD, hi]
  rw [e]; exact h _ (List.getElem_mem hi)
end Go.Proofs.YtgpdgegelipboaaDoor.Fq
namespace Go.Proofs.YtgpdgegelipboaaDoor.Fq
open Go.RowKit
/-- the row holds the same places in some order -/
def PmP (w : World) (B : Nat) (xs : List Nat) (e : Ending) (w' : World) : Prop := e = .returned (.tuple #[]) ∧ ∃ ys : List Nat, ys.Perm xs ∧ St w w' B ys
theorem PmP.next {w w1 w2 : World} {B : Nat} {xs ys zs : List Nat} (hp : ys.Perm xs) (h : St w w1 B ys) (hp2 : zs.Perm ys) (h2 : St w1 w2 B zs) : ∃ zs : List Nat, zs.Perm xs ∧ St w w2 B zs :=
  ⟨zs, hp2.trans hp, h.trans h2⟩
end Go.Proofs.YtgpdgegelipboaaDoor.Fq
namespace Go.Proofs.YtgpdgegelipboaaDoor.Fq
open Go.RowKit
/-- the row holds the places xs in some order, and nothing else is another than in w -/
def CSt (w wr : World) (B : Nat) (xs : List Nat) : Prop := ∃ ys : List Nat, ys.Perm xs ∧ St w wr B ys
theorem CSt.drewN {w wr : World} {B : Nat} {xs : List Nat} (h : CSt w wr B xs) (n : Nat) : CSt w (wr.drewN n) B xs := by
  obtain ⟨ys, h1, h2⟩ := h
  exact ⟨ys, h1, h2.drewN n⟩
end Go.Proofs.YtgpdgegelipboaaDoor.Fq
namespace Go.Proofs.YtgpdgegelipboaaDoor.Fq
open Go.RowKit
end Go.Proofs.YtgpdgegelipboaaDoor.Fq
namespace Go.Proofs.YtgpdgegelipboaaDoor.Fq
open Go.RowKit
end Go.Proofs.YtgpdgegelipboaaDoor.Fq
namespace Go.Proofs.YtgpdgegelipboaaDoor.Fq
open Go.RowKit
theorem and_low (n : Nat) (h : n ≤ 1000000) : bits BinOp.and IntKind.u64 (n : Int) 4294967295 = (n : Int) := by
  rw [show (4294967295 : Int) = ((4294967295 : Nat) : Int) from rfl, u64_and_nat _ _ (by omega) (by omega)]
  have h : n &&& 4294967295 = n := by
    have := Nat.and_two_pow_sub_one_of_lt_two_pow (x := n) (n := 32) (by omega)
    simpa using this
  rw [h]
set_option maxHeartbeats 1000000 in
theorem mul64_one (n : Nat) (w : World) (hn : n ≤ 1000000) :
    Calls Tryd.prog 98 #[.int .u64 1, .int .u64 (n : Int)] w fun e w' => e = .returned (.tuple #[.int .u64 0, .int .u64 (n : Int)]) ∧ w = w' := by
  have a1 : bits BinOp.and IntKind.u64 1 4294967295 = 1 := by decide +kernel
  have a2 := and_low n hn
  have a3 : (n : Int) / 4294967296 = 0 := by omega
  have a4 : bits BinOp.and IntKind.u64 0 4294967295 = 0 := by decide +kernel
  go_enter Tryd.func98, Tryd.ntmps98
  go_wp2
  exact bodyPost_ret (v := .tuple #[.int .u64 0, .int .u64 (n : Int)]) (by simp [results, Tryd.results98, go_sem]) rfl ⟨rfl, rfl⟩
set_option maxHeartbeats 1000000 in
theorem mul_one (n : Nat) (w : World) (hn : n ≤ 1000000) :
    Calls Tryd.prog 94 #[.int .u64 1, .int .u64 (n : Int)] w fun e w' => e = .returned (.tuple #[.int .u64 0, .int .u64 (n : Int)]) ∧ w = w' := by
  go_enter Tryd.func94, Tryd.ntmps94
  go_wp2_with fail
  refine (mul64_one n _ hn).mono ?_
  rintro e w' ⟨rfl, rfl⟩
  go_wp2
  exact bodyPost_ret (v := .tuple #[.int .u64 0, .int .u64 (n : Int)]) (by simp [results, Tryd.results94, go_sem]) rfl ⟨rfl, rfl⟩
end Go.Proofs.YtgpdgegelipboaaDoor.Fq
namespace Go.Proofs.YtgpdgegelipboaaDoor.Fq
open Go.RowKit
theorem size_int : (Tryd.prog.info? 3).map (·.size) = some 1 := by kernel_rfl
/-- k ones, zeros behind -/
def ones (k n : Nat) : List Int := List.replicate k 1 ++ List.replicate (n - k) 0
theorem ones_length (k n : Nat) (h : k ≤ n) : (ones k n).length = n := by simp [ones]; omega
theorem ones_all (n : Nat) : ones n n = List.replicate n 1 := by simp [ones]
theorem ones_copy (k t n : Nat) (k1 : Nat) (hk1 : k1 = k + t) : ((icells (ones k n)).toList.take k ++ List.replicate t (Value.int .i64 1) ++ (icells (ones k n)).toList.drop (k + (List.replicate t (Value.int .i64 1)).length)).toArray = icells (ones k1 n) := by
  subst hk1
  rw [List.length_replicate]
  have e : (icells (ones k n)).toList = List.replicate k (Value.int .i64 1) ++ List.replicate (n - k) (Value.int .i64 0) := by simp [icells, ones]
  rw [e]
  have e1 : (List.replicate k (Value.int .i64 1) ++ List.replicate (n - k) (Value.int .i64 0)).take k = List.replicate k (Value.int .i64 1) := List.take_left' (by simp)
  have e2 : (List.replicate k (Value.int .i64 1) ++ List.replicate (n - k) (Value.int .i64 0)).drop (k + t) = List.replicate (n - (k + t)) (Value.int .i64 0) := by
    rw [List.drop_append, List.drop_of_length_le (by simp), List.drop_replicate]
    simp; omega
  rw [e1, e2]
  simp only [icells, ones, List.map_append, List.map_replicate]
  rw [List.replicate_append_replicate]
theorem one_rep (t : Nat) : ∀ v ∈ List.replicate t (Value.int .i64 1), v.oneCell' = true := by
  intro v hv
  rw [(List.mem_replicate.1 hv).2]
  rfl
theorem ones_src {w : World} {g : Nat} {t : TypeId} {k n m : Nat} (h : Blk w g t (icells (ones k n))) (hm : m ≤ k) (hk : k ≤ n) : ∀ j v, (List.replicate m (Value.int .i64 1))[j]? = some v → w.cell? ((⟨g, 0, none⟩ : Addr).add j) = some v := by
  intro j v hv
  obtain ⟨hj, rfl⟩ := List.getElem?_eq_some_iff.1 hv
  rw [List.length_replicate] at hj
  rw [add_own, blk_at h (by rw [ones_length _ _ hk]; omega)]
  simp [ones, List.getD_eq_getElem?_getD, List.getElem?_append, show j < k by omega]
def RepP (w : World) (n : Nat) (e : Ending) (w' : World) : Prop :=
  ∃ g, e = .returned (.slice (some ⟨g, 0, none⟩) n n) ∧ w.heap.size ≤ g ∧ Blk w' g 3 (icells (List.replicate n 1)) ∧ Below w.heap.size w w'
set_option maxRecDepth 100000 in
set_option maxHeartbeats 2000000 in
theorem repeat_one (G n c : Nat) (w : World) (hg : Hid (Blk w G 3 (icells [1]))) (h1 : 1 ≤ n) (hn : n ≤ 1000) :
    Calls Tryd.prog 87 #[.slice (some ⟨G, 0, none⟩) 1 c, .int .i64 (n : Int)] w (RepP w n) := by
  have hmk : ∀ u : World, (Instr.makeSlice 42 (.int .i64 (n : Int)) (.int .i64 (n : Int))).run Tryd.prog u = .ok (.slice (some ⟨u.heap.size, 0, none⟩) n n) (u.alloc (.cells (madeCells #[.int .i64 0] n) 3)) := fun u => 
    run_make_row' (P := Tryd.prog) 42 3 (.int .i64 0) 8 Tryd.underlying42 info_int rfl .i64 .i64 n (by omega) (by omega) u
  have HB0 := Lib.hid (show Blk (w.alloc (.cells (madeCells #[.int .i64 0] n) 3)) w.heap.size 3 (icells (ones 0 n)) by
    rw [icells_zero]
    have : ones 0 n = List.replicate n 0 := by simp [ones]
    rw [this]
    exact Blk.new w _ _)
  have hcp := run_copy_row (P := Tryd.prog) (w.alloc (.cells (madeCells #[.int .i64 0] n) 3)) 42 42 3 3 w.heap.size 0 n n ⟨G, 0, none⟩ 1 c (icells (ones 0 n)) 3 (List.replicate 1 (Value.int .i64 1)) Tryd.underlying42 size_int HB0.out
    (by rw [List.length_replicate]; exact (Nat.min_eq_left h1).symm) (by
      intro j v hv
      obtain ⟨hj, rfl⟩ := List.getElem?_eq_some_iff.1 hv
      rw [List.length_replicate] at hj
      have : j = 0 := by omega
      subst this
      rw [add_own]
      exact (hg.out.alloc _).cell 0) (by rw [icells_size, ones_length _ _ (by omega)]; simp; omega) (one_rep 1)
  rw [ones_copy 0 1 n 1 rfl, List.length_replicate] at hcp
  go_enter Tryd.func87, Tryd.ntmps87
  go_wp2_with fail
  refine (mul_one n _ (by omega)).mono ?_
  rintro e w' ⟨rfl, rfl⟩
  go_wp2
  clear hcp hmk
  have HW := Lib.hid (show Below w.heap.size w ((w.alloc (.cells (madeCells #[.int .i64 0] n) 3)).setRow w.heap.size (icells (ones 1 n))) from below_setRow ((Below.refl _ w).alloc (Nat.le_refl _) _) (Nat.le_refl _) _)
  have HB := Lib.hid (show Blk ((w.alloc (.cells (madeCells #[.int .i64 0] n) 3)).setRow w.heap.size (icells (ones 1 n))) w.heap.size 3 (icells (ones 1 n)) from setRow_heap _ _ _ _ _ _ HB0.out)
  generalize (w.alloc (.cells (madeCells #[.int .i64 0] n) 3)).setRow w.heap.size (icells (ones 1 n)) = w1 at HW HB ⊢
  clear HB0
  go_loopw [8] (fun vk wr => ∃ k : Nat, vk = .int .i64 (k : Int) ∧ 1 ≤ k ∧ k ≤ n ∧ Hid (Blk wr w.heap.size 3 (icells (ones k n)) ∧ Below w.heap.size w wr)) (fun vk _ => n - (intOf vk).toNat)
  case atStart => exact ⟨1, rfl, by omega, by omega, Lib.hid ⟨HB.out, HW.out⟩⟩
  case round =>
    obtain ⟨k, rfl, hk1, hkn, HZ⟩ := hrel
    clear HB HW
    by_cases hlt : k < n
    · have hlt' : (k : Int) < (n : Int) := by omega
      obtain ⟨t, ht⟩ : ∃ t, t = Nat.min k (n - k) := ⟨_, rfl⟩
      have ht1 : 1 ≤ t := by rw [ht]; exact Nat.le_min.2 ⟨hk1, by omega⟩
      have ht2 : k + t ≤ n := by have : t ≤ n - k := by rw [ht]; exact Nat.min_le_right _ _
                                 omega
      have ht3 : t ≤ k := by rw [ht]; exact Nat.min_le_left _ _
      have hcp := run_copy_row (P := Tryd.prog) wr.drew 42 42 3 3 w.heap.size k (n - k) (n - k) ⟨w.heap.size, 0, none⟩ k n (icells (ones k n)) 3 (List.replicate t (Value.int .i64 1)) Tryd.underlying42 size_int HZ.out.1
        (by rw [List.length_replicate]; exact ht) (ones_src (w := wr.drew) HZ.out.1 ht3 hkn) (by rw [icells_size, ones_length _ _ hkn, List.length_replicate]; exact ht2) (one_rep t)
      clear ht
      obtain ⟨k2, hk2⟩ : ∃ k2, k2 = k + t := ⟨_, rfl⟩
      rw [ones_copy k t n k2 hk2, List.length_replicate] at hcp
      have e1 : (k : Int) + (t : Int) = (k2 : Int) := by omega
      have b0 : (0 : Int) ≤ (k : Int) := by omega
      have b1 : (k : Int) ≤ (n : Int) := by omega
      have b2 : ¬ n = k := by omega
      have HK2 := Lib.hid hk2
      clear hk2
      go_wp2_with fail
      go_region
      all_goals
        clear hcp
        go_wp2
        go_roundw
        case rel =>
          refine ⟨k2, rfl, by have := HK2.out; omega, by have := HK2.out; omega, Lib.hid ⟨?_, ?_⟩⟩
          · exact setRow_heap _ _ _ _ _ _ HZ.out.1
          · exact below_setRow (Below.drew HZ.out.2) (Nat.le_refl _) _
        case measure => have := HK2.out; simp [intOf]; omega
    · have hlt' : ¬ (k : Int) < (n : Int) := by omega
      obtain rfl : k = n := by omega
      go_wp2
      go_ret
      exact ⟨w.heap.size, rfl, Nat.le_refl _, by rw [← ones_all]; exact HZ.out.1, HZ.out.2⟩
end Go.Proofs.YtgpdgegelipboaaDoor.Fq
namespace Go.Proofs.YtgpdgegelipboaaDoor.Fq
open Go.RowKit
theorem tot_rep (n : Nat) : tot (List.replicate n 1) = (n : Int) := by
  induction n with
  | zero => rfl
  | succ n ih => rw [List.replicate_succ, tot_cons, ih]; omega
theorem okN_rep (n : Nat) (h1 : 1 ≤ n) (h2 : n ≤ 256) : okN (List.replicate n 1) = true := by
  unfold okN
  refine decide_eq_true ⟨by simpa using h1, by simpa using h2, fun x hx => ?_, by rw [tot_rep]; omega⟩
  rw [(List.mem_replicate.1 hx).2]; omega
set_option maxHeartbeats 1000000 in
theorem even_ok (n : Nat) (w : World) (h1 : 1 ≤ n) (h2 : n ≤ 256) :
    Calls Tryd.prog 78 #[.int .i64 (n : Int)] w (NewP w (acc (List.replicate n 1))) := by
  go_enter Tryd.func78, Tryd.ntmps78
  go_wp2_with fail
  refine (isSize_yes _ _ (by omega) (by omega)).mono ?_
  rintro e w' ⟨rfl, rfl⟩
  go_wp2_with fail
  have HK0 := Lib.hid (show Blk ((w.alloc (.cells #[.slice none 0 0] 52)).alloc (.cells #[.int .i64 1] 3)) w.heap.size 52 #[.slice none 0 0] from (Blk.new w _ _).alloc _)
  have HG0 := Lib.hid (show Blk ((w.alloc (.cells #[.slice none 0 0] 52)).alloc (.cells #[.int .i64 1] 3)) (w.heap.size + 1) 3 (icells [1]) from Blk.newAt (by simp))
  have HW0 := Lib.hid (show Below w.heap.size w ((w.alloc (.cells #[.slice none 0 0] 52)).alloc (.cells #[.int .i64 1] 3)) from ((Below.refl w.heap.size w).alloc (Nat.le_refl _) _).alloc (by simp) _)
  generalize (w.alloc (.cells #[.slice none 0 0] 52)).alloc (.cells #[.int .i64 1] 3) = w0 at HK0 HG0 HW0 ⊢
  refine (repeat_one _ n _ w0 HG0 h1 (by omega)).mono ?_
  rintro e w1 ⟨g, rfl, hg, hB, hb⟩
  have HK1 := Lib.hid (HK0.out.below hb HK0.out.lt)
  have HW1 := Lib.hid (HW0.out.trans (hb.mono HW0.out.size))
  have HR1 := Lib.hid (RdI.of_blk hB (n := n) (by simp))
  clear hg hB hb
  go_wp2_with fail
  refine (new_ok _ n n _ w1 HR1 (okN_rep n h1 h2)).mono ?_
  rintro e w2 ⟨g2, rfl, hg, hB, hb⟩
  have HK2 := Lib.hid (HK1.out.below hb HK1.out.lt)
  have HW2 := Lib.hid (HW1.out.trans (hb.mono HW1.out.size))
  have HB2 := Lib.hid hB
  have HG2 := Lib.hid (Nat.le_trans HW1.out.size hg)
  have HNE := Lib.hid (show g2 ≠ w.heap.size by have := HK1.out.lt; omega)
  clear hg hB hb
  have c0 := HK2.out.cell 0
  have f0 := HK2.out.frozen 0
  simp at c0
  obtain ⟨m, hm⟩ : ∃ m, (acc (List.replicate n 1)).length = m := ⟨_, rfl⟩
  rw [hm]
  have HM := Lib.hid hm
  clear hm
  unfold freqV
  go_wp2
  exact bodyPost_ret (v := .tuple #[freqV g2 m, .int .i64 0]) (by simp [results, Tryd.results78, go_sem, c0, freqV]) rfl ⟨g2, by rw [HM.out], HG2.out, Blk.far HB2.out HNE.out _, HW2.out.setCell (Nat.le_refl _) _⟩
end Go.Proofs.YtgpdgegelipboaaDoor.Fq
namespace Go.Proofs.YtgpdgegelipboaaDoor.Fq
end Go.Proofs.YtgpdgegelipboaaDoor.Fq
namespace Go.Proofs.YtgpdgegelipboaaDoor.Cd
open Go.RowKit
theorem get_bad (A : Option Addr) (n c : Nat) (N a wd : Int) (bs : List Nat) (w : World) (hr : Hid (Rd w A n bs)) (hok : Hid (okB bs N = false)) :
    Calls Tryd.prog 73 #[.agg #[.slice A n c, .int .i64 N], .int .i64 a, .int .i64 wd] w fun e w' => e = .returned (.tuple #[.int .u64 0, .int .i64 1]) ∧ Below w.heap.size w w' := by
  have HW := Lib.hid ((Below.refl w.heap.size w).alloc (Nat.le_refl _) (.cells #[.slice A n c, .int .i64 N] 46))
  go_enter Tryd.func73, Tryd.ntmps73
  go_wp2_with fail
  generalize w.alloc (.cells #[.slice A n c, .int .i64 N] 46) = w0 at HW ⊢
  have hcon := check_any A n c N bs w0 (hr.out.below HW.out)
  rw [hok.out] at hcon
  refine hcon.mono ?_
  clear hcon
  rintro e w1 ⟨rfl, hb1⟩
  have HW1 := Lib.hid (HW.out.trans (hb1.mono HW.out.size))
  clear hb1
  go_wp2
  go_ret2
  exact ⟨rfl, HW1.out⟩
/-- a reader's cells -/
def rdC (d : De) (A : Option Addr) (n c : Nat) (N : Int) : Array Value := #[.int .u32 (d.low : Int), .int .u32 (d.high : Int), .int .u32 (d.code : Int), .slice A n c, .int .i64 N, .int .i64 (d.at_ : Int)]
def RdS (w : World) (p : Nat) (d : De) (A : Option Addr) (n c : Nat) (N : Int) : Prop := Blk w p 139 (rdC d A n c N)
theorem RdS.six {w : World} {p : Nat} {d : De} {A : Option Addr} {n c : Nat} {N : Int} (h : RdS w p d A n c N) : w.cell? ⟨p, 0, none⟩ = some (.int .u32 (d.low : Int)) ∧ w.cell? ⟨p, 1, none⟩ = some (.int .u32 (d.high : Int)) ∧ w.cell? ⟨p, 2, none⟩ = some (.int .u32 (d.code : Int)) ∧ w.cell? ⟨p, 3, none⟩ = some (.slice A n c) ∧ w.cell? ⟨p, 4, none⟩ = some (.int .i64 N) ∧ w.cell? ⟨p, 5, none⟩ = some (.int .i64 (d.at_ : Int)) := blk6 h
theorem val_first (l : List Bool) (th : Nat) (h : th = min l.length 32) : val l 32 = num (l.take th) * 2 ^ (32 - th) := by
  have key : ∀ k, val l (th + k) = num (l.take th) * 2 ^ k ∨ th < l.length := by
    intro k
    by_cases hlt : th < l.length
    · exact .inr hlt
    · left
      have e : th = l.length := by omega
      induction k with
      | zero =>
        have := val_pre l [] th (by omega)
        rw [List.append_nil] at this
        rw [Nat.add_zero, this]; simp
      | succ k ih =>
        rw [← Nat.add_assoc, val_succ, ih, bitF_of_ge (by omega), Nat.pow_succ]
        simp
        rw [Nat.mul_comm 2, Nat.mul_assoc]
  rcases Nat.lt_or_ge l.length 32 with h32 | h32
  · rcases key (32 - th) with h1 | h1
    · rwa [show th + (32 - th) = 32 by omega] at h1
    · omega
  · have e : th = 32 := by omega
    subst e
    have := val_pre l [] 32 h32
    rw [List.append_nil] at this
    rw [this]; simp
/-- the reader at first -/
def d0 (l : List Bool) : De := ⟨0, 4294967295, val l 32, 32⟩
def OpOk (w : World) (l : List Bool) (A : Option Addr) (n c : Nat) (N : Int) (e : Ending) (w' : World) : Prop :=
  ∃ p, e = .returned (.tuple #[.pointer (some ⟨p, 0, none⟩), .int .i64 0]) ∧ w.heap.size ≤ p ∧ RdS w' p (d0 l) A n c N ∧ Below w.heap.size w w'
def OpNo (w : World) (e : Ending) (w' : World) : Prop := e = .returned (.tuple #[.pointer none, .int .i64 1]) ∧ Below w.heap.size w w'
theorem open_no (A : Option Addr) (n c : Nat) (N : Int) (bs : List Nat) (w : World) (hr : Hid (Rd w A n bs)) (hok : Hid (okB bs N = false)) :
    Calls Tryd.prog 54 #[.agg #[.slice A n c, .int .i64 N]] w (OpNo w) := by
  have HW := Lib.hid ((Below.refl w.heap.size w).alloc (Nat.le_refl _) (.cells #[.slice A n c, .int .i64 N] 46))
  go_enter Tryd.func54, Tryd.ntmps54
  go_wp2_with fail
  generalize w.alloc (.cells #[.slice A n c, .int .i64 N] 46) = w0 at HW ⊢
  refine (get_bad A n c N _ _ bs w0 (Lib.hid (hr.out.below HW.out)) hok).mono ?_
  rintro e w1 ⟨rfl, hb1⟩
  have HW1 := Lib.hid (HW.out.trans (hb1.mono HW.out.size))
  clear hb1
  go_wp2
  go_ret2
  exact ⟨rfl, HW1.out⟩
theorem whole_lit (w : World) : Calls Tryd.prog 48 #[] w fun e w' => e = .returned (.agg #[.int .u32 0, .int .u32 4294967295]) ∧ Below w.heap.size w w' := whole_any w
set_option maxRecDepth 100000 in
set_option maxHeartbeats 2000000 in
theorem open_ok (A : Option Addr) (n c : Nat) (N : Int) (l : List Bool) (w : World) (h : Hid (IsB w (.agg #[.slice A n c, .int .i64 N]) l)) :
    Calls Tryd.prog 54 #[.agg #[.slice A n c, .int .i64 N]] w (OpOk w l A n c N) := by
  obtain ⟨-, hN, -, hl⟩ := isB_parts h.out
  obtain ⟨th, hth⟩ : ∃ th, th = min l.length 32 := ⟨_, rfl⟩
  obtain ⟨sh, hsh⟩ : ∃ sh, sh = 32 - th := ⟨_, rfl⟩
  obtain ⟨F, hF⟩ : ∃ F, F = num (l.take th) := ⟨_, rfl⟩
  obtain ⟨V, hV⟩ : ∃ V, V = val l 32 := ⟨_, rfl⟩
  have hVF : V = F * 2 ^ sh := by rw [hV, hF, hsh]; exact val_first l th hth
  have hV2 : V < 4294967296 := by rw [hV, ← pow32]; exact val_lt l 32
  have em : min N 32 = (th : Int) := by omega
  have es : (32 : Int) - (th : Int) = (sh : Int) := by omega
  have hF2 : F < 4294967296 := by
    refine Nat.lt_of_le_of_lt ?_ hV2
    rw [hVF]; exact Nat.le_mul_of_pos_right _ (Nat.pow_pos (by omega))
  have t1 : th ≤ 32 := by omega
  have HTH := Lib.hid hth
  have HV := Lib.hid hV
  have HF := Lib.hid (show F = num ((l.drop 0).take th) by rw [List.drop_zero]; exact hF)
  have eV : (F : Int) * 2 ^ sh = (V : Int) := by rw [hVF]; simp
  have s1 : sh ≤ 32 := by omega
  have s2 : decide ((sh : Int) < 0) = false := by simp
  have s3 : ¬ (sh : Int) < 0 := by omega
  have s4 : ((sh : Int)).toNat = sh := by omega
  clear hth hsh hF hV hVF hN hl
  have HK := Lib.hid (Blk.new w 46 #[.slice A n c, .int .i64 N])
  have HW := Lib.hid ((Below.refl w.heap.size w).alloc (Nat.le_refl _) (.cells #[.slice A n c, .int .i64 N] 46))
  have HES := Lib.hid es
  have HEV := Lib.hid eV
  clear es eV
  go_enter Tryd.func54, Tryd.ntmps54
  go_wp2_with fail
  generalize w.alloc (.cells #[.slice A n c, .int .i64 N] 46) = w0 at HK HW ⊢
  clear em
  refine (get_n _ l 0 _ 0 th F w0 (h.out.below HW.out) rfl rfl (by omega) (by have := HTH.out; omega) HF.out).mono ?_
  rintro e w1 ⟨rfl, hb1⟩
  have HK1 := Lib.hid (HK.out.below hb1 HK.out.lt)
  have HW1 := Lib.hid (HW.out.trans (hb1.mono HW.out.size))
  clear hb1 HK HW
  obtain ⟨x1, x2, -, -⟩ := blk2 HK1.out
  go_wp2_with fail
  have es := HES.out
  have eV := HEV.out
  have q1 : IntKind.i64.wrap (sh : Int) = (sh : Int) := IntWalk.i64_in _ (by omega)
  have q2 : IntKind.u64.wrap (V : Int) = (V : Int) := IntWalk.u64_in _ (by omega)
  have q3 : IntKind.u32.wrap (V : Int) = (V : Int) := IntWalk.u32_in _ (by omega)
  go_region_with (go_at_call 48; refine (whole_lit _).mono ?_; rintro e w2 ⟨rfl, hb2⟩; obtain ⟨x3, x4, -, -⟩ := blk2 ((HK1.out.drew).below hb2 HK1.out.lt))
  all_goals
    have HB2 := Lib.hid hb2
    clear hb2 x1 x2 x3 x4 q1 q2 q3 es eV
    have HW2 := Lib.hid (HW1.out.trans ((show Below w1.heap.size w1 w2 from ⟨HB2.out.os, HB2.out.tape, HB2.out.output, HB2.out.size, HB2.out.block⟩).mono HW1.out.size))
    go_wp2
    go_ret2
    refine ⟨w2.heap.size, rfl, HW2.out.size, ?_, HW2.out.alloc HW2.out.size _⟩
    unfold d0
    rw [← HV.out]
    exact Blk.new w2 _ _
end Go.Proofs.YtgpdgegelipboaaDoor.Cd
namespace Go.Proofs.YtgpdgegelipboaaDoor.Cd
open Go.RowKit
theorem grown_trans {a b c : World} {row : Option Nat} (h1 : a.grownBy b row) (h2 : b.grownBy c row) : a.grownBy c row :=
  ⟨h2.os.trans h1.os, h2.tape.trans h1.tape, h2.output.trans h1.output, Nat.le_trans h1.size h2.size, fun i hi hne => (h2.block i (Nat.lt_of_lt_of_le hi h1.size) hne).trans (h1.block i hi hne)⟩
theorem isB_only {w w' : World} {row : Nat} {A : Option Addr} {n c : Nat} {N : Int} {l : List Bool} (h : IsB w (.agg #[.slice A n c, .int .i64 N]) l) (hb : w.grownBy w' (some row)) (hA : ∀ ad, A = some ad → 0 < n → ad.block ≠ row) : IsB w' (.agg #[.slice A n c, .int .i64 N]) l := by
  obtain ⟨e1, e2, e3, e4⟩ := isB_parts h
  subst e1 e2
  exact ⟨A, c, rfl, e3.only hb hA, e4⟩
theorem bit_num (l : List Bool) (i : Nat) (h : i < l.length) : num ((l.drop i).take 1) = (bitF l i).toNat := by
  have := num_take_succ l i 0 (by omega)
  rw [this]
  simp [num_nil]
theorem get1_any (v : Value) (l : List Bool) (i t : Nat) (w : World) (h : IsB w v l) (ht : t = (bitF l i).toNat) :
    Calls Tryd.prog 73 #[v, .int .i64 (i : Int), .int .i64 1] w fun e w' => (∃ er, e = .returned (.tuple #[.int .u64 (t : Int), .int .i64 er])) ∧ Below w.heap.size w w' := by
  by_cases hi : i < l.length
  · exact (get_n v l (i : Int) 1 i 1 t w h rfl rfl (by omega) (by omega) (by rw [ht, bit_num l i hi])).mono fun e w' ⟨h1, h2⟩ => ⟨⟨0, h1⟩, h2⟩
  · have ht0 : t = 0 := by rw [ht, bitF_of_ge (by omega)]; rfl
    exact (get_short v l (i : Int) 1 w h (by omega) (by omega) (by omega) (by omega)).mono fun e w' ⟨h1, h2⟩ => ⟨⟨20, by rw [ht0]; exact h1⟩, h2⟩
set_option maxRecDepth 100000 in
set_option maxHeartbeats 1000000 in
theorem bit_any (p : Nat) (d : De) (A : Option Addr) (n c : Nat) (N : Int) (l : List Bool) (t : Nat) (w : World) (hs : Hid (RdS w p d A n c N)) (h : Hid (IsB w (.agg #[.slice A n c, .int .i64 N]) l)) (ht : Hid (t = (bitF l d.at_).toNat)) (ht2 : t < 2) :
    Calls Tryd.prog 91 #[.pointer (some ⟨p, 0, none⟩)] w fun e w' => e = .returned (.int .u32 (t : Int)) ∧ Below w.heap.size w w' := by
  obtain ⟨-, -, -, c3, c4, c5⟩ := hs.out.six
  have q1 : IntKind.u32.wrap (t : Int) = (t : Int) := IntWalk.u32_in _ (by omega)
  have HQ1 := Lib.hid q1
  clear q1
  have HD := Lib.hid (show IsB w.drew (.agg #[.slice A n c, .int .i64 N]) l from h.out)
  go_enter Tryd.func91, Tryd.ntmps91
  go_wp2_with fail
  go_region_with (go_at_call 73; refine (get1_any _ l d.at_ t w.drew HD.out ht.out).mono ?_; rintro e w2 ⟨⟨er, rfl⟩, hb2⟩)
  all_goals
    have HB2 := Lib.hid (show Below w.heap.size w w2 from ⟨hb2.os, hb2.tape, hb2.output, hb2.size, hb2.block⟩)
    clear hb2 c3 c4 c5
    have q1 := HQ1.out
    go_wp2
    go_ret
    exact ⟨rfl, HB2.out⟩
/-- a reader, while the interval is widened: so many steps are left -/
def WidS (w0 : World) (p : Nat) (A : Option Addr) (n c : Nat) (N : Int) (l : List Bool) (fin : De) (m : Nat) (wr : World) : Prop :=
  ∃ d : De, RdS wr p d A n c N ∧ widD m l d = fin ∧ Ok d.low d.high ∧ d.low ≤ d.code ∧ d.code ≤ d.high ∧ 4294967296 < (d.high - d.low + 1) * 2 ^ (m + 1) ∧ d.at_ + m ≤ 1000000 ∧ w0.grownBy wr (some p)
theorem stepD_facts {l : List Bool} {d : De} (hok : Ok d.low d.high) (hk : kind d.low d.high ≠ 3) (h1 : d.low ≤ d.code) (h2 : d.code ≤ d.high) : takeK (kind d.low d.high) ≤ d.low ∧ (stepD l d).low ≤ (stepD l d).code ∧ (stepD l d).code ≤ (stepD l d).high ∧ (stepD l d).high < 4294967296 ∧ (stepD l d).high - (stepD l d).low + 1 = 2 * (d.high - d.low + 1) ∧ (stepD l d).low ≤ (stepD l d).high := by
  have hb := toNat_le (bitF l d.at_)
  have hlow := stepE_low (e := ⟨d.low, d.high, 0, []⟩) hok hk
  obtain ⟨a1, a2, a3, a4⟩ := hlow
  dsimp only at a1 a2 a3 a4
  have ht : takeK (kind d.low d.high) ≤ d.low := by omega
  have e1 : (stepD l d).low = 2 * (d.low - takeK (kind d.low d.high)) := rfl
  have e2 : (stepD l d).high = 2 * (d.high - takeK (kind d.low d.high)) + 1 := rfl
  have e3 : (stepD l d).code = 2 * (d.code - takeK (kind d.low d.high)) + (bitF l d.at_).toNat := rfl
  have := hok.1
  refine ⟨ht, ?_, ?_, ?_, ?_, ?_⟩ <;> omega
theorem widS_zero {d : De} (hok : Ok d.low d.high) (h : 4294967296 < (d.high - d.low + 1) * 2 ^ (0 + 1)) : kind d.low d.high = 3 := widR_zero (e := ⟨d.low, d.high, 0, []⟩) hok h
theorem WidS.step {w0 wr : World} {p m : Nat} {A : Option Addr} {n c : Nat} {N : Int} {l : List Bool} {fin d : De} (hok : Ok d.low d.high) (hk : kind d.low d.high ≠ 3) (hf : widD (m + 1) l d = fin) (h1 : d.low ≤ d.code) (h2 : d.code ≤ d.high) (hw : 4294967296 < (d.high - d.low + 1) * 2 ^ (m + 1 + 1)) (ha : d.at_ + (m + 1) ≤ 1000000) (hs : RdS wr p (stepD l d) A n c N) (hg : w0.grownBy wr (some p)) : WidS w0 p A n c N l fin m wr := by
  obtain ⟨_, b1, b2, b3, b4, b5⟩ := stepD_facts (l := l) hok hk h1 h2
  refine ⟨stepD l d, hs, ?_, ⟨b5, b3⟩, b1, b2, ?_, ?_, hg⟩
  · unfold widD at hf; rwa [if_neg hk] at hf
  · rw [b4]
    rw [Nat.pow_succ 2 (m + 1)] at hw
    rw [Nat.mul_comm 2 (d.high - d.low + 1), Nat.mul_assoc, Nat.mul_comm 2]
    exact hw
  · show d.at_ + 1 + m ≤ 1000000; omega
theorem excess_t (low high k t : Nat) (w : World) (hk : kind low high = k) (ht : takeK k = t) (h3 : k ≠ 3) :
    Calls Tryd.prog 46 #[.agg #[.int .u32 (low : Int), .int .u32 (high : Int)]] w fun e w' => e = .returned (.tuple #[.int .u32 (t : Int), .bool true]) ∧ Below w.heap.size w w' := by
  have := excess_any low high k w hk
  unfold excT at this
  rw [ht, decide_eq_true h3] at this
  exact this
end Go.Proofs.YtgpdgegelipboaaDoor.Cd
namespace Go.Proofs.YtgpdgegelipboaaDoor.Cd
open Go.RowKit
theorem RdS.two {w : World} {p : Nat} {d : De} {A : Option Addr} {n c : Nat} {N : Int} (h : RdS w p d A n c N) : Two w p d.low d.high := ⟨h.cell 0, h.cell 1, h.frozen 0, h.frozen 1⟩
theorem RdS.next {w w' : World} {p : Nat} {d : De} {A : Option Addr} {n c : Nat} {N : Int} (h : RdS w p d A n c N) (hb : Below w.heap.size w w') : RdS w' p d A n c N := Blk.below h hb (Blk.lt h)
theorem RdS.iv {w : World} {p : Nat} {d : De} {A : Option Addr} {n c : Nat} {N : Int} (h : RdS w p d A n c N) (lo hi : Nat) : RdS ((w.setCell ⟨p, 0, none⟩ (.int .u32 (lo : Int))).setCell ⟨p, 1, none⟩ (.int .u32 (hi : Int))) p ⟨lo, hi, d.code, d.at_⟩ A n c N := (Blk.set_ (Blk.set_ h 0 _) 1 _)
theorem RdS.iv' {w : World} {p : Nat} {d : De} {A : Option Addr} {n c : Nat} {N : Int} (h : RdS w p d A n c N) (lo hi : Nat) : RdS ((w.setCell ⟨p, 1, none⟩ (.int .u32 (hi : Int))).setCell ⟨p, 0, none⟩ (.int .u32 (lo : Int))) p ⟨lo, hi, d.code, d.at_⟩ A n c N := (Blk.set_ (Blk.set_ h 1 _) 0 _)
theorem RdS.co {w : World} {p : Nat} {d : De} {A : Option Addr} {n c : Nat} {N : Int} (h : RdS w p d A n c N) (co : Nat) : RdS (w.setCell ⟨p, 2, none⟩ (.int .u32 (co : Int))) p ⟨d.low, d.high, co, d.at_⟩ A n c N := (Blk.set_ h 2 _)
theorem RdS.pl {w : World} {p : Nat} {d : De} {A : Option Addr} {n c : Nat} {N : Int} (h : RdS w p d A n c N) (a : Nat) : RdS (w.setCell ⟨p, 5, none⟩ (.int .i64 (a : Int))) p ⟨d.low, d.high, d.code, a⟩ A n c N := (Blk.set_ h 5 _)
set_option maxRecDepth 100000 in
set_option maxHeartbeats 2000000 in
theorem widen_r (w0 : World) (p m : Nat) (A : Option Addr) (n c : Nat) (N : Int) (l : List Bool) (fin : De) (w : World) (h : Hid (WidS w0 p A n c N l fin m w)) (hI : Hid (IsB w0 (.agg #[.slice A n c, .int .i64 N]) l)) (hA : Hid (∀ ad, A = some ad → 0 < n → ad.block ≠ p)) :
    Calls Tryd.prog 81 #[.pointer (some ⟨p, 0, none⟩)] w fun e w' => e = .returned (.tuple #[]) ∧ RdS w' p fin A n c N ∧ w0.grownBy w' (some p) := by
  go_enter Tryd.func81, Tryd.ntmps81
  go_wp2_with fail
  go_loopg [2] m (fun k _ wr => Hid (WidS w0 p A n c N l fin k wr))
  case atStart => exact h
  case round =>
    have HR := hrel
    clear hrel h
    obtain ⟨d, hs, hf, hok, hc1, hc2, hw, ha, hg⟩ := HR.out
    obtain ⟨c0, c1, -, -, -, -⟩ := hs.six
    have HS := Lib.hid hs
    have HF := Lib.hid hf
    have HOK := Lib.hid hok
    have HC1 := Lib.hid hc1
    have HC2 := Lib.hid hc2
    have HW := Lib.hid hw
    have HA := Lib.hid ha
    have HG := Lib.hid hg
    clear hs hf hok hc1 hc2 hw ha hg HR
    obtain ⟨kk, hkk⟩ : ∃ kk, kind d.low d.high = kk := ⟨_, rfl⟩
    by_cases h3 : kk = 3
    · subst h3
      have HE := Lib.hid (show d = fin from by
        have := HF.out
        cases gk with
        | zero => exact this
        | succ q => unfold widD at this; rwa [if_pos hkk] at this)
      go_wp2_with fail
      have hcon := excess_any d.low d.high 3 wr hkk
      rw [excT_3] at hcon
      refine hcon.mono ?_
      clear hcon hkk
      rintro ee w1 ⟨rfl, hb⟩
      have HS1 := Lib.hid (HS.out.next hb)
      have HG1 := Lib.hid (grown_trans HG.out (only_of_below hb (some p)))
      clear hb c0 c1
      go_wp2
      exact bodyPost_ret (v := .tuple #[]) (by simp [results, Tryd.results81, go_sem]) rfl ⟨rfl, by rw [← HE.out]; exact HS1.out, HG1.out⟩
    · cases gk with
      | zero => exact absurd (widS_zero HOK.out HW.out) (by omega)
      | succ q =>
        obtain ⟨tk, htk⟩ : ∃ tk, takeK kk = tk := ⟨_, rfl⟩
        have HKK := Lib.hid hkk
        have HTK := Lib.hid htk
        obtain ⟨g1, g2, g3, g4, g5, g6⟩ := stepD_facts (l := l) HOK.out (by omega) HC1.out HC2.out
        rw [hkk, htk] at g1
        go_wp2_with fail
        refine (excess_t d.low d.high kk tk wr hkk htk h3).mono ?_
        clear hkk htk
        rintro ee w1 ⟨rfl, hb⟩
        have HS1 := Lib.hid (HS.out.next hb)
        have HG1 := Lib.hid (grown_trans HG.out (only_of_below hb (some p)))
        clear hb HS HG c0 c1
        obtain ⟨lo, hlo⟩ : ∃ lo, lo = 2 * (d.low - tk) := ⟨_, rfl⟩
        obtain ⟨hi, hhi⟩ : ∃ hi, hi = 2 * (d.high - tk) + 1 := ⟨_, rfl⟩
        obtain ⟨b, hb⟩ : ∃ b, b = (bitF l d.at_).toNat := ⟨_, rfl⟩
        have b2 : b < 2 := by have := toNat_le (bitF l d.at_); omega
        obtain ⟨co, hco⟩ : ∃ co, co = 2 * (d.code - tk) + b := ⟨_, rfl⟩
        have HSD := Lib.hid (show stepD l d = ⟨lo, hi, co, d.at_ + 1⟩ by unfold stepD; rw [HKK.out, HTK.out, hlo, hhi, hco, hb])
        have l0 : lo ≤ co ∧ co ≤ hi ∧ hi < 4294967296 := by have e := HSD.out; rw [e] at g2 g3 g4; exact ⟨g2, g3, g4⟩
        obtain ⟨l1, l2, l3⟩ := l0
        have ok1 := HOK.out.1
        have ok2 := HOK.out.2
        have k1 := HC1.out
        have k2 := HC2.out
        have HLO := Lib.hid hlo
        have HHI := Lib.hid hhi
        have HCO := Lib.hid hco
        have HBT := Lib.hid hb
        clear g2 g3 g4 g5 g6 hlo hhi hco hb
        go_wp2_with fail
        with_reducible refine (double_n p d.low d.high tk lo hi (tk : Int) w1 rfl g1 (by omega) HLO.out HHI.out (by omega) l3 (by omega) ok2 (RdS.two HS1.out)).mono ?_
        rintro ee w2 ⟨rfl, rfl⟩
        have HS2 := Lib.hid (HS1.out.iv lo hi)
        have HG2 := Lib.hid (only_setCell (only_setCell HG1.out (p := ⟨p, 0, none⟩) (.inl rfl) (.int .u32 (lo : Int))) (p := ⟨p, 1, none⟩) (.inl rfl) (.int .u32 (hi : Int)))
        generalize ((w1.setCell ⟨p, 0, none⟩ (.int .u32 (lo : Int))).setCell ⟨p, 1, none⟩ (.int .u32 (hi : Int))) = w2 at HS2 HG2 ⊢
        clear HS1 HG1
        obtain ⟨co1, hco1⟩ : ∃ co1, co1 = d.code - tk := ⟨_, rfl⟩
        obtain ⟨co2, hco2⟩ : ∃ co2, co2 = co1 * 2 := ⟨_, rfl⟩
        have c1' : co2 < 4294967296 := by have := HCO.out; omega
        have c2' : co1 < 4294967296 := by omega
        have e1 : (d.code : Int) - (tk : Int) = (co1 : Int) := by omega
        have e2 : (co1 : Int) * 2 = (co2 : Int) := by omega
        have e3 : (co2 : Int) + (b : Int) = (co : Int) := by have := HCO.out; omega
        have v1 : IntKind.u32.wrap (co1 : Int) = (co1 : Int) := IntWalk.u32_in _ (by omega)
        have v2 : IntKind.u32.wrap (co2 : Int) = (co2 : Int) := IntWalk.u32_in _ (by omega)
        have v3 : IntKind.u32.wrap (co : Int) = (co : Int) := IntWalk.u32_in _ (by omega)
        clear hco1 hco2
        obtain ⟨-, -, x2, -, -, -⟩ := HS2.out.six
        have x3 := HS2.out.frozen 2
        have lp := HS2.out.lt
        have HI2 := Lib.hid (show IsB w2.drew (.agg #[.slice A n c, .int .i64 N]) l from isB_only hI.out (only_drew HG2.out) hA.out)
        have HS2d := Lib.hid (show RdS w2.drew p ⟨lo, hi, d.code, d.at_⟩ A n c N from HS2.out)
        dsimp only at x2
        go_wp2_with fail
        go_region_with (go_at_call 91; refine (bit_any p ⟨lo, hi, d.code, d.at_⟩ A n c N l b w2.drew HS2d HI2 HBT b2).mono ?_; rintro e w6 ⟨rfl, hb6⟩; have y2 : w6.cell? ⟨p, 2, none⟩ = some (.int .u32 (d.code : Int)) := (RdS.next HS2d.out hb6).cell 2; have y3 : w6.frozen? ⟨p, 2, none⟩ = false := (RdS.next HS2d.out hb6).frozen 2)
        all_goals
          have HS6 := Lib.hid (RdS.co (RdS.next HS2d.out hb6) co)
          have HG6 := Lib.hid (only_setCell (grown_trans (only_drew HG2.out) (only_of_below hb6 (some p))) (p := ⟨p, 2, none⟩) (.inl rfl) (.int .u32 (co : Int)))
          clear hb6 x2 x3 y2 y3 v1 v2 v3 e1 e2 e3
          generalize w6.setCell ⟨p, 2, none⟩ (.int .u32 (co : Int)) = w7 at HS6 HG6 ⊢
          obtain ⟨-, -, -, -, -, z5⟩ := HS6.out.six
          have z6 := HS6.out.frozen 5
          dsimp only at z5
          have a1 : d.at_ ≤ 1000000 := by have := HA.out; omega
          go_wp2
          have ea : (d.at_ : Int) + 1 = ((d.at_ + 1 : Nat) : Int) := by omega
          rw [ea]
          clear ea
          have HS8 := Lib.hid (RdS.pl HS6.out (d.at_ + 1))
          have HG8 := Lib.hid (only_setCell HG6.out (p := ⟨p, 5, none⟩) (.inl rfl) (.int .i64 ((d.at_ + 1 : Nat) : Int)))
          dsimp only at HS8
          generalize w7.setCell ⟨p, 5, none⟩ (.int .i64 ((d.at_ + 1 : Nat) : Int)) = w8 at HS8 HG8 ⊢
          go_roundg q
          case rel =>
            refine Lib.hid (WidS.step HOK.out (by rw [HKK.out]; exact h3) HF.out HC1.out HC2.out HW.out HA.out ?_ HG8.out)
            rw [HSD.out]
            exact HS8.out
          case measure => omega
end Go.Proofs.YtgpdgegelipboaaDoor.Cd
namespace Go.Proofs.YtgpdgegelipboaaDoor.Cd
open Go.RowKit
/-- the symbol that has the number X -/
def symK (xs : List Int) (X : Nat) : Nat := (xs.drop 1).findIdx (fun y => decide ((X : Int) < y))
theorem symK_is {xs : List Int} (h : Fq.okF xs = true) {X k : Nat} (hk : Fq.IsSym xs (X : Int) k) : symK xs X = k := by
  obtain ⟨h1, h2, h3⟩ := hk
  unfold symK
  have hl : k < (xs.drop 1).length := by rw [List.length_drop]; omega
  have gd : ∀ j, (hj : j < (xs.drop 1).length) → (xs.drop 1)[j] = xs.getD (j + 1) 0 := by
    intro j hj
    rw [List.length_drop] at hj
    rw [List.getElem_drop]
    have : xs.getD (j + 1) 0 = xs[j + 1] := by simp [List.getD_eq_getElem?_getD, show j + 1 < xs.length by omega]
    rw [this]
    congr 1
    omega
  rw [List.findIdx_eq hl]
  refine ⟨by rw [gd k hl]; simpa using h3, fun j hj => ?_⟩
  rw [gd j (by omega)]
  have := Fq.mono_le h (i := j + 1) (j := k) (by omega) (by omega)
  exact decide_eq_false (by omega)
/-- a decoder's state that is fine -/
def FineD (d : De) : Prop := Ok d.low d.high ∧ kind d.low d.high = 3 ∧ d.low ≤ d.code ∧ d.code ≤ d.high
/-- the state behind a symbol with the numbers from a on up to b -/
def narD (d : De) (a b T : Nat) : De := ⟨d.low + (d.high - d.low + 1) * a / T, d.low + (d.high - d.low + 1) * b / T - 1, d.code, d.at_⟩
def nxD (l : List Bool) (d : De) (a b T : Nat) : De := widD 40 l (narD d a b T)
theorem fineD_wid {d : De} (h : FineD d) : 1073741824 ≤ d.high - d.low + 1 ∧ d.high - d.low + 1 ≤ 4294967296 := wide_wid (e := ⟨d.low, d.high, 0, []⟩) h.1 h.2.1
theorem symX_lt {d : De} {T : Nat} (h : FineD d) (hT : 0 < T) : symX d T < T := by
  obtain ⟨w1, w2⟩ := fineD_wid h
  unfold symX
  rw [Nat.div_lt_iff_lt_mul (by omega)]
  have k1 : d.code - d.low + 1 ≤ d.high - d.low + 1 := by have := h.2.2.2; omega
  have k2 := Nat.mul_le_mul_right T k1
  have k3 : 0 < (d.code - d.low + 1) * T := Nat.mul_pos (by omega) hT
  rw [Nat.mul_comm T]
  omega
/-- narrowed to the symbol, the interval has the code in it -/
theorem narD_in {d : De} {a b T : Nat} (h : FineD d) (hS : Sp a b T) (h1 : a ≤ symX d T) (h2 : symX d T < b) :
    (narD d a b T).low ≤ d.code ∧ d.code ≤ (narD d a b T).high ∧ Ok (narD d a b T).low (narD d a b T).high ∧ 1 ≤ (d.high - d.low + 1) * b / T := by
  obtain ⟨w1, w2⟩ := fineD_wid h
  have hT : 0 < T := by have := hS.1; have := hS.2.1; omega
  obtain ⟨_, _, c1, c2⟩ := h
  have hn := nar_ok (e := ⟨d.low, d.high, 0, []⟩) (by assumption) (by assumption) hS
  have hb1 := (nar_parts hS (W := d.high - d.low + 1) (by omega)).1
  unfold symX at h1 h2
  rw [Nat.le_div_iff_mul_le (by omega)] at h1
  rw [Nat.div_lt_iff_lt_mul (by omega)] at h2
  have k3 : 0 < (d.code - d.low + 1) * T := Nat.mul_pos (by omega) hT
  have k1 : (d.high - d.low + 1) * a / T < d.code - d.low + 1 := by
    rw [Nat.div_lt_iff_lt_mul hT, Nat.mul_comm (d.high - d.low + 1) a]
    omega
  have k2 : d.code - d.low + 1 ≤ (d.high - d.low + 1) * b / T := by
    rw [Nat.le_div_iff_mul_le hT, Nat.mul_comm (d.high - d.low + 1) b]
    omega
  refine ⟨?_, ?_, hn.1, by omega⟩
  · show d.low + (d.high - d.low + 1) * a / T ≤ d.code; omega
  · show d.code ≤ d.low + (d.high - d.low + 1) * b / T - 1; omega
/-- widening leaves a state that is fine -/
theorem widD_fine (m : Nat) {l : List Bool} : ∀ {d : De}, Ok d.low d.high → d.low ≤ d.code → d.code ≤ d.high → 4294967296 < (d.high - d.low + 1) * 2 ^ (m + 1) → FineD (widD m l d) ∧ (widD m l d).at_ ≤ d.at_ + m := by
  induction m with
  | zero =>
    intro d hok h1 h2 hw
    exact ⟨⟨hok, widS_zero hok hw, h1, h2⟩, by simp [widD]⟩
  | succ m ih =>
    intro d hok h1 h2 hw
    unfold widD
    by_cases hk : kind d.low d.high = 3
    · rw [if_pos hk]; exact ⟨⟨hok, hk, h1, h2⟩, by omega⟩
    · rw [if_neg hk]
      obtain ⟨_, b1, b2, b3, b4, b5⟩ := stepD_facts (l := l) hok hk h1 h2
      have := ih (d := stepD l d) ⟨b5, b3⟩ b1 b2 (by
        rw [b4]
        rw [Nat.pow_succ 2 (m + 1)] at hw
        rw [Nat.mul_comm 2 (d.high - d.low + 1), Nat.mul_assoc, Nat.mul_comm 2]
        exact hw)
      refine ⟨this.1, ?_⟩
      have e : (stepD l d).at_ = d.at_ + 1 := rfl
      have h3 := this.2
      omega
theorem nxD_fine {l : List Bool} {d : De} {a b T : Nat} (h : FineD d) (hS : Sp a b T) (h1 : a ≤ symX d T) (h2 : symX d T < b) : FineD (nxD l d a b T) ∧ (nxD l d a b T).at_ ≤ d.at_ + 40 := by
  obtain ⟨n1, n2, n3, _⟩ := narD_in h hS h1 h2
  refine widD_fine 40 n3 n1 n2 ?_
  rw [pow41]
  omega
theorem fineD0 (l : List Bool) : FineD (d0 l) := ⟨⟨by show (0 : Nat) ≤ 4294967295; omega, by show (4294967295 : Nat) < 4294967296; omega⟩, by show kind 0 4294967295 = 3; decide, Nat.zero_le _, by have := val_lt l 32; rw [pow32] at this; show val l 32 ≤ 4294967295; omega⟩
/-- a table's total, its symbols' numbers -/
theorem okF_tot {xs : List Int} (h : Fq.okF xs = true) : 1 ≤ spT xs ∧ spT xs ≤ 16384 ∧ Fq.totF true xs = (spT xs : Int) := by
  have hp := Fq.okF_parts h
  have b3 := Fq.okF_bd h (i := xs.length - 1) (by omega)
  have m2 := Fq.okF_mono h (i := 0) (j := xs.length - 1) (by omega) (by omega)
  unfold spT Fq.totF
  simp only [if_true]
  omega
/-- the next symbol, and what has its numbers -/
def nxK (d : De) (xs : List Int) : Nat := symK xs (symX d (spT xs))
def nxQ (d : De) (xs : List Int) : Pr := ((nxK d xs : Int), xs)
def nxE (l : List Bool) (d : De) (xs : List Int) : De := nxD l d (spA (nxQ d xs)) (spB (nxQ d xs)) (spT xs)
theorem next_sym {d : De} {xs : List Int} (h : FineD d) (ho : Fq.okF xs = true) : Fq.IsSym xs (symX d (spT xs) : Int) (nxK d xs) ∧ okP (nxQ d xs) = true ∧ spA (nxQ d xs) ≤ symX d (spT xs) ∧ symX d (spT xs) < spB (nxQ d xs) ∧ nxK d xs + 1 < xs.length := by
  obtain ⟨t1, t2, t3⟩ := okF_tot ho
  have hx := symX_lt h (T := spT xs) (by omega)
  have ht : xs.getD (xs.length - 1) 0 = (spT xs : Int) := t3
  obtain ⟨k, hk⟩ := Fq.isSym_some (x := (symX d (spT xs) : Int)) ho (by omega) (by rw [ht]; omega)
  have e : nxK d xs = k := symK_is ho hk
  rw [← e] at hk
  obtain ⟨h1, h2, h3⟩ := hk
  have e1 : (nxQ d xs).1 = (nxK d xs : Int) := rfl
  have e2 : (nxQ d xs).2 = xs := rfl
  have b1 := Fq.okF_bd ho (i := nxK d xs) (by omega)
  have b2 := Fq.okF_bd ho (i := nxK d xs + 1) h1
  refine ⟨⟨h1, h2, h3⟩, ?_, ?_, ?_, h1⟩
  · unfold okP Fq.symB
    rw [e1, e2, ho]
    simp only [Bool.true_and, decide_eq_true_eq]
    omega
  · unfold spA
    rw [e1, e2, Int.toNat_natCast]
    omega
  · unfold spB
    rw [e1, e2, Int.toNat_natCast]
    omega
theorem nxE_fine {l : List Bool} {d : De} {xs : List Int} (h : FineD d) (ho : Fq.okF xs = true) : FineD (nxE l d xs) ∧ (nxE l d xs).at_ ≤ d.at_ + 40 := by
  obtain ⟨_, h1, h2, h3, _⟩ := next_sym h ho
  exact nxD_fine h (symP_of h1).2.2.2 h2 h3
end Go.Proofs.YtgpdgegelipboaaDoor.Cd
namespace Go.Proofs.YtgpdgegelipboaaDoor.Cd
open Go.RowKit
/-- what next knows, as long as nothing was stored -/
def NxS (w : World) (p bf : Nat) (d : De) (A : Option Addr) (n c : Nat) (N : Int) (C : Option Addr) (m dd : Nat) (xs : List Int) (u : World) : Prop :=
  RdS u p d A n c N ∧ Blk u bf 52 #[.slice C m dd] ∧ Fq.RdI u C m xs ∧ Below w.heap.size w u
section
variable {w : World} {p bf : Nat} {d : De} {A : Option Addr} {n c : Nat} {N : Int} {C : Option Addr} {m dd : Nat} {xs : List Int} {u u' : World}
theorem NxS.next (h : NxS w p bf d A n c N C m dd xs u) (hb : Below u.heap.size u u') : NxS w p bf d A n c N C m dd xs u' :=
  ⟨h.1.next hb, h.2.1.below hb h.2.1.lt, h.2.2.1.below hb, h.2.2.2.trans (hb.mono h.2.2.2.size)⟩
theorem NxS.drew (h : NxS w p bf d A n c N C m dd xs u) : NxS w p bf d A n c N C m dd xs u.drew := ⟨h.1, h.2.1, h.2.2.1, Below.drew h.2.2.2⟩
theorem NxS.drewN (h : NxS w p bf d A n c N C m dd xs u) (k : Nat) : NxS w p bf d A n c N C m dd xs (u.drewN k) := ⟨h.1, h.2.1, h.2.2.1, below_drewN h.2.2.2 k⟩
theorem nxs_start (h : RdS w p d A n c N) (hx : Fq.RdI w C m xs) : NxS w p w.heap.size d A n c N C m dd xs (w.alloc (.cells #[.slice C m dd] 52)) :=
  ⟨Blk.alloc h _, Blk.new w _ _, hx.alloc _, (Below.refl w.heap.size w).alloc (Nat.le_refl _) _⟩
end
theorem next_bad (p : Nat) (d : De) (A : Option Addr) (n c : Nat) (N : Int) (C : Option Addr) (m dd : Nat) (xs : List Int) (w : World) (hs : Hid (RdS w p d A n c N)) (hx : Hid (Fq.RdI w C m xs)) (hm : Hid (m ≤ maxLen)) (hok : Hid (Fq.okF xs = false)) :
    Calls Tryd.prog 62 #[.pointer (some ⟨p, 0, none⟩), .agg #[.slice C m dd]] w fun e w' => e = .returned (.tuple #[.int .i64 0, .int .i64 1]) ∧ Below w.heap.size w w' := by
  have H0 := Lib.hid (nxs_start (dd := dd) hs.out hx.out)
  go_enter Tryd.func62, Tryd.ntmps62
  go_wp2_with fail
  generalize w.alloc (.cells #[.slice C m dd] 52) = w0 at H0 ⊢
  refine (Fq.check_any C m dd xs false w0 (Lib.hid H0.out.2.2.1) hm.out hok.out).mono ?_
  rintro e w1 ⟨rfl, hb1⟩
  have H1 := Lib.hid (H0.out.next hb1)
  clear hb1 H0
  rw [show Fq.errN false = 1 from rfl]
  go_wp2
  go_ret2
  exact ⟨rfl, H1.out.2.2.2⟩
set_option maxRecDepth 100000 in
set_option maxHeartbeats 1000000 in
theorem next_short (p : Nat) (d : De) (A : Option Addr) (n c L : Nat) (C : Option Addr) (m dd : Nat) (xs : List Int) (w : World) (hs : Hid (RdS w p d A n c (L : Int))) (hL : L ≤ 65536) (ha : L + 32 < d.at_) (_ha2 : d.at_ ≤ 1000000) (hx : Hid (Fq.RdI w C m xs)) (hm : Hid (m ≤ maxLen)) (hok : Hid (Fq.okF xs = true)) :
    Calls Tryd.prog 62 #[.pointer (some ⟨p, 0, none⟩), .agg #[.slice C m dd]] w fun e w' => e = .returned (.tuple #[.int .i64 0, .int .i64 20]) ∧ Below w.heap.size w w' := by
  have H0 := Lib.hid (nxs_start (dd := dd) hs.out hx.out)
  obtain ⟨L3, hL3⟩ : ∃ L3, L3 = L + 32 := ⟨_, rfl⟩
  have eL : (L : Int) + 32 = (L3 : Int) := by omega
  have v1 : IntKind.i64.wrap (L3 : Int) = (L3 : Int) := IntWalk.i64_in _ (by omega)
  have dd1 : decide (L3 < d.at_) = true := by simp; omega
  have dd2 : decide ((L3 : Int) < (d.at_ : Int)) = true := by simp; omega
  clear hL3
  have EL := Lib.hid eL
  have V1 := Lib.hid v1
  clear eL v1
  go_enter Tryd.func62, Tryd.ntmps62
  go_wp2_with fail
  generalize w.alloc (.cells #[.slice C m dd] 52) = w0 at H0 ⊢
  refine (Fq.check_any C m dd xs true w0 (Lib.hid H0.out.2.2.1) hm.out hok.out).mono ?_
  rintro e w1 ⟨rfl, hb1⟩
  have H1 := Lib.hid (H0.out.next hb1)
  clear hb1 H0
  rw [show Fq.errN true = 0 from rfl]
  obtain ⟨-, -, -, -, x4, x5⟩ := H1.out.1.six
  have eL := EL.out
  have v1 := V1.out
  go_wp2_with fail
  go_quiet (fail)
  go_wp2
  go_ret2
  exact ⟨rfl, below_drewN H1.out.2.2.2 _⟩
end Go.Proofs.YtgpdgegelipboaaDoor.Cd
namespace Go.Proofs.YtgpdgegelipboaaDoor.Cd
open Go.RowKit
def NxP (w : World) (p : Nat) (k : Nat) (fin : De) (A : Option Addr) (n c : Nat) (N : Int) (e : Ending) (w' : World) : Prop :=
  e = .returned (.tuple #[.int .i64 (k : Int), .int .i64 0]) ∧ RdS w' p fin A n c N ∧ w.grownBy w' (some p)
set_option maxRecDepth 100000 in
set_option maxHeartbeats 4000000 in
theorem next_ok (p : Nat) (d : De) (A : Option Addr) (n c L : Nat) (l : List Bool) (C : Option Addr) (m dd : Nat) (xs : List Int) (w : World) (hs : Hid (RdS w p d A n c (L : Int))) (hI : Hid (IsB w (.agg #[.slice A n c, .int .i64 (L : Int)]) l)) (hA : Hid (∀ ad, A = some ad → 0 < n → ad.block ≠ p)) (hL : L ≤ 65536) (hd : Hid (FineD d)) (ha : d.at_ ≤ L + 32) (hx : Hid (Fq.RdI w C m xs)) (hm : Hid (m ≤ maxLen)) (hok : Hid (Fq.okF xs = true)) :
    Calls Tryd.prog 62 #[.pointer (some ⟨p, 0, none⟩), .agg #[.slice C m dd]] w (NxP w p (nxK d xs) (nxE l d xs) A n c (L : Int)) := by
  obtain ⟨T, hT⟩ : ∃ T, T = spT xs := ⟨_, rfl⟩
  obtain ⟨X, hX⟩ : ∃ X, X = symX d T := ⟨_, rfl⟩
  obtain ⟨K, hK⟩ : ∃ K, K = nxK d xs := ⟨_, rfl⟩
  obtain ⟨t1, t2, t3⟩ := okF_tot hok.out
  obtain ⟨y1, y2, y3, y4, y5⟩ := next_sym hd.out hok.out
  have hxl := symX_lt hd.out (T := T) (by omega)
  rw [← hT] at t1 t2 t3 y1 y3 y4
  rw [← hX] at hxl y1 y3 y4
  obtain ⟨a, hav⟩ : ∃ a, a = spA (nxQ d xs) := ⟨_, rfl⟩
  obtain ⟨b, hbv⟩ : ∃ b, b = spB (nxQ d xs) := ⟨_, rfl⟩
  have HSY := Lib.hid (show symP xs (K : Int) a b T from by have := symP_of y2; rw [hav, hbv, hT, hK]; exact this)
  have HY1 := Lib.hid (show Fq.IsSym xs (X : Int) K by rw [hK]; exact y1)
  rw [← hav] at y3
  rw [← hbv] at y4
  obtain ⟨n1, n2, n3, n4⟩ := narD_in hd.out HSY.out.2.2.2 (show a ≤ symX d T by rw [← hX]; exact y3) (show symX d T < b by rw [← hX]; exact y4)
  have HFIN := Lib.hid (show nxE l d xs = nxD l d a b T by unfold nxE; rw [hav, hbv, hT])
  have HKK := Lib.hid hK
  obtain ⟨lo, hlo⟩ : ∃ lo, lo = d.low + (d.high - d.low + 1) * a / T := ⟨_, rfl⟩
  obtain ⟨hi, hhi⟩ : ∃ hi, hi = d.low + (d.high - d.low + 1) * b / T - 1 := ⟨_, rfl⟩
  have HN1 := Lib.hid (show lo ≤ d.code ∧ d.code ≤ hi ∧ lo ≤ hi ∧ hi < 4294967296 by rw [hlo, hhi]; exact ⟨n1, n2, n3.1, n3.2⟩)
  have HND := Lib.hid (show narD d a b T = ⟨lo, hi, d.code, d.at_⟩ by unfold narD; rw [hlo, hhi])
  have HLO := Lib.hid hlo
  have HHI := Lib.hid hhi
  have HB1 := Lib.hid n4
  obtain ⟨o1, o2⟩ := hd.out.1
  have k1 := hd.out.2.2.1
  have k2 := hd.out.2.2.2
  obtain ⟨w1', w2'⟩ := fineD_wid hd.out
  -- letters
  obtain ⟨W, hW⟩ : ∃ W, W = d.high - d.low + 1 := ⟨_, rfl⟩
  rw [← hW] at w1' w2'
  have HWW := Lib.hid hW
  obtain ⟨c1, hc1⟩ : ∃ c1, c1 = d.code - d.low := ⟨_, rfl⟩
  obtain ⟨c2, hc2⟩ : ∃ c2, c2 = c1 + 1 := ⟨_, rfl⟩
  obtain ⟨pr, hpr⟩ : ∃ pr, pr = c2 * T := ⟨_, rfl⟩
  obtain ⟨pq, hpq⟩ : ∃ pq, pq = pr - 1 := ⟨_, rfl⟩
  have c2b : c2 ≤ 4294967296 := by omega
  have prb : pr ≤ 70368744177664 := by rw [hpr]; exact Nat.le_trans (Nat.mul_le_mul c2b t2) (by omega)
  have pr1 : 1 ≤ pr := by rw [hpr]; exact Nat.mul_pos (by omega) (by omega)
  have hXq : X = pq / W := by rw [hX, hpq, hpr, hc2, hc1, hW]; rfl
  have E1 := Lib.hid (show (d.code : Int) - (d.low : Int) = (c1 : Int) by omega)
  have E2 := Lib.hid (show (c1 : Int) + 1 = (c2 : Int) by omega)
  have E3 := Lib.hid (show (c2 : Int) * (T : Int) = (pr : Int) by rw [hpr]; simp)
  have E4 := Lib.hid (show (pr : Int) - 1 = (pq : Int) by omega)
  have E5 := Lib.hid (show (pq : Int) / (W : Int) = (X : Int) by rw [hXq]; simp)
  have c1b : c1 < 4294967296 := by omega
  have X2 : X < 16384 := by omega
  have K2 : K ≤ 300 := by have := HY1.out.1; have := (Fq.okF_parts hok.out).2.1; omega
  have W0 : ¬ (W : Int) = 0 := by omega
  have W0' : ((W : Int) == 0) = false := by simp; omega
  have W1' : ¬ W = 0 := by omega
  have W2' : (W == 0) = false := by simp; omega
  obtain ⟨L3, hL3⟩ : ∃ L3, L3 = L + 32 := ⟨_, rfl⟩
  have EL := Lib.hid (show (L : Int) + 32 = (L3 : Int) by omega)
  have VL := Lib.hid (show IntKind.i64.wrap (L3 : Int) = (L3 : Int) from IntWalk.i64_in _ (by omega))
  have dd1 : decide (L3 < d.at_) = false := by simp; omega
  have dd2 : decide ((L3 : Int) < (d.at_ : Int)) = false := by simp; omega
  have pqb : pq ≤ 70368744177664 := by omega
  have HT := Lib.hid t3
  have XT : X < T := hxl
  clear hT hX hK y1 y2 y3 y4 y5 hav hbv hlo hhi n1 n2 n3 n4 hW hc1 hc2 hpr hpq hXq hL3 t3 hxl
  have H0 := Lib.hid (nxs_start (dd := dd) hs.out hx.out)
  go_enter Tryd.func62, Tryd.ntmps62
  go_wp2_with fail
  generalize w.alloc (.cells #[.slice C m dd] 52) = w0 at H0 ⊢
  obtain ⟨bf, hbf⟩ : ∃ bf, bf = w.heap.size := ⟨_, rfl⟩
  rw [← hbf] at H0 ⊢
  clear hbf
  refine (Fq.check_any C m dd xs true w0 (Lib.hid H0.out.2.2.1) hm.out hok.out).mono ?_
  rintro e w1 ⟨rfl, hb1⟩
  have H1 := Lib.hid (H0.out.next hb1)
  clear hb1 H0
  rw [show Fq.errN true = 0 from rfl]
  obtain ⟨-, -, -, -, x4, x5⟩ := H1.out.1.six
  have eL := EL.out
  have v1 := VL.out
  go_wp2_with fail
  go_quiet (fail)
  clear x4 x5 eL v1
  have H2 := Lib.hid (H1.out.drewN nq)
  generalize w1.drewN nq = w2 at H2 ⊢
  clear H1
  obtain ⟨x0, -, x2, -, -, -⟩ := H2.out.1.six
  have e1 := E1.out
  have e2 := E2.out
  have v1 : IntKind.u32.wrap (c1 : Int) = (c1 : Int) := IntWalk.u32_in _ (by omega)
  have v2 : IntKind.u64.wrap (c1 : Int) = (c1 : Int) := IntWalk.u64_in _ (by omega)
  have v3 : IntKind.u64.wrap (c2 : Int) = (c2 : Int) := IntWalk.u64_in _ (by omega)
  go_wp2_with fail
  go_quiet (fail)
  clear x0 x2 e1 e2 v1 v2 v3
  have H3 := Lib.hid (H2.out.drewN nq)
  generalize w2.drewN nq = w3 at H3 ⊢
  clear H2
  go_wp2_with fail
  obtain ⟨x0, x1, -, -, -, -⟩ := H3.out.1.six
  have x3 := Fq.blk0 H3.out.2.1
  have v1 : IntKind.u64.wrap (T : Int) = (T : Int) := IntWalk.u64_in _ (by omega)
  have v2 : IntKind.u64.wrap (pr : Int) = (pr : Int) := IntWalk.u64_in _ (by omega)
  have v3 : IntKind.u64.wrap (pq : Int) = (pq : Int) := IntWalk.u64_in _ (by omega)
  have v4 : IntKind.u64.wrap (X : Int) = (X : Int) := IntWalk.u64_in _ (by omega)
  have e3 := E3.out
  have e4 := E4.out
  have e5 := E5.out
  have e6 : Int.tdiv (pq : Int) (W : Int) = (X : Int) := by rw [Int.tdiv_eq_ediv_of_nonneg (by omega)]; exact e5
  have C1 := Lib.hid (show ∀ u, NxS w p bf d A n c (L : Int) C m dd xs u → Calls Tryd.prog 69 #[.agg #[.slice C m dd]] u (fun e w' => e = .returned (.int .i64 (T : Int)) ∧ NxS w p bf d A n c (L : Int) C m dd xs w') from fun u h =>
    (Fq.total_any C m dd xs true (T : Int) u (Lib.hid h.2.2.1) hm.out hok.out HT.out).mono fun e w' ⟨h1, h2⟩ => ⟨h1, h.next h2⟩)
  have C2 := Lib.hid (show ∀ u, NxS w p bf d A n c (L : Int) C m dd xs u → Calls Tryd.prog 68 #[.agg #[.int .u32 (d.low : Int), .int .u32 (d.high : Int)]] u (fun e w' => e = .returned (.int .u64 (W : Int)) ∧ NxS w p bf d A n c (L : Int) C m dd xs w') from fun u h =>
    (size_any d.low d.high W u o1 o2 HWW).mono fun e w' ⟨h1, h2⟩ => ⟨h1, h.next h2⟩)
  go_region_held3 (fun w' => w'.cell? ⟨p, 0, none⟩ = some (.int .u32 (d.low : Int)) ∧ w'.cell? ⟨p, 1, none⟩ = some (.int .u32 (d.high : Int)) ∧ w'.cell? ⟨bf, 0, none⟩ = some (.slice C m dd) ∧ NxS w p bf d A n c (L : Int) C m dd xs w') (first | exact ⟨hQ.1.six.1, hQ.1.six.2.1, Fq.blk0 hQ.2.1, hQ⟩ | exact ⟨x0, x1, x3, H3.out⟩ | exact ⟨x0, x1, x3, H3.out.drew⟩) (first
    | (go_at_call 69; refine (C1.out _ (by first | exact hQ | exact H3.out | exact H3.out.drew)).mono ?_; rintro e w6 ⟨rfl, hQ⟩)
    | (go_at_call 68; refine (C2.out _ (by first | exact hQ | exact H3.out | exact H3.out.drew)).mono ?_; rintro e w6 ⟨rfl, hQ⟩))
  all_goals
    have HQ := Lib.hid hQ
    clear hQ x0 x1 x3 v1 v2 v3 v4 e3 e4 e5 e6 C1 C2
    go_wp2_with fail
    refine (Fq.find_yes C m dd K xs (X : Int) (T : Int) w6 (Lib.hid HQ.out.2.2.1) hok HY1 (by omega) HT (by omega) (by omega)).mono ?_
    rintro e w7 ⟨rfl, hb7⟩
    have H7 := Lib.hid (HQ.out.next hb7)
    clear hb7 HQ H3
    unfold Fq.findT
    have x3 := Fq.blk0 H7.out.2.1
    go_wp2_with fail
    go_region_with (go_at_call 49; refine (narrow_ok p d.low d.high a b T lo hi C m dd xs (K : Int) w7.drew o1 o2 (Lib.hid H7.out.drew.2.2.1) hm HSY (Lib.hid (RdS.two H7.out.drew.1)) HLO HHI HB1 HN1.out.2.2.1 HN1.out.2.2.2).mono ?_; rintro e w8 ⟨rfl, w9, hb9, rfl⟩)
    have HS9 := Lib.hid (RdS.iv' (H7.out.drew.1.next hb9) lo hi)
    have HG9 := Lib.hid (only_setCell (only_setCell (only_of_below (H7.out.drew.2.2.2.trans (hb9.mono H7.out.drew.2.2.2.size)) (some p)) (p := ⟨p, 1, none⟩) (.inl rfl) (.int .u32 (hi : Int))) (p := ⟨p, 0, none⟩) (.inl rfl) (.int .u32 (lo : Int)))
    clear hb9 x3 H7
    generalize (w9.setCell ⟨p, 1, none⟩ (.int .u32 (hi : Int))).setCell ⟨p, 0, none⟩ (.int .u32 (lo : Int)) = w10 at HS9 HG9 ⊢
    have HWD := Lib.hid (show WidS w p A n c (L : Int) l (nxD l d a b T) 40 w10 from by
      refine ⟨⟨lo, hi, d.code, d.at_⟩, HS9.out, by unfold nxD; rw [HND.out], ⟨HN1.out.2.2.1, HN1.out.2.2.2⟩, HN1.out.1, HN1.out.2.1, ?_, ?_, HG9.out⟩
      · rw [pow41]; omega
      · show d.at_ + 40 ≤ 1000000; omega)
    clear HS9 HG9
    go_wp2_with fail
    with_reducible refine (widen_r w p 40 A n c (L : Int) l (nxD l d a b T) w10 HWD hI hA).mono ?_
    rintro e w11 ⟨rfl, hs11, hg11⟩
    have HS11 := Lib.hid hs11
    have HG11 := Lib.hid hg11
    clear hs11 hg11 HWD
    go_wp2
    go_ret2
    exact ⟨by rw [← HKK.out]; rfl, by rw [HFIN.out]; exact HS11.out, HG11.out⟩
end Go.Proofs.YtgpdgegelipboaaDoor.Cd
namespace Go.Proofs.YtgpdgegelipboaaDoor.Cd
open Go.RowKit
/-- the reader behind some symbols -/
def stD (l : List Bool) (d : De) (fs : List (List Int)) : De := fs.foldl (nxE l) d
theorem stD_snoc (l : List Bool) (d : De) (fs : List (List Int)) (xs : List Int) : stD l d (fs ++ [xs]) = nxE l (stD l d fs) xs := by simp [stD]
/-- the first error -/
def backErr (l : List Bool) (d : De) : List (List Int) → Int
  | [] => 0
  | xs :: r => if Fq.okF xs = true then (if l.length + 32 < d.at_ then 20 else backErr l (nxE l d xs) r) else 1
theorem backErr_no {l : List Bool} {d : De} {xs : List Int} {r : List (List Int)} (h : Fq.okF xs = false) : backErr l d (xs :: r) = 1 := by unfold backErr; rw [h]; rfl
theorem backErr_short {l : List Bool} {d : De} {xs : List Int} {r : List (List Int)} (h : Fq.okF xs = true) (h2 : l.length + 32 < d.at_) : backErr l d (xs :: r) = 20 := by unfold backErr; rw [if_pos h, if_pos h2]
theorem backErr_ok {l : List Bool} {d : De} {xs : List Int} {r : List (List Int)} (h : Fq.okF xs = true) (h2 : d.at_ ≤ l.length + 32) : backErr l d (xs :: r) = backErr l (nxE l d xs) r := by rw [backErr, if_pos h, if_neg (by omega)]
/-- the symbols -/
def symL (l : List Bool) (d : De) (fs : List (List Int)) : List Int := (List.range fs.length).map fun k => (nxK (stD l d (fs.take k)) (fs.getD k []) : Int)
theorem symL_length (l : List Bool) (d : De) (fs : List (List Int)) : (symL l d fs).length = fs.length := by simp [symL]
theorem symL_take (l : List Bool) (d : De) (fs : List (List Int)) (k : Nat) (xs : List Int) (h : fs[k]? = some xs) : (symL l d fs).take (k + 1) = (symL l d fs).take k ++ [(nxK (stD l d (fs.take k)) xs : Int)] := by
  obtain ⟨hk, e⟩ := List.getElem?_eq_some_iff.1 h
  have hl : k < (symL l d fs).length := by rw [symL_length]; exact hk
  rw [List.take_succ_eq_append_getElem hl]
  congr 2
  simp [symL, List.getD_eq_getElem?_getD, hk, e]
def tbs (ts : List Tb) : List (List Int) := ts.map (·.xs)
/-- what the loop of Back knows -/
structure BkR (w : World) (l : List Bool) (p g n8 c N m k : Nat) (A : Option Addr) (fs : List (List Int)) (wr : World) : Prop where
  rd : RdS wr p (stD l (d0 l) (fs.take k)) A n8 c (N : Int)
  fine : FineD (stD l (d0 l) (fs.take k))
  far : (stD l (d0 l) (fs.take k)).at_ ≤ N + 72
  err : backErr l (d0 l) fs = backErr l (stD l (d0 l) (fs.take k)) (fs.drop k)
  zs : ∃ zs, zs.length = m ∧ zs.take k = (symL l (d0 l) fs).take k ∧ Blk wr g 3 (Fq.icells zs)
  hp : w.heap.size ≤ p
  hg : w.heap.size ≤ g
  ne : g ≠ p
  blw : Below w.heap.size w wr
end Go.Proofs.YtgpdgegelipboaaDoor.Cd
namespace Go.Proofs.YtgpdgegelipboaaDoor.Cd
open Go.RowKit
section
variable {w : World} {l : List Bool} {p g n8 c N m k : Nat} {A : Option Addr} {fs : List (List Int)} {wr w' : World}
theorem BkR.next (h : BkR w l p g n8 c N m k A fs wr) (hb : Below wr.heap.size wr w') : BkR w l p g n8 c N m k A fs w' := by
  obtain ⟨zs, z1, z2, z3⟩ := h.zs
  exact ⟨h.rd.next hb, h.fine, h.far, h.err, ⟨zs, z1, z2, z3.below hb z3.lt⟩, h.hp, h.hg, h.ne, h.blw.trans (hb.mono h.blw.size)⟩
theorem BkR.step {xs : List Int} {w2 : World} (h : BkR w l p g n8 c N m k A fs wr) (hN : N = l.length) (hx : fs[k]? = some xs) (hd : fs.drop k = xs :: fs.drop (k + 1)) (ht : fs.take (k + 1) = fs.take k ++ [xs]) (ho : Fq.okF xs = true) (ha : (stD l (d0 l) (fs.take k)).at_ ≤ N + 32) (hk : k < m)
    (hs : RdS w2 p (nxE l (stD l (d0 l) (fs.take k)) xs) A n8 c (N : Int)) (hg : wr.grownBy w2 (some p)) :
    BkR w l p g n8 c N m (k + 1) A fs (w2.setCell ⟨g, k, none⟩ (.int .i64 ((nxK (stD l (d0 l) (fs.take k)) xs : Nat) : Int))) := by
  obtain ⟨zs, z1, z2, z3⟩ := h.zs
  obtain ⟨f1, f2⟩ := nxE_fine (l := l) h.fine ho
  refine ⟨?_, ?_, ?_, ?_, ⟨zs.set k ((nxK (stD l (d0 l) (fs.take k)) xs : Nat) : Int), by simp [z1], ?_, Fq.blk_put (z3.only hg h.ne) _ _⟩, h.hp, h.hg, h.ne, ?_⟩
  · rw [ht, stD_snoc]
    exact Blk.far hs (fun e => h.ne e.symm) _
  · rw [ht, stD_snoc]; exact f1
  · rw [ht, stD_snoc]; omega
  · rw [h.err, hd, backErr_ok ho (by omega), ht, stD_snoc]
  · rw [symL_take l (d0 l) fs k xs hx, List.take_succ_eq_append_getElem (by simp [z1]; omega), List.take_set_of_le (Nat.le_refl _), z2]
    simp
  · exact (h.blw.grown hg h.blw.size (fun j hj => by injection hj with hj; rw [← hj]; exact h.hp)).setCell h.hg _
end
end Go.Proofs.YtgpdgegelipboaaDoor.Cd
namespace Go.Proofs.YtgpdgegelipboaaDoor.Cd
open Go.RowKit
theorem symL_cons (l : List Bool) (d : De) (xs : List Int) (r : List (List Int)) : symL l d (xs :: r) = (nxK d xs : Int) :: symL l (nxE l d xs) r := by
  unfold symL
  rw [List.length_cons, List.range_succ_eq_map, List.map_cons, List.map_map]
  rfl
theorem in_back {inp : List Bool} {ps : List Pr} : ∀ {e : En}, Fine e → allErr e ps = 0 → In inp (stE e ps) → In inp e := by
  induction ps with
  | nil => intro e _ _ h; exact h
  | cons q r ih =>
    intro e h h0 hi
    cases hq : okP q with
    | false => rw [allErr_no hq] at h0; cases h0
    | true =>
      rcases putC_cases (put1 e q) with ⟨c, _, _⟩ | c
      · rw [allErr_ok hq c] at h0
        rw [stE_cons] at hi
        exact (In.put h.1 h.2.1 (symP_of hq).2.2.2 (ih (h.put hq c) h0 hi)).2
      · rw [allErr_long hq c] at h0; cases h0
theorem len_mono {ps : List Pr} : ∀ {e : En}, Fine e → allErr e ps = 0 → len e ≤ len (stE e ps) := by
  induction ps with
  | nil => intro e _ _; exact Nat.le_refl _
  | cons q r ih =>
    intro e h h0
    cases hq : okP q with
    | false => rw [allErr_no hq] at h0; cases h0
    | true =>
      rcases putC_cases (put1 e q) with ⟨c, _, _⟩ | c
      · rw [allErr_ok hq c] at h0
        have h1 := ih (h.put hq c) h0
        obtain ⟨_, _, k, hk, _⟩ := put_facts h.1 h.2.1 (symP_of hq).2.2.2
        rw [stE_cons]
        have : len (put1 e q) = len e + k := hk
        omega
      · rw [allErr_long hq c] at h0; cases h0
theorem next_back {inp : List Bool} {e : En} {d : De} {q : Pr} (h : Fine e) (hq : okP q = true) (hs : Sync inp e d) (hi : In inp (put1 e q)) : (nxK d q.2 : Int) = q.1 ∧ Sync inp (put1 e q) (nxE inp d q.2) := by
  have hsp := symP_of hq
  obtain ⟨y1, y2, y3, y4, y5⟩ := next_sync h.1 h.2.1 hsp.2.2.2 hi hs
  have hq' := hq
  unfold okP Fq.symB at hq'
  simp only [Bool.and_eq_true, decide_eq_true_eq] at hq'
  obtain ⟨hok, h0, h1⟩ := hq'
  have b1 := Fq.okF_bd hok (i := q.1.toNat) (by omega)
  have b2 := Fq.okF_bd hok (i := q.1.toNat + 1) (by omega)
  have hk : nxK d q.2 = q.1.toNat := symK_is hok ⟨by omega, by unfold spA at y1; omega, by unfold spB at y2; omega⟩
  have hk2 : (nxK d q.2 : Int) = q.1 := by rw [hk]; omega
  refine ⟨hk2, ?_⟩
  have eq : nxQ d q.2 = q := by unfold nxQ; rw [hk2]
  have e1 : nxE inp d q.2 = widD 40 inp ⟨(nar e (spA q) (spB q) (spT q.2)).low, (nar e (spA q) (spB q) (spT q.2)).high, d.code, d.at_⟩ := by
    unfold nxE nxD narD
    rw [eq, hs.1, hs.2.1]
    rfl
  rw [e1]
  exact y5
theorem back_all {inp : List Bool} {ps : List Pr} : ∀ {e : En} {d : De}, Fine e → allErr e ps = 0 → Sync inp e d → In inp (stE e ps) → len (stE e ps) ≤ inp.length → backErr inp d (ps.map (·.2)) = 0 ∧ symL inp d (ps.map (·.2)) = ps.map (·.1) := by
  induction ps with
  | nil => intro e d _ _ _ _ _; exact ⟨rfl, rfl⟩
  | cons q r ih =>
    intro e d h h0 hs hi hl
    have hlm := len_mono h h0
    cases hq : okP q with
    | false => rw [allErr_no hq] at h0; cases h0
    | true =>
      rcases putC_cases (put1 e q) with ⟨c, _, _⟩ | c
      · rw [allErr_ok hq c] at h0
        rw [stE_cons] at hi hl hlm
        have hi1 := in_back (h.put hq c) h0 hi
        obtain ⟨n1, n2⟩ := next_back h hq hs hi1
        obtain ⟨r1, r2⟩ := ih (h.put hq c) h0 n2 hi hl
        have hok : Fq.okF q.2 = true := (symP_of hq).2.1
        have hat : d.at_ ≤ inp.length + 32 := by rw [hs.2.2.1]; omega
        rw [List.map_cons, List.map_cons, backErr_ok hok hat, symL_cons, n1, r2]
        exact ⟨r1, rfl⟩
      · rw [allErr_long hq c] at h0; cases h0
/-- all symbols of what was put, with anything behind -/
theorem all_back {ps : List Pr} (h0 : allErr e0 ps = 0) (tail : List Bool) :
    backErr (endBits (stE e0 ps) ++ tail) (d0 (endBits (stE e0 ps) ++ tail)) (ps.map (·.2)) = 0 ∧ symL (endBits (stE e0 ps) ++ tail) (d0 (endBits (stE e0 ps) ++ tail)) (ps.map (·.2)) = ps.map (·.1) := by
  have hf := (allErr_zero fine0 h0).1
  refine back_all fine0 h0 (e0_sync _) (end_in hf.1 hf.2.1 tail) ?_
  rw [List.length_append, endBits_length]
  omega
end Go.Proofs.YtgpdgegelipboaaDoor.Cd
namespace Go.Proofs.YtgpdgegelipboaaDoor.Cd
open Go.RowKit
/-- what live keeps -/
structure LvS (w : World) (b1 g1 b3 gf : Nat) (u : World) : Prop where
  x1 : Blk u b1 46 #[.slice (some ⟨g1, 0, none⟩) 1 1, .int .i64 2]
  x2 : Blk u g1 5 #[.int .u8 64]
  x3 : Blk u b3 52 #[.slice (some ⟨gf, 0, none⟩) 3 3]
  x4 : Blk u gf 3 (Fq.icells [0, 1, 4])
  x5 : Below w.heap.size w u
theorem LvS.next {w : World} {b1 g1 b3 gf : Nat} {u u' : World} (h : LvS w b1 g1 b3 gf u) (hb : Below u.heap.size u u') : LvS w b1 g1 b3 gf u' :=
  ⟨h.x1.below hb h.x1.lt, h.x2.below hb h.x2.lt, h.x3.below hb h.x3.lt, h.x4.below hb h.x4.lt, h.x5.trans (hb.mono h.x5.size)⟩
theorem LvS.alloc {w : World} {b1 g1 b3 gf : Nat} {u : World} (h : LvS w b1 g1 b3 gf u) (o : Obj) : LvS w b1 g1 b3 gf (u.alloc o) := h.next ((Below.refl u.heap.size u).alloc (Nat.le_refl _) o)
/-- three tables that are the same -/
def t3 (gf : Nat) : Tb := ⟨some ⟨gf, 0, none⟩, 3, 3, [0, 1, 4]⟩
end Go.Proofs.YtgpdgegelipboaaDoor.Cd
namespace Go.Proofs.YtgpdgegelipboaaDoor.Cd
open Go.RowKit
/-- all was put, and is bits -/
def AllP (w : World) (l : List Bool) (e : Ending) (w' : World) : Prop :=
  ∃ A n c N, e = .returned (.tuple #[.agg #[.slice A n c, .int .i64 ((N : Nat) : Int)], .int .i64 0]) ∧ IsB w' (.agg #[.slice A n c, .int .i64 (N : Int)]) l ∧ N = l.length ∧ Below w.heap.size w w'
theorem AllOut.good {w w' : World} {ps : List Pr} {e : Ending} (h : AllOut w ps e w') (h0 : allErr e0 ps = 0) (hl : (endBits (stE e0 ps)).length ≤ 65536) : AllP w (endBits (stE e0 ps)) e w' := by
  rcases h with ⟨_, A, n, c, N, er, rfl, hb, h⟩ | ⟨h, _⟩
  · rcases h with ⟨_, rfl, hn⟩ | ⟨h, _⟩
    · have hB := hn.isB
      obtain ⟨_, hN, _, _⟩ := isB_parts hB
      subst hN
      exact ⟨A, n, c, _, rfl, hB, rfl, hb⟩
    · omega
  · exact absurd h0 h
end Go.Proofs.YtgpdgegelipboaaDoor.Cd
namespace Go.Proofs.YtgpdgegelipboaaDoor.Cd
open Go.RowKit
end Go.Proofs.YtgpdgegelipboaaDoor.Cd
namespace Go.Proofs.YtgpdgegelipboaaDoor.Cd
open Go.RowKit
/-- a box that stays -/
def LB (w : World) (b : Nat) (a v : Value) (u : World) : Prop := Blk u b 46 #[a, v] ∧ Below w.heap.size w u
theorem LB.next {w : World} {b : Nat} {a v : Value} {u u' : World} (h : LB w b a v u) (hb : Below u.heap.size u u') : LB w b a v u' := ⟨h.1.below hb h.1.lt, h.2.trans (hb.mono h.2.size)⟩
theorem LB.alloc {w : World} {b : Nat} {a v : Value} {u : World} (h : LB w b a v u) (o : Obj) : LB w b a v (u.alloc o) := h.next ((Below.refl u.heap.size u).alloc (Nat.le_refl _) o)
theorem isB_it {w : World} {A : Option Addr} {n c : Nat} {N : Int} {l : List Bool} (h : IsB w (.agg #[.slice A n c, .int .i64 N]) l) : It.ok ⟨A, n, c, N, pack l⟩ = true ∧ It.bits ⟨A, n, c, N, pack l⟩ = l := by
  obtain ⟨_, hN, _, hl⟩ := isB_parts h
  refine ⟨?_, ?_⟩
  · show okB (pack l) N = true
    rw [hN]; exact okB_pack l hl
  · show bitsIn (pack l) N.toNat = l
    rw [hN]; exact bitsIn_pack l
/-- Join of two -/
theorem join_two {w : World} {b : Nat} {A1 A2 : Option Addr} {n1 c1 n2 c2 : Nat} {N1 N2 : Int} {l1 l2 : List Bool} (h1 : IsB w (.agg #[.slice A1 n1 c1, .int .i64 N1]) l1) (h2 : IsB w (.agg #[.slice A2 n2 c2, .int .i64 N2]) l2) (hb : Blk w b 46 #[.slice A1 n1 c1, .int .i64 N1, .slice A2 n2 c2, .int .i64 N2]) :
    Calls Tryd.prog 52 #[.slice (some ⟨b, 0, none⟩) 2 2] w (BOut w (JQ w.heap.size (l1 ++ l2))) := by
  have hall : allBits [⟨A1, n1, c1, N1, pack l1⟩, ⟨A2, n2, c2, N2, pack l2⟩] = l1 ++ l2 := by
    show It.bits _ ++ (It.bits _ ++ []) = _
    rw [(isB_it h1).2, (isB_it h2).2, List.append_nil]
  rw [← hall]
  refine join_out (some ⟨b, 0, none⟩) 2 2 _ w (by omega) ?_ ?_
  · refine ⟨rfl, fun _ => ⟨_, rfl, fun j x hx => ?_⟩⟩
    rcases (show j = 0 ∨ j = 1 by
      obtain ⟨hk, _⟩ := List.getElem?_eq_some_iff.1 hx
      have hk' : j < 2 := hk
      omega) with rfl | rfl
    · injection hx with hx
      subst hx
      exact ⟨hb.cell 0, hb.cell 1, (isB_parts h1).2.2.1⟩
    · injection hx with hx
      subst hx
      exact ⟨hb.cell 2, hb.cell 3, (isB_parts h2).2.2.1⟩
  · intro x hx
    simp only [List.mem_cons, List.mem_nil_iff, or_false] at hx
    rcases hx with rfl | rfl
    · exact (isB_it h1).1
    · exact (isB_it h2).1
end Go.Proofs.YtgpdgegelipboaaDoor.Cd
namespace Go.Proofs.YtgpdgegelipboaaDoor.Cd
open Go.RowKit
def evT : List Int := Fq.acc (List.replicate 256 1)
theorem evT_ok : Fq.okF evT = true := Fq.okF_acc (Fq.okN_rep 256 (by omega) (by omega))
theorem evT_length : evT.length = 257 := by unfold evT; rw [Fq.acc_length, List.length_replicate]
theorem row_neC {w : World} {b1 b2 : Nat} {e1 e2 : TypeId} {s1 s2 n1 n2 : Nat} {v1 v2 : Value} {x1 x2 : List Value} (h1 : w.ownsRow b1 e1 s1 v1 n1 x1) (h2 : w.ownsRow b2 e2 s2 v2 n2 x2) (he : e1 ≠ e2) : v1.ownBlock = none ∨ v1.ownBlock ≠ v2.ownBlock := by
  rcases h1.2 with ⟨rfl, _⟩ | ⟨g, cap, cur, rfl, _, hh, _⟩
  · exact .inl rfl
  · refine .inr fun e => ?_
    rcases h2.2 with ⟨rfl, _⟩ | ⟨g', cap', cur', rfl, _, hh', _⟩
    · simp [Value.ownBlock] at e
    · simp only [Value.ownBlock, Option.some.injEq] at e
      subst e
      exact Blk.ne_ (t := e1) (t' := e2) hh hh' he rfl
/-- what the loop knows: symbols and tables in rows of their own, from block B on -/
structure EvS (w : World) (B b4 ge k k2 : Nat) (bs : List Nat) (v6 v7 : Value) (u : World) : Prop where
  syms : u.ownsRow B 3 1 v6 k ((bs.take k).map fun b : Nat => Value.int .i64 (b : Int))
  tabs : u.ownsRow B 52 1 v7 k2 (List.replicate k2 (.slice (some ⟨ge, 0, none⟩) 257 257))
  box : Blk u b4 52 #[.slice (some ⟨ge, 0, none⟩) 257 257]
  tab : Blk u ge 3 (Fq.icells evT)
  lt4 : b4 < B
  ltg : ge < B
  hB : w.heap.size ≤ B
  hBu : B ≤ u.heap.size
  blw : Below w.heap.size w u
theorem own_far {u : World} {B k g : Nat} {t : TypeId} {v : Value} {xs : List Value} (h : u.ownsRow B t 1 v k xs) (hg : g < B) : v.ownBlock ≠ some g := fun e => by
  have := (h.lt g e).1
  omega
section
variable {w : World} {B b4 ge k k2 : Nat} {bs : List Nat} {v6 v7 v' : Value} {u u' : World}
theorem EvS.alloc (h : EvS w B b4 ge k k2 bs v6 v7 u) (o : Obj) : EvS w B b4 ge k k2 bs v6 v7 (u.alloc o) :=
  ⟨h.syms.alloc o, h.tabs.alloc o, h.box.alloc o, h.tab.alloc o, h.lt4, h.ltg, h.hB, by have := h.hBu; simp; omega, h.blw.alloc h.blw.size o⟩
theorem EvS.push6 (h : EvS w B b4 ge k k2 bs v6 v7 u) (hk : k < bs.length) (ho : u'.ownsRow B 3 1 v' (k + 1) ((bs.take k).map (fun b : Nat => Value.int .i64 (b : Int)) ++ [.int .i64 ((bs.getD k 0 : Nat) : Int)])) (hg : u.grownBy u' v6.ownBlock) : EvS w B b4 ge (k + 1) k2 bs v' v7 u' := by
  have hB := fun j hj => (h.syms.lt j hj).1
  refine ⟨?_, World.ownsRow.kept h.tabs hg (row_neC h.tabs h.syms (by decide)), h.box.row hg (own_far h.syms h.lt4), h.tab.row hg (own_far h.syms h.ltg), h.lt4, h.ltg, h.hB, Nat.le_trans h.hBu hg.size, h.blw.grown hg h.blw.size (fun j hj => Nat.le_trans h.hB (hB j hj))⟩
  have e : (bs.take (k + 1)).map (fun b : Nat => Value.int .i64 (b : Int)) = (bs.take k).map (fun b : Nat => Value.int .i64 (b : Int)) ++ [.int .i64 ((bs.getD k 0 : Nat) : Int)] := by
    rw [List.take_succ_eq_append_getElem hk, List.map_append]
    simp [List.getD_eq_getElem?_getD, hk]
  rw [e]
  exact ho
theorem EvS.push7 (h : EvS w B b4 ge k k2 bs v6 v7 u) (ho : u'.ownsRow B 52 1 v' (k2 + 1) (List.replicate k2 (.slice (some ⟨ge, 0, none⟩) 257 257) ++ [.slice (some ⟨ge, 0, none⟩) 257 257])) (hg : u.grownBy u' v7.ownBlock) : EvS w B b4 ge k (k2 + 1) bs v6 v' u' := by
  have hB := fun j hj => (h.tabs.lt j hj).1
  refine ⟨World.ownsRow.kept h.syms hg (row_neC h.syms h.tabs (by decide)), ?_, h.box.row hg (own_far h.tabs h.lt4), h.tab.row hg (own_far h.tabs h.ltg), h.lt4, h.ltg, h.hB, Nat.le_trans h.hBu hg.size, h.blw.grown hg h.blw.size (fun j hj => Nat.le_trans h.hB (hB j hj))⟩
  rw [List.replicate_succ']
  exact ho
/-- the rows as the calls read them -/
theorem EvS.rd6 (h : EvS w B b4 ge k k2 bs v6 v7 u) (hk : k = bs.length) : ∃ A c, v6 = .slice A k c ∧ Fq.RdI u A k (bs.map fun b : Nat => (b : Int)) := by
  have hl : (bs.map fun b : Nat => (b : Int)).length = k := by rw [List.length_map, hk]
  rcases h.syms.2 with ⟨rfl, h0⟩ | ⟨g, cap, cur, rfl, hb, _⟩
  · refine ⟨none, 0, by rw [h0], hl, fun hn => absurd hn (by omega)⟩
  · refine ⟨_, cap, rfl, hl, fun _ => ⟨_, rfl, fun j x hx => ?_⟩⟩
    refine World.ownsRow.cells h.syms (g := g) rfl j _ ?_
    rw [List.take_of_length_le (by omega)]
    rw [List.getElem?_map] at hx ⊢
    cases hb : bs[j]? with
    | none => rw [hb] at hx; cases hx
    | some y => rw [hb] at hx; injection hx with hx; rw [← hx]; rfl
def evTb (ge : Nat) : Tb := ⟨some ⟨ge, 0, none⟩, 257, 257, evT⟩
theorem evTb_C (ge : Nat) : (evTb ge).C = some ⟨ge, 0, none⟩ := by unfold evTb; with_reducible rfl
theorem evTb_m (ge : Nat) : (evTb ge).m = 257 := by unfold evTb; with_reducible rfl
theorem evTb_d (ge : Nat) : (evTb ge).d = 257 := by unfold evTb; with_reducible rfl
theorem evTb_x (ge : Nat) : (evTb ge).xs = evT := by unfold evTb; with_reducible rfl
theorem EvS.rd7 (h : EvS w B b4 ge k k2 bs v6 v7 u) : ∃ A c, v7 = .slice A k2 c ∧ RdT u A k2 (List.replicate k2 (evTb ge)) := by
  have hl : (List.replicate k2 (evTb ge)).length = k2 := List.length_replicate
  rcases h.tabs.2 with ⟨rfl, h0⟩ | ⟨g, cap, cur, rfl, hb, _⟩
  · refine ⟨none, 0, by rw [h0], hl, fun hn => absurd hn (by omega)⟩
  · refine ⟨_, cap, rfl, hl, fun _ => ⟨_, rfl, fun j x hx => ?_⟩⟩
    obtain ⟨hj, e⟩ := List.getElem?_eq_some_iff.1 hx
    rw [List.getElem_replicate] at e
    subst e
    rw [List.length_replicate] at hj
    refine ⟨World.ownsRow.cells h.tabs (g := g) rfl j _ (by rw [List.getElem?_replicate, if_pos hj, evTb_C, evTb_m, evTb_d]), by rw [evTb_C, evTb_m, evTb_x]; exact Fq.RdI.of_blk h.tab evT_length, by rw [evTb_m]; unfold maxLen; omega⟩
end
end Go.Proofs.YtgpdgegelipboaaDoor.Cd
namespace Go.Proofs.YtgpdgegelipboaaDoor.Cd
open Go.RowKit
theorem backErr_take {l : List Bool} {fs : List (List Int)} : ∀ {d : De} (k : Nat), backErr l d fs = 0 → backErr l d (fs.take k) = 0 := by
  induction fs with
  | nil => intro d k h; simpa using h
  | cons xs r ih =>
    intro d k h
    cases k with
    | zero => rfl
    | succ k =>
      rw [List.take_succ_cons]
      cases ho : Fq.okF xs with
      | false => rw [backErr_no ho] at h; cases h
      | true =>
        by_cases ha : l.length + 32 < d.at_
        · rw [backErr_short ho ha] at h; cases h
        · rw [backErr_ok ho (by omega)] at h ⊢
          exact ih k h
theorem symL_take_all (l : List Bool) (fs : List (List Int)) : ∀ (d : De) (k : Nat), symL l d (fs.take k) = (symL l d fs).take k := by
  induction fs with
  | nil => intro d k; simp [symL]
  | cons xs r ih =>
    intro d k
    cases k with
    | zero => simp [symL]
    | succ k => rw [List.take_succ_cons, symL_cons, symL_cons, List.take_succ_cons, ih]
theorem RdT.take {w : World} {L : Option Addr} {n : Nat} {ts : List Tb} (h : RdT w L n ts) (k : Nat) (hk : k ≤ n) : RdT w L k (ts.take k) := by
  refine ⟨by rw [List.length_take, h.1]; omega, fun h0 => ?_⟩
  obtain ⟨ad, e, hc⟩ := h.2 (by omega)
  refine ⟨ad, e, fun j t ht => hc j t ?_⟩
  rw [List.getElem?_take] at ht
  split at ht
  · exact ht
  · cases ht
end Go.Proofs.YtgpdgegelipboaaDoor.Cd
namespace Go.Proofs.YtgpdgegelipboaaDoor.Cd
open Go.RowKit
/-- how much was told so far -/
def LongR (e : En) (M : Nat) : Prop := 4294967296 * 2 ^ len e ≤ wid e * 2 ^ M
theorem long0 : LongR e0 0 := by unfold LongR; decide
theorem LongR.put {e : En} {q : Pr} {M n : Nat} (h : LongR e M) (hf : Fine e) (hq : okP q = true) (hn : spT q.2 ≤ (spB q - spA q) * 2 ^ n) : LongR (put1 e q) (M + (n + 1)) := put_long hf.1 hf.2.1 (symP_of hq).2.2.2 hn M h
end Go.Proofs.YtgpdgegelipboaaDoor.Cd
namespace Go.Proofs.YtgpdgegelipboaaDoor.Lp
open Go.RowKit Go.Proofs.YtgpdgegelipboaaDoor.Fx Go.Proofs.YtgpdgegelipboaaDoor.Fq Go.Proofs.YtgpdgegelipboaaDoor.Tb
end Go.Proofs.YtgpdgegelipboaaDoor.Lp
namespace Go.Proofs.YtgpdgegelipboaaDoor.Lp
open Go.RowKit Go.Proofs.YtgpdgegelipboaaDoor.Fx Go.Proofs.YtgpdgegelipboaaDoor.Fq Go.Proofs.YtgpdgegelipboaaDoor.Tb
end Go.Proofs.YtgpdgegelipboaaDoor.Lp
namespace Go.Proofs.YtgpdgegelipboaaDoor.Lp
open Go.RowKit Go.Proofs.YtgpdgegelipboaaDoor.Fx Go.Proofs.YtgpdgegelipboaaDoor.Fq Go.Proofs.YtgpdgegelipboaaDoor.Tb
end Go.Proofs.YtgpdgegelipboaaDoor.Lp
namespace Go.Proofs.YtgpdgegelipboaaDoor.Lp
open Go.RowKit Go.Proofs.YtgpdgegelipboaaDoor.Fx Go.Proofs.YtgpdgegelipboaaDoor.Fq Go.Proofs.YtgpdgegelipboaaDoor.Tb
theorem run_items_same (d : Nat) (xs : List Int) (u : World) : ∀ l : List Nat, (∀ i ∈ l, i < xs.length) → (Op.eqItems (d + 1) 3 1 (icells xs) (icells xs) l).run Tryd.prog u = .ok true u
  | [], _ => by simp [Op.eqItems]
  | i :: l, h => by
    have ih := run_items_same d xs u l fun j hj => h j (by simp [hj])
    have ha : (isAgg 3).run Tryd.prog u = .ok false u := by kernel_rfl
    have hu : Tryd.prog.underlying 3 = some (.int .i64) := by kernel_rfl
    have hc : (icells xs)[i]? = some (.int .i64 (xs.getD i 0)) := icells_get (h i (by simp))
    have hp : (part 3 (icells xs) (i * 1)).run Tryd.prog u = .ok (.int .i64 (xs.getD i 0)) u := by
      rw [Nat.mul_one]
      simp only [part, Sem.run_bind, ha, Result.andThen_ok, Bool.false_eq_true, if_false, hc, Sem.run_pure]
    have he := run_equalIn_int (P := Tryd.prog) u d 3 .i64 .i64 (xs.getD i 0) (xs.getD i 0) hu
    simp only [Op.eqItems, Sem.run_bind, hp, Result.andThen_ok, he, beq_self_eq_true]
    simpa using ih
theorem run_equalIn_same (T : TypeId) {n : Nat} (hT : Tryd.prog.underlying T = some (.array n 3)) (xs : List Int) (hl : xs.length = n) (w : World) :
    (Op.equalIn 10000 T (.agg (icells xs)) (.agg (icells xs))).run Tryd.prog w = .ok true w := by
  have hc : Tryd.prog.cellsOf 3 = 1 := by kernel_rfl
  obtain ⟨i, hi⟩ : ∃ i, Tryd.prog.info? 3 = some i := Option.isSome_iff_exists.1 (by kernel_rfl)
  rw [run_equalIn_array w 9999 (icells xs) (icells xs) hT hi, hc]
  exact run_items_same 9998 xs w _ fun j hj => by rw [hl]; exact List.mem_range.1 hj
theorem zr_getD (n k : Nat) : (zr n).getD k 0 = 0 := by
  unfold zr
  rw [List.getD_eq_getElem?_getD, List.getElem?_replicate]
  split <;> rfl
def p1 : List Int := 32768 :: List.replicate 15 0
def x1 : List Int := 3 :: -4 :: List.replicate 14 0
end Go.Proofs.YtgpdgegelipboaaDoor.Lp
namespace Go.Proofs.YtgpdgegelipboaaDoor.Lp
open Go.ChangeShapes Go.WideShapes Go.ChangeAt Go.RowKit Go.Joins Go.Deep Go.Proofs.YtgpdgegelipboaaDoor.Fq
theorem laidOut : laidOutB Tryd.prog = true := by kernel_rfl
theorem own : ownKnob Tryd.prog.godebug = none := by kernel_rfl
theorem cells_int : Tryd.prog.cellsOf 3 = 1 := by kernel_rfl
theorem ints_of : ∀ (n : Nat) (l : List Value), l.length = n → (∀ i, i < n → ∃ z : Int, (l.drop i).take 1 = [.int .i64 z]) → ∃ zs : List Int, zs.length = n ∧ l = zs.map fun x => Value.int .i64 x
  | 0, l, hl, _ => ⟨[], rfl, by simpa using hl⟩
  | n + 1, l, hl, h => by
    match l, hl, h with
    | v :: l, hl, h =>
      obtain ⟨z, hz⟩ := h 0 (by omega)
      simp only [List.drop_zero, List.take_succ_cons, List.take_zero, List.cons.injEq, and_true] at hz
      obtain ⟨zs, hzl, e⟩ := ints_of n l (by simpa using hl) fun i hi => by
        have := h (i + 1) (by omega)
        simpa using this
      exact ⟨z :: zs, by simp [hzl], by rw [hz, e]; rfl⟩
section
variable {H : Type} {enc : TypeId × Value → H} {W : World} {base : Nat} {spare : Nat → Bool} {held : Bool}
set_option maxRecDepth 20000 in
theorem open_arr {b0 : Nat} {r : Reach} {T : TypeId} {n : Nat} {v : Value} {d : DataW H} {p : List MemPlace} (hT : Tryd.prog.underlying T = some (.array n 3)) (hc : Tryd.prog.cellsOf T = n)
    (hv : Value.okWide Tryd.prog W r b0 T v) (h : DataW.Trod enc Tryd.prog W base spare held T v d p) : ∃ zs : List Int, v = .agg (icells zs) ∧ zs.length = n := by
  obtain ⟨cs, rfl, hsz⟩ : ∃ cs, v = .agg cs ∧ cs.size = n := by
    simp only [Value.okWide, hT] at hv
    obtain ⟨cs, h1, h2, _⟩ := hv
    exact ⟨cs, h1, by rw [h2, hc]⟩
  obtain ⟨fuel, hf⟩ := h
  obtain ⟨xs, m, rfl, _, hl, hn, hel⟩ := DataW.trod_array hT hf
  obtain ⟨zs, hz, e⟩ := ints_of n cs.toList (by simpa using hsz) fun i hi => by
    have hi' := hel i hi
    rw [cells_int, Nat.mul_one] at hi'
    have hx : xs[i]? = some xs[i] := List.getElem?_eq_getElem (by omega)
    rw [hx] at hi'
    obtain ⟨z, hz, _⟩ := DataW.trod_int Tryd.underlying3 hi'
    exact ⟨z, by simpa [Value.cells] using hz⟩
  refine ⟨zs, ?_, hz⟩
  unfold icells
  rw [← e]
end
end Go.Proofs.YtgpdgegelipboaaDoor.Lp
namespace Go.Proofs.YtgpdgegelipboaaDoor.Lp
open Go.RowKit Go.Proofs.YtgpdgegelipboaaDoor.Fx Go.Proofs.YtgpdgegelipboaaDoor.Fq Go.Proofs.YtgpdgegelipboaaDoor.Tb
theorem run_items_any (d : Nat) (xs ys : List Int) (u : World) : ∀ l : List Nat, (∀ i ∈ l, i < xs.length ∧ i < ys.length) → (Op.eqItems (d + 1) 3 1 (icells xs) (icells ys) l).run Tryd.prog u = .ok (l.all fun i => xs.getD i 0 == ys.getD i 0) u
  | [], _ => by simp [Op.eqItems]
  | i :: l, h => by
    have ih := run_items_any d xs ys u l fun j hj => h j (by simp [hj])
    have ha : (isAgg 3).run Tryd.prog u = .ok false u := by kernel_rfl
    have hu : Tryd.prog.underlying 3 = some (.int .i64) := by kernel_rfl
    have hp : ∀ zs : List Int, i < zs.length → (part 3 (icells zs) (i * 1)).run Tryd.prog u = .ok (.int .i64 (zs.getD i 0)) u := fun zs hz => by
      have hc : (icells zs)[i]? = some (.int .i64 (zs.getD i 0)) := icells_get hz
      rw [Nat.mul_one]
      simp only [part, Sem.run_bind, ha, Result.andThen_ok, Bool.false_eq_true, if_false, hc, Sem.run_pure]
    have he := run_equalIn_int (P := Tryd.prog) u d 3 .i64 .i64 (xs.getD i 0) (ys.getD i 0) hu
    have h1 := hp xs (h i (by simp)).1
    have h2 := hp ys (h i (by simp)).2
    simp only [Op.eqItems, Sem.run_bind, h1, h2, Result.andThen_ok, he]
    rw [List.all_cons]
    by_cases k : xs.getD i 0 = ys.getD i 0
    · have k2 : (xs.getD i 0 == ys.getD i 0) = true := by rw [k]; exact beq_self_eq_true _
      simp only [k2, Bool.true_and]
      simpa using ih
    · have k2 : (xs.getD i 0 == ys.getD i 0) = false := by simpa using k
      simp only [k2, Bool.false_and]
      simp
theorem run_equalIn_diff (T : TypeId) {n : Nat} (hT : Tryd.prog.underlying T = some (.array n 3)) (xs ys : List Int) (hl : xs.length = n) (hl' : ys.length = n) (hne : xs ≠ ys) (w : World) :
    (Op.equalIn 10000 T (.agg (icells xs)) (.agg (icells ys))).run Tryd.prog w = .ok false w := by
  have hc : Tryd.prog.cellsOf 3 = 1 := by kernel_rfl
  obtain ⟨i, hi⟩ : ∃ i, Tryd.prog.info? 3 = some i := Option.isSome_iff_exists.1 (by kernel_rfl)
  rw [run_equalIn_array w 9999 (icells xs) (icells ys) hT hi, hc, run_items_any 9998 xs ys w _ fun j hj => ⟨by rw [hl]; exact List.mem_range.1 hj, by rw [hl']; exact List.mem_range.1 hj⟩]
  congr 1
  rw [Bool.eq_false_iff]
  intro hall
  refine hne (getD_ext (by rw [hl, hl']) fun k hk => ?_)
  rw [List.all_eq_true] at hall
  simpa using hall k (List.mem_range.2 (by omega))
theorem arrLev : Arr 23 6 := ⟨⟨.array 6 3, by kernel_rfl, rfl⟩, by kernel_rfl⟩
theorem arrAll : Arr 66 6 := ⟨⟨.array 6 3, by kernel_rfl, rfl⟩, by kernel_rfl⟩
theorem grdLev : Tryd.prog.eqGuardType Tryd.prog.depth 23 = false := by kernel_rfl
/-- the bands' edges -/
def edgL : List Nat := [0, 1, 2, 4, 6, 10, 16]
def edg (b : Nat) : Nat := edgL.getD b 0
theorem edg_all : ∀ b, b < 6 → edg b < edg (b + 1) ∧ edg (b + 1) ≤ 16 ∧ edg b ≤ 15 := by decide
/-- the variable 'edges' lies where it lies, as the program's text has it -/
def Edg (w : World) : Prop := ∀ b, b < 7 → w.cell? ⟨0, b, none⟩ = some (.int .i64 (edg b : Int))
theorem Edg.below {w w' : World} (h : Edg w) (hb : Below w.heap.size w w') : Edg w' := fun b hlt => by
  have hc := h b hlt
  exact (hb.cell (p := ⟨_, b, none⟩) (World.block_lt_of_cell? _ _ hc)).trans hc
theorem Edg.drew {w : World} (h : Edg w) : Edg w.drew := h
theorem Edg.mem {w w' : World} {L : List (Nat × TypeId × List Int)} (h : Edg w) (hm : Mem w L w') : Edg w' := h.below hm.1
theorem Edg.cells {w : World} (h : Edg w) {b : Nat} (hb : b < 6) : w.cell? ⟨0, b, none⟩ = some (.int .i64 (edg b : Int)) ∧ w.cell? ⟨0, b + 1, none⟩ = some (.int .i64 (edg (b + 1) : Int)) := ⟨h b (by omega), h (b + 1) (by omega)⟩
theorem sumN_nonneg {f : Nat → Int} : ∀ n : Nat, (∀ i, i < n → 0 ≤ f i) → 0 ≤ sumN f n
  | 0, _ => Int.le_refl _
  | n + 1, h => by
    have h1 := sumN_nonneg n fun i hi => h i (by omega)
    have h2 := h n (by omega)
    rw [sumN_succ]; omega
end Go.Proofs.YtgpdgegelipboaaDoor.Lp
namespace Go.Proofs.YtgpdgegelipboaaDoor.Lp
open Go.RowKit Go.Proofs.YtgpdgegelipboaaDoor.Fx Go.Proofs.YtgpdgegelipboaaDoor.Fq Go.Proofs.YtgpdgegelipboaaDoor.Tb
end Go.Proofs.YtgpdgegelipboaaDoor.Lp
namespace Go.Proofs.YtgpdgegelipboaaDoor.Lp
open Go.RowKit Go.Proofs.YtgpdgegelipboaaDoor.Fx Go.Proofs.YtgpdgegelipboaaDoor.Fq Go.Proofs.YtgpdgegelipboaaDoor.Tb
def chkL (l : List Int) : Bool := inR 0 255 l
def heldL (l : List Int) : List Int := tab 6 (fun b => max 0 (min (l.getD b 0) 255))
theorem held_iff {l : List Int} (hl : l.length = 6) : heldL l = l ↔ chkL l = true := by
  unfold chkL
  rw [inR_iff hl]
  constructor
  · intro h k hk
    have e : (heldL l).getD k 0 = l.getD k 0 := by rw [h]
    rw [heldL, tab_getD _ hk] at e
    omega
  · intro h
    refine getD_ext (by rw [heldL, tab_length, hl]) fun k hk => ?_
    rw [heldL, tab_length] at hk
    rw [heldL, tab_getD _ hk]
    have := h k hk
    omega
/-- up to which level band b is not heard beside the first k bands -/
def mkN (l : List Int) (b : Nat) : Nat → Int
  | 0 => 0
  | k + 1 => if k = b then mkN l b k else max (mkN l b k) (l.getD k 0 - 12 * max ((k : Int) - (b : Int)) ((b : Int) - (k : Int)) - 8)
theorem mkN_self (l : List Int) (k : Nat) : mkN l k (k + 1) = mkN l k k := by rw [mkN, if_pos rfl]
theorem mkN_other (l : List Int) {b k : Nat} (h : ¬ k = b) : mkN l b (k + 1) = max (mkN l b k) (l.getD k 0 - 12 * max ((k : Int) - (b : Int)) ((b : Int) - (k : Int)) - 8) := by rw [mkN, if_neg h]
def maskL (l : List Int) : List Int := tab 6 (fun b => mkN l b 6)
theorem maskL_length (l : List Int) : (maskL l).length = 6 := tab_length _ _
theorem mkN_bd {l : List Int} (h : chkL l = true) (b : Nat) : ∀ k, 0 ≤ mkN l b k ∧ mkN l b k ≤ 255
  | 0 => ⟨Int.le_refl _, by show (0 : Int) ≤ 255; omega⟩
  | k + 1 => by
    have ih := mkN_bd h b k
    have hv := inR_bd h (by omega) (by omega) k
    unfold mkN
    split <;> omega
theorem mask_bd {l : List Int} (h : chkL l = true) {b : Nat} (hb : b < 6) : 0 ≤ (maskL l).getD b 0 ∧ (maskL l).getD b 0 ≤ 255 := by
  rw [maskL, tab_getD _ hb]; exact mkN_bd h b 6
def wishI (v m : Int) : Int := if v ≤ m then 0 else min ((v - m + 7) / 8) 7
def wishL (l m : List Int) : List Int := tab 6 (fun b => wishI (l.getD b 0) (m.getD b 0))
theorem wishI_bd (v m : Int) : 0 ≤ wishI v m ∧ wishI v m ≤ 7 := by
  unfold wishI; split <;> omega
def costN (a : List Int) (k : Nat) : Int := sumN (fun b => a.getD b 0 * ((edg (b + 1) : Int) - (edg b : Int))) k
def costL (a : List Int) : Int := costN a 6
theorem costL_eq (a : List Int) : costL a = a.getD 0 0 + a.getD 1 0 + 2 * a.getD 2 0 + 2 * a.getD 3 0 + 4 * a.getD 4 0 + 6 * a.getD 5 0 := by
  have e : ∀ b, b < 7 → (edg b : Int) = [0, 1, 2, 4, 6, 10, 16].getD b 0 := by decide
  unfold costL costN
  simp only [sumN]
  rw [e 0 (by omega), e (0 + 1) (by omega), e (1 + 1) (by omega), e (2 + 1) (by omega), e (3 + 1) (by omega), e (4 + 1) (by omega), e (5 + 1) (by omega)]
  simp only [Nat.reduceAdd, List.getD_cons_zero, List.getD_cons_succ]
  omega
/-- the last of the first k bands that has the most bits -/
def lastM (a : List Int) : Nat → Nat
  | 0 => 0
  | k + 1 => if a.getD (lastM a k) 0 ≤ a.getD k 0 then k else lastM a k
theorem lastM_lt (a : List Int) : ∀ k, lastM a (k + 1) < k + 1
  | 0 => by unfold lastM; split <;> simp [lastM]
  | k + 1 => by
    have ih := lastM_lt a k
    rw [lastM]; split <;> omega
theorem lastM_lt6 (a : List Int) : lastM a 6 < 6 := lastM_lt a 5
theorem lastM_max (a : List Int) : ∀ k j, j < k → a.getD j 0 ≤ a.getD (lastM a k) 0
  | k + 1, j, hj => by
    have ih := lastM_max a k
    rw [lastM]
    split
    · rename_i h
      by_cases e : j = k
      · subst e; exact Int.le_refl _
      · exact Int.le_trans (ih j (by omega)) h
    · rename_i h
      by_cases e : j = k
      · subst e; omega
      · exact ih j (by omega)
theorem lastM_last (a : List Int) : ∀ k j, j < k → lastM a k < j → a.getD j 0 < a.getD (lastM a k) 0
  | k + 1, j, hj, hl => by
    have ih := lastM_last a k
    rw [lastM] at hl ⊢
    split
    · rename_i h
      rw [if_pos h] at hl; omega
    · rename_i h
      rw [if_neg h] at hl
      by_cases e : j = k
      · subst e; omega
      · exact ih j (by omega) hl
theorem lastM_is {a : List Int} {b : Nat} (hb : b < 6) (h1 : ∀ j, j < 6 → a.getD j 0 ≤ a.getD b 0) (h2 : ∀ j, j < 6 → b < j → a.getD j 0 < a.getD b 0) : lastM a 6 = b := by
  have k1 := lastM_lt6 a
  have k2 := lastM_max a 6 b hb
  have k3 := h1 _ k1
  rcases Nat.lt_trichotomy (lastM a 6) b with h | h | h
  · have := lastM_last a 6 b hb h; omega
  · exact h
  · have := h2 _ k1 h; omega
def stpL (a : List Int) : List Int := a.set (lastM a 6) (a.getD (lastM a 6) 0 - 1)
def OkA (a : List Int) : Prop := a.length = 6 ∧ ∀ b, b < 6 → 0 ≤ a.getD b 0 ∧ a.getD b 0 ≤ 7
def sumA (a : List Int) : Nat := (sumN (fun b => a.getD b 0) 6).toNat
theorem getD_set' (a : List Int) (i : Nat) (v : Int) (j : Nat) (hi : i < a.length) : (a.set i v).getD j 0 = if i = j then v else a.getD j 0 := by
  simp only [List.getD_eq_getElem?_getD, List.getElem?_set]
  by_cases h : i = j
  · subst h; simp [hi]
  · simp [h]
theorem costL_pos {a : List Int} {B : Int} (hB : 0 ≤ B) (hc : B < costL a) : 0 < a.getD (lastM a 6) 0 := by
  rw [costL_eq] at hc
  have m := lastM_max a 6
  have m0 := m 0 (by omega)
  have m1 := m 1 (by omega)
  have m2 := m 2 (by omega)
  have m3 := m 3 (by omega)
  have m4 := m 4 (by omega)
  have m5 := m 5 (by omega)
  omega
theorem stp_ok {a : List Int} (h : OkA a) (hp : 0 < a.getD (lastM a 6) 0) : OkA (stpL a) := by
  have hl := lastM_lt6 a
  refine ⟨by rw [stpL, List.length_set, h.1], fun b hb => ?_⟩
  rw [stpL, getD_set' _ _ _ _ (by rw [h.1]; exact hl)]
  have := h.2 b hb
  have := h.2 _ hl
  split <;> omega
theorem sum_set (a : List Int) (i : Nat) (v : Int) (hi : i < a.length) : ∀ k, sumN (fun b => (a.set i v).getD b 0) k = sumN (fun b => a.getD b 0) k + if i < k then v - a.getD i 0 else 0
  | 0 => by simp [sumN]
  | k + 1 => by
    rw [sumN_succ, sumN_succ, sum_set a i v hi k, getD_set' _ _ _ _ hi]
    by_cases h : i = k
    · subst h
      rw [if_pos rfl, if_neg (by omega), if_pos (by omega)]
      omega
    · rw [if_neg h]
      by_cases h2 : i < k
      · rw [if_pos h2, if_pos (by omega)]; omega
      · rw [if_neg h2, if_neg (by omega)]; omega
theorem sumA_le {a : List Int} (h : OkA a) : sumA a ≤ 42 := by
  have := sumN_bd (fun b => if b < 6 then a.getD b 0 else 0) 7 6 fun i hi => by
    have := h.2 i hi
    show -7 ≤ (if i < 6 then a.getD i 0 else 0) ∧ (if i < 6 then a.getD i 0 else 0) ≤ 7
    rw [if_pos hi]; omega
  have e : sumN (fun b => a.getD b 0) 6 = sumN (fun b => if b < 6 then a.getD b 0 else 0) 6 := sumN_congr _ _ _ fun i hi => (if_pos hi).symm
  unfold sumA; rw [e]; omega
theorem sum_nonneg {a : List Int} (h : OkA a) : 0 ≤ sumN (fun b => a.getD b 0) 6 := sumN_nonneg _ fun i hi => (h.2 i hi).1
theorem stp_sum {a : List Int} (h : OkA a) (hp : 0 < a.getD (lastM a 6) 0) : sumA (stpL a) + 1 = sumA a := by
  have hl := lastM_lt6 a
  have h1 := sum_set a (lastM a 6) (a.getD (lastM a 6) 0 - 1) (by rw [h.1]; exact hl) 6
  rw [if_pos hl] at h1
  have h2 := sum_nonneg (stp_ok h hp)
  unfold stpL at h2
  unfold sumA stpL
  omega
/-- a bit less, n times at the most, as long as it costs more -/
def narL : Nat → List Int → Int → List Int
  | 0, a, _ => a
  | n + 1, a, B => if costL a ≤ B then a else narL n (stpL a) B
theorem nar_done {n : Nat} {a : List Int} {B : Int} (h : costL a ≤ B) : narL n a B = a := by
  cases n with
  | zero => rfl
  | succ n => rw [narL, if_pos h]
theorem nar_fuel {B : Int} (hB : 0 ≤ B) : ∀ (n m : Nat) (a : List Int), OkA a → sumA a ≤ n → sumA a ≤ m → narL n a B = narL m a B
  | n, m, a, h, hn, hm => by
    by_cases hc : costL a ≤ B
    · rw [nar_done hc, nar_done hc]
    · have hp := costL_pos (a := a) hB (by omega)
      have hs := stp_sum h hp
      match n, m with
      | n + 1, m + 1 =>
        rw [narL, narL, if_neg hc, if_neg hc]
        exact nar_fuel hB n m _ (stp_ok h hp) (by omega) (by omega)
      | 0, _ => omega
      | _ + 1, 0 => omega
theorem nar_step {B : Int} (hB : 0 ≤ B) {a : List Int} (h : OkA a) (hc : ¬ costL a ≤ B) : narL 42 a B = narL 42 (stpL a) B ∧ OkA (stpL a) := by
  have hp := costL_pos (a := a) hB (by omega)
  have hs := stp_sum h hp
  have h42 := sumA_le h
  refine ⟨?_, stp_ok h hp⟩
  rw [show (42 : Nat) = 41 + 1 from rfl, narL, if_neg hc]
  exact nar_fuel hB 41 (41 + 1) _ (stp_ok h hp) (by omega) (by omega)
theorem nar_ok {B : Int} (hB : 0 ≤ B) : ∀ (n : Nat) (a : List Int), OkA a → sumA a ≤ n → OkA (narL n a B) ∧ costL (narL n a B) ≤ B ∧ ∀ b, b < 6 → (narL n a B).getD b 0 ≤ a.getD b 0
  | n, a, h, hn => by
    by_cases hc : costL a ≤ B
    · rw [nar_done hc]; exact ⟨h, hc, fun b _ => Int.le_refl _⟩
    · have hp := costL_pos (a := a) hB (by omega)
      have hs := stp_sum h hp
      match n with
      | 0 => omega
      | n + 1 =>
        rw [narL, if_neg hc]
        obtain ⟨h1, h2, h3⟩ := nar_ok hB n _ (stp_ok h hp) (by omega)
        refine ⟨h1, h2, fun b hb => Int.le_trans (h3 b hb) ?_⟩
        have hl := lastM_lt6 a
        rw [stpL, getD_set' _ _ _ _ (by rw [h.1]; exact hl)]
        split
        · rename_i e; rw [e]; omega
        · exact Int.le_refl _
def shareL (l : List Int) (B : Int) : List Int := narL 42 (wishL l (maskL l)) B
theorem wish_ok (l m : List Int) : OkA (wishL l m) := ⟨tab_length _ _, fun b hb => by rw [wishL, tab_getD _ hb]; exact wishI_bd _ _⟩
theorem share_ok (l : List Int) {B : Int} (hB : 0 ≤ B) : OkA (shareL l B) ∧ costL (shareL l B) ≤ B := by
  have h := nar_ok hB 42 _ (wish_ok l (maskL l)) (sumA_le (wish_ok _ _))
  exact ⟨h.1, h.2.1⟩
end Go.Proofs.YtgpdgegelipboaaDoor.Lp
namespace Go.Proofs.YtgpdgegelipboaaDoor.Lp
open Go.RowKit Go.Proofs.YtgpdgegelipboaaDoor.Fx Go.Proofs.YtgpdgegelipboaaDoor.Fq Go.Proofs.YtgpdgegelipboaaDoor.Tb
theorem ri {k : IntKind} {a b : Int} (h : a = b) : Ending.returned (.int k a) = .returned (.int k b) := by rw [h]
set_option maxRecDepth 100000 in
set_option maxHeartbeats 4000000 in
theorem held_any (l : List Int) (w : World) (ll : l.length = 6) :
    Calls Tryd.prog 33 #[.agg (icells l)] w (ValQ w (.agg (icells (heldL l)))) := by
  have LL := Lib.hid ll
  have HM := Lib.hid (Mem.start w)
  clear ll
  go_enter Tryd.func33, Tryd.ntmps33
  go_wp2_with (first | ((first | refine wl_box rfl _ _ rfl rfl HM ?_ | refine wl_alloc rfl _ rfl (by exact arrOf) HM ?_); first | (have q : dL HM = 0 := rfl; clear q HM; intro g1 u1 HM) | (have q : dL HM = 1 := rfl; clear q HM; intro g2 u2 HM) | (have q : dL HM = 2 := rfl; clear q HM; intro g3 u3 HM) | (have q : dL HM = 3 := rfl; clear q HM; intro g4 u4 HM) | (have q : dL HM = 4 := rfl; clear q HM; intro g5 u5 HM) | (have q : dL HM = 5 := rfl; clear q HM; intro g6 u6 HM) | (have q : dL HM = 6 := rfl; clear q HM; intro g7 u7 HM) | (have q : dL HM = 7 := rfl; clear q HM; intro g8 u8 HM) | (have q : dL HM = 8 := rfl; clear q HM; intro g9 u9 HM) | (have q : dL HM = 9 := rfl; clear q HM; intro g10 u10 HM) | (have q : dL HM = 10 := rfl; clear q HM; intro g11 u11 HM) | (have q : dL HM = 11 := rfl; clear q HM; intro g12 u12 HM) | (have q : dL HM = 12 := rfl; clear q HM; intro g13 u13 HM) | (have q : dL HM = 13 := rfl; clear q HM; intro g14 u14 HM)) | (refine wl_load rfl _ _ rfl rfl (by exact arrOf) HM (by exact memOf) (by exact lenOf) ?_) | (refine wl_storeM rfl _ _ _ rfl rfl rfl (by exact arrOf) HM (by exact idxOf) (by exact lenOf) (by exact lenOf) ?_; clear HM; intro us HM; dsimp only [List.set] at HM) | (refine wl_zero rfl _ rfl (by exact arrOf) (by kernel_rfl) ?_))
  go_loopw [6] (fun vi wr => ∃ k : Nat, k ≤ 6 ∧ vi = .int .i64 (k : Int) ∧ Hid (Mem w [(g2, 23, zr 6), (g1, 23, tab 6 (part2 k (fun b => max 0 (min (l.getD b 0) 255)) (fun b => l.getD b 0)))] wr)) (fun vi _ => 6 - (intOf vi).toNat)
  case atStart => exact ⟨0, by omega, rfl, Lib.hid (by rw [part2_none, tab_self LL.out]; exact HM.out)⟩
  case round =>
    clear HM
    obtain ⟨k, hk, rfl, HM⟩ := hrel
    by_cases hlt : k < 6
    · have k6 : (k : Int) < 6 := by omega
      have hix := run_index 23 (n := 6) (by kernel_rfl) l LL.out k hlt
      have S1 := Lib.hid (part2_set (n := 6) (k := k) (fun b => max 0 (min (l.getD b 0) 255)) (fun b => l.getD b 0))
      have c3 := HM.out.cell (.tail _ (.head _)) (k := k) (by rw [tab_length]; omega)
      have f3 := HM.out.free (.tail _ (.head _)) k
      generalize List.getD (tab 6 _) k 0 = o at c3
      generalize l.getD k 0 = v at hix S1
      go_wp2
      have HM3 := Lib.hid (HM.out.put 1 rfl k (max 0 (min v 255)))
      simp only [List.set_cons_zero, List.set_cons_succ] at HM3
      rw [S1.out] at HM3
      clear HM c3 f3
      go_roundw
      case rel => exact ⟨k + 1, by omega, by go_num, HM3⟩
      case measure => simp [intOf]; omega
    · obtain rfl : k = 6 := by omega
      rw [part2_all] at HM
      have LO := Lib.hid (show (heldL l).length = 6 from tab_length _ _)
      change Hid (Mem w [(g2, 23, zr 6), (g1, 23, heldL l)] wr) at HM
      go_wp2_with (first | ((first | refine wl_box rfl _ _ rfl rfl HM ?_ | refine wl_alloc rfl _ rfl (by exact arrOf) HM ?_); first | (have q : dL HM = 0 := rfl; clear q HM; intro g1 u1 HM) | (have q : dL HM = 1 := rfl; clear q HM; intro g2 u2 HM) | (have q : dL HM = 2 := rfl; clear q HM; intro g3 u3 HM) | (have q : dL HM = 3 := rfl; clear q HM; intro g4 u4 HM) | (have q : dL HM = 4 := rfl; clear q HM; intro g5 u5 HM) | (have q : dL HM = 5 := rfl; clear q HM; intro g6 u6 HM) | (have q : dL HM = 6 := rfl; clear q HM; intro g7 u7 HM) | (have q : dL HM = 7 := rfl; clear q HM; intro g8 u8 HM) | (have q : dL HM = 8 := rfl; clear q HM; intro g9 u9 HM) | (have q : dL HM = 9 := rfl; clear q HM; intro g10 u10 HM) | (have q : dL HM = 10 := rfl; clear q HM; intro g11 u11 HM) | (have q : dL HM = 11 := rfl; clear q HM; intro g12 u12 HM) | (have q : dL HM = 12 := rfl; clear q HM; intro g13 u13 HM) | (have q : dL HM = 13 := rfl; clear q HM; intro g14 u14 HM)) | (refine wl_load rfl _ _ rfl rfl (by exact arrOf) HM (by exact memOf) (by exact lenOf) ?_) | (refine wl_storeM rfl _ _ _ rfl rfl rfl (by exact arrOf) HM (by exact idxOf) (by exact lenOf) (by exact lenOf) ?_; clear HM; intro us HM; dsimp only [List.set] at HM) | (refine wl_zero rfl _ rfl (by exact arrOf) (by kernel_rfl) ?_))
      refine bodyPost_ret (v := .agg (icells (heldL l))) (res_one rfl _ rfl arrLev HM (by exact memOf) LO) rfl ⟨rfl, HM.out.1⟩
set_option maxRecDepth 100000 in
set_option maxHeartbeats 4000000 in
theorem bcheck_any (l : List Int) (c : Bool) (z : Int) (w : World) (ll : l.length = 6) (hc : chkL l = c) (hz : (if c = true then 0 else 1) = z) :
    Calls Tryd.prog 17 #[.agg (icells l)] w (ValQ w (.int .i64 z)) := by
  have LL := Lib.hid ll
  have HM := Lib.hid (Mem.start w)
  have HH := Lib.hid (fun u => held_any l u ll)
  have LH := Lib.hid (show (heldL l).length = 6 from tab_length _ _)
  have hgd := grdLev
  cases c with
  | true =>
    obtain rfl : z = 0 := by rw [← hz]; rfl
    have heq := fun u => run_equalIn_same 23 (n := 6) (by kernel_rfl) l ll u
    rw [(held_iff ll).2 hc] at HH LH
    clear ll hc hz
    go_enter Tryd.func17, Tryd.ntmps17
    go_wp2_with (first | ((first | refine wl_box rfl _ _ rfl rfl HM ?_ | refine wl_alloc rfl _ rfl (by exact arrOf) HM ?_); first | (have q : dL HM = 0 := rfl; clear q HM; intro g1 u1 HM) | (have q : dL HM = 1 := rfl; clear q HM; intro g2 u2 HM) | (have q : dL HM = 2 := rfl; clear q HM; intro g3 u3 HM) | (have q : dL HM = 3 := rfl; clear q HM; intro g4 u4 HM) | (have q : dL HM = 4 := rfl; clear q HM; intro g5 u5 HM) | (have q : dL HM = 5 := rfl; clear q HM; intro g6 u6 HM) | (have q : dL HM = 6 := rfl; clear q HM; intro g7 u7 HM) | (have q : dL HM = 7 := rfl; clear q HM; intro g8 u8 HM) | (have q : dL HM = 8 := rfl; clear q HM; intro g9 u9 HM) | (have q : dL HM = 9 := rfl; clear q HM; intro g10 u10 HM) | (have q : dL HM = 10 := rfl; clear q HM; intro g11 u11 HM) | (have q : dL HM = 11 := rfl; clear q HM; intro g12 u12 HM) | (have q : dL HM = 12 := rfl; clear q HM; intro g13 u13 HM) | (have q : dL HM = 13 := rfl; clear q HM; intro g14 u14 HM)) | (refine wl_load rfl _ _ rfl rfl (by exact arrOf) HM (by exact memOf) (by exact lenOf) ?_) | (refine wl_storeM rfl _ _ _ rfl rfl rfl (by exact arrOf) HM (by exact idxOf) (by exact lenOf) (by exact lenOf) ?_; clear HM; intro us HM; dsimp only [List.set] at HM) | (refine wl_zero rfl _ rfl (by exact arrOf) (by kernel_rfl) ?_))
    refine wp_region_held_drew (S := Mem w [(g1, 23, l)]) (by kernel_rfl) (HM.out.drew.sub (by exact subOf)) (fun hHeld => ?_)
    have HMd := Lib.hid HM.out.drew
    clear HM
    have HM := HMd
    clear HMd
    generalize World.drew _ = wd at HM hHeld ⊢
    (refine wa_take (i := 0) rfl (by kernel_rfl) (by kernel_rfl) (by kernel_rfl) (fun _ _ _ h => h) (yi_load rfl _ _ rfl rfl (by exact arrOf) (fun u hu => hu) (by exact memOf) (by exact lenOf)) hHeld rfl ?_; (try simp only [Act.put, List.setIfInBounds_toArray, List.set_cons_zero, List.set_cons_succ]))
    (refine wa_take (i := 2) rfl (by kernel_rfl) (by kernel_rfl) (by kernel_rfl) (fun _ _ _ h => h) (yi_load rfl _ _ rfl rfl (by exact arrOf) (fun u hu => hu) (by exact memOf) (by exact lenOf)) hHeld rfl ?_; (try simp only [Act.put, List.setIfInBounds_toArray, List.set_cons_zero, List.set_cons_succ]))
    refine wpAnyH_ready (rs := [1]) (by kernel_rfl) (by simp) ?_; refine AllReadyH.cons rfl (fun K hK => ?_) (AllReadyH.nil)
    rw [if_pos (by rfl)]; go_simp
    refine (HH.out _).mono ?_
    rintro e wb ⟨rfl, h1⟩
    have HM2 := Lib.hid (HM.out.below h1)
    clear h1 HM HH hHeld
    have HM := HM2
    clear HM2
    go_wp2_with fail; refine hK.out _ _ (HM.out.sub (by exact subOf)) (fun hHeld => ?_); clear hK K; (try simp only [Act.put, List.setIfInBounds_toArray, List.set_cons_zero, List.set_cons_succ])
    (refine wa_take (i := 3) (v := .bool false) rfl (by kernel_rfl) (by kernel_rfl) (by kernel_rfl) (fun _ _ _ h => h) (yi_free rfl (fun u => by go_simp)) hHeld rfl ?_; (try simp only [Act.put, List.setIfInBounds_toArray, List.set_cons_zero, List.set_cons_succ]))
    refine wpAnyH_done (by kernel_rfl) ?_ _
    go_wp2
    go_ret
    exact ⟨rfl, HM.out.1⟩
  | false =>
    obtain rfl : z = 1 := by rw [← hz]; rfl
    have heq := fun u => run_equalIn_diff 23 (n := 6) (by kernel_rfl) (heldL l) l LH.out ll (fun e => by rw [(held_iff ll).1 e] at hc; cases hc) u
    clear ll hc hz
    generalize heldL l = m at HH LH heq
    go_enter Tryd.func17, Tryd.ntmps17
    go_wp2_with (first | ((first | refine wl_box rfl _ _ rfl rfl HM ?_ | refine wl_alloc rfl _ rfl (by exact arrOf) HM ?_); first | (have q : dL HM = 0 := rfl; clear q HM; intro g1 u1 HM) | (have q : dL HM = 1 := rfl; clear q HM; intro g2 u2 HM) | (have q : dL HM = 2 := rfl; clear q HM; intro g3 u3 HM) | (have q : dL HM = 3 := rfl; clear q HM; intro g4 u4 HM) | (have q : dL HM = 4 := rfl; clear q HM; intro g5 u5 HM) | (have q : dL HM = 5 := rfl; clear q HM; intro g6 u6 HM) | (have q : dL HM = 6 := rfl; clear q HM; intro g7 u7 HM) | (have q : dL HM = 7 := rfl; clear q HM; intro g8 u8 HM) | (have q : dL HM = 8 := rfl; clear q HM; intro g9 u9 HM) | (have q : dL HM = 9 := rfl; clear q HM; intro g10 u10 HM) | (have q : dL HM = 10 := rfl; clear q HM; intro g11 u11 HM) | (have q : dL HM = 11 := rfl; clear q HM; intro g12 u12 HM) | (have q : dL HM = 12 := rfl; clear q HM; intro g13 u13 HM) | (have q : dL HM = 13 := rfl; clear q HM; intro g14 u14 HM)) | (refine wl_load rfl _ _ rfl rfl (by exact arrOf) HM (by exact memOf) (by exact lenOf) ?_) | (refine wl_storeM rfl _ _ _ rfl rfl rfl (by exact arrOf) HM (by exact idxOf) (by exact lenOf) (by exact lenOf) ?_; clear HM; intro us HM; dsimp only [List.set] at HM) | (refine wl_zero rfl _ rfl (by exact arrOf) (by kernel_rfl) ?_))
    refine wp_region_held_drew (S := Mem w [(g1, 23, l)]) (by kernel_rfl) (HM.out.drew.sub (by exact subOf)) (fun hHeld => ?_)
    have HMd := Lib.hid HM.out.drew
    clear HM
    have HM := HMd
    clear HMd
    generalize World.drew _ = wd at HM hHeld ⊢
    (refine wa_take (i := 0) rfl (by kernel_rfl) (by kernel_rfl) (by kernel_rfl) (fun _ _ _ h => h) (yi_load rfl _ _ rfl rfl (by exact arrOf) (fun u hu => hu) (by exact memOf) (by exact lenOf)) hHeld rfl ?_; (try simp only [Act.put, List.setIfInBounds_toArray, List.set_cons_zero, List.set_cons_succ]))
    (refine wa_take (i := 2) rfl (by kernel_rfl) (by kernel_rfl) (by kernel_rfl) (fun _ _ _ h => h) (yi_load rfl _ _ rfl rfl (by exact arrOf) (fun u hu => hu) (by exact memOf) (by exact lenOf)) hHeld rfl ?_; (try simp only [Act.put, List.setIfInBounds_toArray, List.set_cons_zero, List.set_cons_succ]))
    refine wpAnyH_ready (rs := [1]) (by kernel_rfl) (by simp) ?_; refine AllReadyH.cons rfl (fun K hK => ?_) (AllReadyH.nil)
    rw [if_pos (by rfl)]; go_simp
    refine (HH.out _).mono ?_
    rintro e wb ⟨rfl, h1⟩
    have HM2 := Lib.hid (HM.out.below h1)
    clear h1 HM HH hHeld
    have HM := HM2
    clear HM2
    go_wp2_with fail; refine hK.out _ _ (HM.out.sub (by exact subOf)) (fun hHeld => ?_); clear hK K; (try simp only [Act.put, List.setIfInBounds_toArray, List.set_cons_zero, List.set_cons_succ])
    (refine wa_take (i := 3) (v := .bool true) rfl (by kernel_rfl) (by kernel_rfl) (by kernel_rfl) (fun _ _ _ h => h) (yi_free rfl (fun u => by go_simp)) hHeld rfl ?_; (try simp only [Act.put, List.setIfInBounds_toArray, List.set_cons_zero, List.set_cons_succ]))
    refine wpAnyH_done (by kernel_rfl) ?_ _
    go_wp2
    go_ret
    exact ⟨rfl, HM.out.1⟩
set_option maxRecDepth 100000 in
set_option maxHeartbeats 4000000 in
theorem drowned_any (l : List Int) (b : Nat) (w : World) (ll : l.length = 6) (hc : chkL l = true) (hb : b < 6) :
    Calls Tryd.prog 63 #[.agg (icells l), .int .i64 (b : Int)] w (ValQ w (.int .i64 (mkN l b 6))) := by
  have LL := Lib.hid ll
  have HC := Lib.hid hc
  have HM := Lib.hid (Mem.start w)
  have b6 : (b : Int) < 6 := by omega
  clear ll hc
  go_enter Tryd.func63, Tryd.ntmps63
  go_wp2_with (first | ((first | refine wl_box rfl _ _ rfl rfl HM ?_ | refine wl_alloc rfl _ rfl (by exact arrOf) HM ?_); first | (have q : dL HM = 0 := rfl; clear q HM; intro g1 u1 HM) | (have q : dL HM = 1 := rfl; clear q HM; intro g2 u2 HM) | (have q : dL HM = 2 := rfl; clear q HM; intro g3 u3 HM) | (have q : dL HM = 3 := rfl; clear q HM; intro g4 u4 HM) | (have q : dL HM = 4 := rfl; clear q HM; intro g5 u5 HM) | (have q : dL HM = 5 := rfl; clear q HM; intro g6 u6 HM) | (have q : dL HM = 6 := rfl; clear q HM; intro g7 u7 HM) | (have q : dL HM = 7 := rfl; clear q HM; intro g8 u8 HM) | (have q : dL HM = 8 := rfl; clear q HM; intro g9 u9 HM) | (have q : dL HM = 9 := rfl; clear q HM; intro g10 u10 HM) | (have q : dL HM = 10 := rfl; clear q HM; intro g11 u11 HM) | (have q : dL HM = 11 := rfl; clear q HM; intro g12 u12 HM) | (have q : dL HM = 12 := rfl; clear q HM; intro g13 u13 HM) | (have q : dL HM = 13 := rfl; clear q HM; intro g14 u14 HM)) | (refine wl_load rfl _ _ rfl rfl (by exact arrOf) HM (by exact memOf) (by exact lenOf) ?_) | (refine wl_storeM rfl _ _ _ rfl rfl rfl (by exact arrOf) HM (by exact idxOf) (by exact lenOf) (by exact lenOf) ?_; clear HM; intro us HM; dsimp only [List.set] at HM) | (refine wl_zero rfl _ rfl (by exact arrOf) (by kernel_rfl) ?_))
  go_loop [5, 10] (fun vm vi => ∃ k : Nat, k ≤ 6 ∧ vi = .int .i64 (k : Int) ∧ vm = .int .i64 (mkN l b k)) (fun _ vi => 6 - (intOf vi).toNat)
  case atStart => exact ⟨0, by omega, rfl, rfl⟩
  case round =>
    obtain ⟨k, hk, rfl, rfl⟩ := hrel
    by_cases hlt : k < 6
    · have k6 : (k : Int) < 6 := by omega
      have hix := run_index 23 (n := 6) (by kernel_rfl) l LL.out k hlt
      have hv := inR_bd HC.out (by omega) (by omega) k
      have hm := mkN_bd HC.out b k
      by_cases hkb : k = b
      · subst hkb
        have HS := Lib.hid (mkN_self l k)
        have hd : ((k : Int) == (k : Int)) = true := by simp
        generalize mkN l k k = M at hm HS
        generalize l.getD k 0 = v at hix hv
        clear hv hm
        go_wp2
        go_round
        case rel => exact ⟨k + 1, by omega, by go_num, by rw [HS.out]⟩
        case measure => simp [intOf]; omega
      · obtain ⟨D, hD⟩ : ∃ D : Int, max ((k : Int) - (b : Int)) ((b : Int) - (k : Int)) = D := ⟨_, rfl⟩
        have HS := Lib.hid (show mkN l b (k + 1) = max (mkN l b k) (l.getD k 0 - 12 * D - 8) by rw [← hD]; exact mkN_other l hkb)
        have d1 : 0 ≤ D := by omega
        have d2 : D ≤ 5 := by omega
        have hd : ((k : Int) == (b : Int)) = false := by simpa using fun h => hkb (by omega)
        generalize mkN l b k = M at hm HS
        generalize l.getD k 0 = v at hix hv HS
        obtain ⟨hv1, hv2⟩ := hv
        obtain ⟨hm1, hm2⟩ := hm
        clear hkb
        go_wp2
        go_round
        case rel => exact ⟨k + 1, by omega, by go_num, by rw [HS.out]⟩
        case measure => simp [intOf]; omega
    · obtain rfl : k = 6 := by omega
      go_wp2
      go_ret
      exact ⟨rfl, HM.out.1⟩
set_option maxRecDepth 100000 in
set_option maxHeartbeats 4000000 in
theorem mask_bad (l : List Int) (w : World) (ll : l.length = 6) (hc : chkL l = false) :
    Calls Tryd.prog 41 #[.agg (icells l)] w (ValQ w (.tuple #[.agg (icells (zr 6)), .int .i64 1])) := by
  have LL := Lib.hid ll
  have LZ := Lib.hid (zr_length 6)
  have HM := Lib.hid (Mem.start w)
  have HC := Lib.hid (fun u => bcheck_any l false 1 u ll hc rfl)
  clear ll hc
  go_enter Tryd.func41, Tryd.ntmps41
  go_wp2_with (first | ((first | refine wl_box rfl _ _ rfl rfl HM ?_ | refine wl_alloc rfl _ rfl (by exact arrOf) HM ?_); first | (have q : dL HM = 0 := rfl; clear q HM; intro g1 u1 HM) | (have q : dL HM = 1 := rfl; clear q HM; intro g2 u2 HM) | (have q : dL HM = 2 := rfl; clear q HM; intro g3 u3 HM) | (have q : dL HM = 3 := rfl; clear q HM; intro g4 u4 HM) | (have q : dL HM = 4 := rfl; clear q HM; intro g5 u5 HM) | (have q : dL HM = 5 := rfl; clear q HM; intro g6 u6 HM) | (have q : dL HM = 6 := rfl; clear q HM; intro g7 u7 HM) | (have q : dL HM = 7 := rfl; clear q HM; intro g8 u8 HM) | (have q : dL HM = 8 := rfl; clear q HM; intro g9 u9 HM) | (have q : dL HM = 9 := rfl; clear q HM; intro g10 u10 HM) | (have q : dL HM = 10 := rfl; clear q HM; intro g11 u11 HM) | (have q : dL HM = 11 := rfl; clear q HM; intro g12 u12 HM) | (have q : dL HM = 12 := rfl; clear q HM; intro g13 u13 HM) | (have q : dL HM = 13 := rfl; clear q HM; intro g14 u14 HM)) | (refine wl_load rfl _ _ rfl rfl (by exact arrOf) HM (by exact memOf) (by exact lenOf) ?_) | (refine wl_storeM rfl _ _ _ rfl rfl rfl (by exact arrOf) HM (by exact idxOf) (by exact lenOf) (by exact lenOf) ?_; clear HM; intro us HM; dsimp only [List.set] at HM) | (refine wl_zero rfl _ rfl (by exact arrOf) (by kernel_rfl) ?_))
  refine (HC.out _).mono ?_
  rintro e w2 ⟨rfl, h1⟩
  have HM2 := Lib.hid (HM.out.below h1)
  clear h1 HM HC
  have HM := HM2
  clear HM2
  go_wp2_with (first | ((first | refine wl_box rfl _ _ rfl rfl HM ?_ | refine wl_alloc rfl _ rfl (by exact arrOf) HM ?_); first | (have q : dL HM = 0 := rfl; clear q HM; intro g1 u1 HM) | (have q : dL HM = 1 := rfl; clear q HM; intro g2 u2 HM) | (have q : dL HM = 2 := rfl; clear q HM; intro g3 u3 HM) | (have q : dL HM = 3 := rfl; clear q HM; intro g4 u4 HM) | (have q : dL HM = 4 := rfl; clear q HM; intro g5 u5 HM) | (have q : dL HM = 5 := rfl; clear q HM; intro g6 u6 HM) | (have q : dL HM = 6 := rfl; clear q HM; intro g7 u7 HM) | (have q : dL HM = 7 := rfl; clear q HM; intro g8 u8 HM) | (have q : dL HM = 8 := rfl; clear q HM; intro g9 u9 HM) | (have q : dL HM = 9 := rfl; clear q HM; intro g10 u10 HM) | (have q : dL HM = 10 := rfl; clear q HM; intro g11 u11 HM) | (have q : dL HM = 11 := rfl; clear q HM; intro g12 u12 HM) | (have q : dL HM = 12 := rfl; clear q HM; intro g13 u13 HM) | (have q : dL HM = 13 := rfl; clear q HM; intro g14 u14 HM)) | (refine wl_load rfl _ _ rfl rfl (by exact arrOf) HM (by exact memOf) (by exact lenOf) ?_) | (refine wl_storeM rfl _ _ _ rfl rfl rfl (by exact arrOf) HM (by exact idxOf) (by exact lenOf) (by exact lenOf) ?_; clear HM; intro us HM; dsimp only [List.set] at HM) | (refine wl_zero rfl _ rfl (by exact arrOf) (by kernel_rfl) ?_))
  refine bodyPost_ret (v := .tuple #[.agg (icells (zr 6)), .int .i64 1]) (res_two rfl _ rfl rfl arrLev HM (by exact memOf) LZ) rfl ⟨rfl, HM.out.1⟩
set_option maxRecDepth 100000 in
set_option maxHeartbeats 4000000 in
theorem mask_good (l : List Int) (w : World) (ll : l.length = 6) (hc : chkL l = true) :
    Calls Tryd.prog 41 #[.agg (icells l)] w (ValQ w (.tuple #[.agg (icells (maskL l)), .int .i64 0])) := by
  have LL := Lib.hid ll
  have LZ := Lib.hid (zr_length 6)
  have HM := Lib.hid (Mem.start w)
  have HC := Lib.hid (fun u => bcheck_any l true 0 u ll hc rfl)
  have HD := Lib.hid (fun b u hb => drowned_any l b u ll hc hb)
  clear ll hc
  go_enter Tryd.func41, Tryd.ntmps41
  go_wp2_with (first | ((first | refine wl_box rfl _ _ rfl rfl HM ?_ | refine wl_alloc rfl _ rfl (by exact arrOf) HM ?_); first | (have q : dL HM = 0 := rfl; clear q HM; intro g1 u1 HM) | (have q : dL HM = 1 := rfl; clear q HM; intro g2 u2 HM) | (have q : dL HM = 2 := rfl; clear q HM; intro g3 u3 HM) | (have q : dL HM = 3 := rfl; clear q HM; intro g4 u4 HM) | (have q : dL HM = 4 := rfl; clear q HM; intro g5 u5 HM) | (have q : dL HM = 5 := rfl; clear q HM; intro g6 u6 HM) | (have q : dL HM = 6 := rfl; clear q HM; intro g7 u7 HM) | (have q : dL HM = 7 := rfl; clear q HM; intro g8 u8 HM) | (have q : dL HM = 8 := rfl; clear q HM; intro g9 u9 HM) | (have q : dL HM = 9 := rfl; clear q HM; intro g10 u10 HM) | (have q : dL HM = 10 := rfl; clear q HM; intro g11 u11 HM) | (have q : dL HM = 11 := rfl; clear q HM; intro g12 u12 HM) | (have q : dL HM = 12 := rfl; clear q HM; intro g13 u13 HM) | (have q : dL HM = 13 := rfl; clear q HM; intro g14 u14 HM)) | (refine wl_load rfl _ _ rfl rfl (by exact arrOf) HM (by exact memOf) (by exact lenOf) ?_) | (refine wl_storeM rfl _ _ _ rfl rfl rfl (by exact arrOf) HM (by exact idxOf) (by exact lenOf) (by exact lenOf) ?_; clear HM; intro us HM; dsimp only [List.set] at HM) | (refine wl_zero rfl _ rfl (by exact arrOf) (by kernel_rfl) ?_))
  refine (HC.out _).mono ?_
  rintro e w2 ⟨rfl, h1⟩
  have HM2 := Lib.hid (HM.out.below h1)
  clear h1 HM HC
  have HM := HM2
  clear HM2
  go_wp2_with (first | ((first | refine wl_box rfl _ _ rfl rfl HM ?_ | refine wl_alloc rfl _ rfl (by exact arrOf) HM ?_); first | (have q : dL HM = 0 := rfl; clear q HM; intro g1 u1 HM) | (have q : dL HM = 1 := rfl; clear q HM; intro g2 u2 HM) | (have q : dL HM = 2 := rfl; clear q HM; intro g3 u3 HM) | (have q : dL HM = 3 := rfl; clear q HM; intro g4 u4 HM) | (have q : dL HM = 4 := rfl; clear q HM; intro g5 u5 HM) | (have q : dL HM = 5 := rfl; clear q HM; intro g6 u6 HM) | (have q : dL HM = 6 := rfl; clear q HM; intro g7 u7 HM) | (have q : dL HM = 7 := rfl; clear q HM; intro g8 u8 HM) | (have q : dL HM = 8 := rfl; clear q HM; intro g9 u9 HM) | (have q : dL HM = 9 := rfl; clear q HM; intro g10 u10 HM) | (have q : dL HM = 10 := rfl; clear q HM; intro g11 u11 HM) | (have q : dL HM = 11 := rfl; clear q HM; intro g12 u12 HM) | (have q : dL HM = 12 := rfl; clear q HM; intro g13 u13 HM) | (have q : dL HM = 13 := rfl; clear q HM; intro g14 u14 HM)) | (refine wl_load rfl _ _ rfl rfl (by exact arrOf) HM (by exact memOf) (by exact lenOf) ?_) | (refine wl_storeM rfl _ _ _ rfl rfl rfl (by exact arrOf) HM (by exact idxOf) (by exact lenOf) (by exact lenOf) ?_; clear HM; intro us HM; dsimp only [List.set] at HM) | (refine wl_zero rfl _ rfl (by exact arrOf) (by kernel_rfl) ?_))
  go_loopw [10] (fun vi wr => ∃ k : Nat, k ≤ 6 ∧ vi = .int .i64 (k : Int) ∧ Hid (Mem w [(g3, 23, tab 6 (part2 k (fun b => mkN l b 6) (fun _ => 0))), (g2, 23, zr 6), (g1, 23, l)] wr)) (fun vi _ => 6 - (intOf vi).toNat)
  case atStart => exact ⟨0, by omega, rfl, Lib.hid (by rw [part2_none, tab_zero]; exact HM.out)⟩
  case round =>
    clear HM
    obtain ⟨k, hk, rfl, HM⟩ := hrel
    by_cases hlt : k < 6
    · have k6 : (k : Int) < 6 := by omega
      go_wp2_with (first | ((first | refine wl_box rfl _ _ rfl rfl HM ?_ | refine wl_alloc rfl _ rfl (by exact arrOf) HM ?_); first | (have q : dL HM = 0 := rfl; clear q HM; intro g1 u1 HM) | (have q : dL HM = 1 := rfl; clear q HM; intro g2 u2 HM) | (have q : dL HM = 2 := rfl; clear q HM; intro g3 u3 HM) | (have q : dL HM = 3 := rfl; clear q HM; intro g4 u4 HM) | (have q : dL HM = 4 := rfl; clear q HM; intro g5 u5 HM) | (have q : dL HM = 5 := rfl; clear q HM; intro g6 u6 HM) | (have q : dL HM = 6 := rfl; clear q HM; intro g7 u7 HM) | (have q : dL HM = 7 := rfl; clear q HM; intro g8 u8 HM) | (have q : dL HM = 8 := rfl; clear q HM; intro g9 u9 HM) | (have q : dL HM = 9 := rfl; clear q HM; intro g10 u10 HM) | (have q : dL HM = 10 := rfl; clear q HM; intro g11 u11 HM) | (have q : dL HM = 11 := rfl; clear q HM; intro g12 u12 HM) | (have q : dL HM = 12 := rfl; clear q HM; intro g13 u13 HM) | (have q : dL HM = 13 := rfl; clear q HM; intro g14 u14 HM)) | (refine wl_load rfl _ _ rfl rfl (by exact arrOf) HM (by exact memOf) (by exact lenOf) ?_) | (refine wl_storeM rfl _ _ _ rfl rfl rfl (by exact arrOf) HM (by exact idxOf) (by exact lenOf) (by exact lenOf) ?_; clear HM; intro us HM; dsimp only [List.set] at HM) | (refine wl_zero rfl _ rfl (by exact arrOf) (by kernel_rfl) ?_))
      refine (HD.out k _ hlt).mono ?_
      rintro e wb ⟨rfl, h1⟩
      have HM2 := Lib.hid (HM.out.below h1)
      clear h1 HM
      have HM := HM2
      clear HM2
      have S1 := Lib.hid (part2_set (n := 6) (k := k) (fun b => mkN l b 6) (fun _ => 0))
      have c3 := HM.out.cell (.head _) (k := k) (by rw [tab_length]; omega)
      have f3 := HM.out.free (.head _) k
      generalize List.getD (tab 6 _) k 0 = o at c3
      generalize mkN l k 6 = q at S1
      go_wp2
      have HM3 := Lib.hid (HM.out.put 0 rfl k q)
      simp only [List.set_cons_zero] at HM3
      rw [S1.out] at HM3
      clear HM c3 f3
      go_roundw
      case rel => exact ⟨k + 1, by omega, by go_num, HM3⟩
      case measure => simp [intOf]; omega
    · obtain rfl : k = 6 := by omega
      rw [part2_all] at HM
      have LO := Lib.hid (maskL_length l)
      change Hid (Mem w [(g3, 23, maskL l), (g2, 23, zr 6), (g1, 23, l)] wr) at HM
      go_wp2_with (first | ((first | refine wl_box rfl _ _ rfl rfl HM ?_ | refine wl_alloc rfl _ rfl (by exact arrOf) HM ?_); first | (have q : dL HM = 0 := rfl; clear q HM; intro g1 u1 HM) | (have q : dL HM = 1 := rfl; clear q HM; intro g2 u2 HM) | (have q : dL HM = 2 := rfl; clear q HM; intro g3 u3 HM) | (have q : dL HM = 3 := rfl; clear q HM; intro g4 u4 HM) | (have q : dL HM = 4 := rfl; clear q HM; intro g5 u5 HM) | (have q : dL HM = 5 := rfl; clear q HM; intro g6 u6 HM) | (have q : dL HM = 6 := rfl; clear q HM; intro g7 u7 HM) | (have q : dL HM = 7 := rfl; clear q HM; intro g8 u8 HM) | (have q : dL HM = 8 := rfl; clear q HM; intro g9 u9 HM) | (have q : dL HM = 9 := rfl; clear q HM; intro g10 u10 HM) | (have q : dL HM = 10 := rfl; clear q HM; intro g11 u11 HM) | (have q : dL HM = 11 := rfl; clear q HM; intro g12 u12 HM) | (have q : dL HM = 12 := rfl; clear q HM; intro g13 u13 HM) | (have q : dL HM = 13 := rfl; clear q HM; intro g14 u14 HM)) | (refine wl_load rfl _ _ rfl rfl (by exact arrOf) HM (by exact memOf) (by exact lenOf) ?_) | (refine wl_storeM rfl _ _ _ rfl rfl rfl (by exact arrOf) HM (by exact idxOf) (by exact lenOf) (by exact lenOf) ?_; clear HM; intro us HM; dsimp only [List.set] at HM) | (refine wl_zero rfl _ rfl (by exact arrOf) (by kernel_rfl) ?_))
      refine bodyPost_ret (v := .tuple #[.agg (icells (maskL l)), .int .i64 0]) (res_two rfl _ rfl rfl arrLev HM (by exact memOf) LO) rfl ⟨rfl, HM.out.1⟩
end Go.Proofs.YtgpdgegelipboaaDoor.Lp
namespace Go.Proofs.YtgpdgegelipboaaDoor.Lp
open Go.RowKit Go.Proofs.YtgpdgegelipboaaDoor.Fx Go.Proofs.YtgpdgegelipboaaDoor.Fq Go.Proofs.YtgpdgegelipboaaDoor.Tb
theorem wished_any (v m : Int) (w : World) (h1 : 0 ≤ v) (h2 : v ≤ 255) (h3 : 0 ≤ m) (h4 : m ≤ 255) :
    Calls Tryd.prog 42 #[.int .i64 v, .int .i64 m] w fun e w' => e = .returned (.int .i64 (wishI v m)) ∧ w = w' := by
  by_cases h : v ≤ m
  · have HV := Lib.hid (show wishI v m = 0 from if_pos h)
    go_enter Tryd.func42, Tryd.ntmps42
    go_wp2
    go_ret
    exact ⟨ri HV.out.symm, rfl⟩
  · have HV := Lib.hid (show wishI v m = min ((v - m + 8 - 1) / 8) 7 by
      unfold wishI; rw [if_neg h]; omega)
    have h5 : m < v := by omega
    clear h
    go_enter Tryd.func42, Tryd.ntmps42
    go_wp2
    go_ret
    exact ⟨ri HV.out.symm, rfl⟩
theorem costN_bd {a : List Int} (h : OkA a) : ∀ k, k ≤ 6 → 0 ≤ costN a k ∧ costN a k ≤ 112 * (k : Int)
  | 0, _ => by simp [costN, sumN]
  | k + 1, hk => by
    have ih := costN_bd h k (by omega)
    have hv := h.2 k (by omega)
    have he := edg_all k (by omega)
    have hm := mul_bd (x := a.getD k 0) (y := (edg (k + 1) : Int) - (edg k : Int)) (A := 7) (B := 16) (by omega) (by omega) (by omega) (by omega)
    have hp := Int.mul_nonneg hv.1 (show 0 ≤ (edg (k + 1) : Int) - (edg k : Int) by omega)
    unfold costN at ih ⊢
    rw [sumN_succ]
    omega
set_option maxRecDepth 100000 in
set_option maxHeartbeats 4000000 in
theorem cost_any (a : List Int) (w : World) (ha : OkA a) (he : Edg w) :
    Calls Tryd.prog 65 #[.agg (icells a)] w (ValQ w (.int .i64 (costL a))) := by
  have HA := Lib.hid ha
  have LA := Lib.hid ha.1
  have HE := Lib.hid he
  have HM := Lib.hid (Mem.start w)
  clear ha he
  go_enter Tryd.func65, Tryd.ntmps65
  go_wp2_with (first | ((first | refine wl_box rfl _ _ rfl rfl HM ?_ | refine wl_alloc rfl _ rfl (by exact arrOf) HM ?_); first | (have q : dL HM = 0 := rfl; clear q HM; intro g1 u1 HM) | (have q : dL HM = 1 := rfl; clear q HM; intro g2 u2 HM) | (have q : dL HM = 2 := rfl; clear q HM; intro g3 u3 HM) | (have q : dL HM = 3 := rfl; clear q HM; intro g4 u4 HM) | (have q : dL HM = 4 := rfl; clear q HM; intro g5 u5 HM) | (have q : dL HM = 5 := rfl; clear q HM; intro g6 u6 HM) | (have q : dL HM = 6 := rfl; clear q HM; intro g7 u7 HM) | (have q : dL HM = 7 := rfl; clear q HM; intro g8 u8 HM) | (have q : dL HM = 8 := rfl; clear q HM; intro g9 u9 HM) | (have q : dL HM = 9 := rfl; clear q HM; intro g10 u10 HM) | (have q : dL HM = 10 := rfl; clear q HM; intro g11 u11 HM) | (have q : dL HM = 11 := rfl; clear q HM; intro g12 u12 HM) | (have q : dL HM = 12 := rfl; clear q HM; intro g13 u13 HM) | (have q : dL HM = 13 := rfl; clear q HM; intro g14 u14 HM)) | (refine wl_load rfl _ _ rfl rfl (by exact arrOf) HM (by exact memOf) (by exact lenOf) ?_) | (refine wl_storeM rfl _ _ _ rfl rfl rfl (by exact arrOf) HM (by exact idxOf) (by exact lenOf) (by exact lenOf) ?_; clear HM; intro us HM; dsimp only [List.set] at HM) | (refine wl_zero rfl _ rfl (by exact arrOf) (by kernel_rfl) ?_))
  go_loopw [3, 7] (fun vs vi wr => ∃ k : Nat, k ≤ 6 ∧ vi = .int .i64 (k : Int) ∧ vs = .int .i64 (costN a k) ∧ Hid (Mem w [(g1, 66, a)] wr)) (fun _ vi _ => 6 - (intOf vi).toNat)
  case atStart => exact ⟨0, by omega, rfl, rfl, HM⟩
  case round =>
    clear HM
    obtain ⟨k, hk, rfl, rfl, HM⟩ := hrel
    by_cases hlt : k < 6
    · have k6 : (k : Int) < 6 := by omega
      have hix := run_index 66 (n := 6) (by kernel_rfl) a LA.out k hlt
      obtain ⟨c1, c2⟩ := (HE.out.mem HM.out).cells hlt
      have hb := costN_bd HA.out k hk
      have hb2 := costN_bd HA.out (k + 1) (by omega)
      have hv := HA.out.2 k hlt
      have hed := edg_all k hlt
      have HS := Lib.hid (show costN a (k + 1) = costN a k + a.getD k 0 * ((edg (k + 1) : Int) - (edg k : Int)) from sumN_succ _ _)
      rw [HS.out] at hb2
      have hm := mul_bd (x := a.getD k 0) (y := (edg (k + 1) : Int) - (edg k : Int)) (A := 7) (B := 16) (by omega) (by omega) (by omega) (by omega)
      generalize costN a k = S at hb hb2 HS
      generalize a.getD k 0 = v at hix hv HS hb2 hm
      generalize edg k = lo at c1 hed HS hb2 hm
      generalize edg (k + 1) = hi at c2 hed HS hb2 hm
      obtain ⟨d, hd⟩ : ∃ d : Int, (hi : Int) - (lo : Int) = d := ⟨_, rfl⟩
      rw [hd] at HS hb2 hm
      have e1 : IntKind.i64.wrap ((k : Int) + 1) = (k : Int) + 1 := IntWalk.i64_in _ (by omega)
      have e2 : IntKind.i64.wrap ((hi : Int) - (lo : Int)) = d := by rw [hd]; exact IntWalk.i64_in _ (by omega)
      have e3 : IntKind.i64.wrap (v * d) = v * d := IntWalk.i64_in _ (by omega)
      have e4 : IntKind.i64.wrap (S + v * d) = S + v * d := IntWalk.i64_in _ (by omega)
      have e5 : ((k : Int) + 1).toNat = k + 1 := by omega
      have e6 : 0 ≤ (k : Int) + 1 := by omega
      have e7 : (k : Int) + 1 < 7 := by omega
      clear hd hb hb2 hv hm hed
      go_wp2_with fail
      go_quiet (fail)
      have HM2 := Lib.hid (HM.out.drewN nq)
      clear HM c1 c2 e1 e2 e3 e4 e5 e6 e7
      go_wp2
      go_roundw
      case rel => exact ⟨k + 1, by omega, by go_num, by rw [HS.out], HM2⟩
      case measure => simp [intOf]; omega
    · obtain rfl : k = 6 := by omega
      go_wp2
      go_ret
      exact ⟨rfl, HM.out.1⟩
/-- the band that has a number -/
def bnd (n : Nat) : Nat := if n < 1 then 0 else if n < 2 then 1 else if n < 4 then 2 else if n < 6 then 3 else if n < 10 then 4 else 5
theorem bnd_all : ∀ n, n < 16 → bnd n < 6 ∧ edg (bnd n) ≤ n ∧ n < edg (bnd n + 1) ∧ ∀ k, k < 6 → (k < bnd n → edg k ≤ n ∧ edg (k + 1) ≤ n) := by decide
set_option maxRecDepth 100000 in
set_option maxHeartbeats 4000000 in
theorem of_good (n : Nat) (w : World) (hn : n < 16) (he : Edg w) :
    Calls Tryd.prog 58 #[.int .i64 (n : Int)] w fun e w' => e = .returned (.tuple #[.int .i64 (bnd n : Int), .int .i64 0]) ∧ w = w' := by
  have HE := Lib.hid he
  obtain ⟨b1, b2, b3, b4⟩ := bnd_all n hn
  have B4 := Lib.hid b4
  obtain ⟨m, hm⟩ : ∃ m, bnd n = m := ⟨_, rfl⟩
  rw [hm] at b1 b2 b3 B4
  rw [hm]
  clear he b4 hm
  go_enter Tryd.func58, Tryd.ntmps58
  go_wp2_with fail
  go_loop [5] (fun vi => ∃ k : Nat, k ≤ m ∧ vi = .int .i64 (k : Int)) (fun vi => 6 - (intOf vi).toNat)
  case atStart => exact ⟨0, by omega, rfl⟩
  case round =>
    obtain ⟨k, hk, rfl⟩ := hrel
    have k6 : (k : Int) < 6 := by omega
    have k7 : (k : Int) + 1 < 7 := by omega
    obtain ⟨c1, c2⟩ := HE.out.cells (show k < 6 by omega)
    by_cases hlt : k < m
    · obtain ⟨l1, l2⟩ := B4.out k (by omega) hlt
      generalize edg k = lo at c1 l1
      generalize edg (k + 1) = hi at c2 l2
      have g1 : (lo : Int) ≤ (n : Int) := by omega
      have g2 : (hi : Int) ≤ (n : Int) := by omega
      go_wp2
      go_round
      case rel => exact ⟨k + 1, by omega, by go_num⟩
      case measure => simp [intOf]; omega
    · obtain rfl : k = m := by omega
      generalize edg k = lo at c1 b2
      generalize edg (k + 1) = hi at c2 b3
      have g1 : (lo : Int) ≤ (n : Int) := by omega
      have g2 : (n : Int) < (hi : Int) := by omega
      go_wp2
      go_ret2
      exact ⟨rfl, rfl⟩
end Go.Proofs.YtgpdgegelipboaaDoor.Lp
namespace Go.Proofs.YtgpdgegelipboaaDoor.Lp
open Go.RowKit Go.Proofs.YtgpdgegelipboaaDoor.Fx Go.Proofs.YtgpdgegelipboaaDoor.Fq Go.Proofs.YtgpdgegelipboaaDoor.Tb
theorem edg_int : ∀ b, b < 7 → ([0, 1, 2, 4, 6, 10, 16] : List Int).getD b 0 = (edg b : Int) := by decide
end Go.Proofs.YtgpdgegelipboaaDoor.Lp
