/-
  The relation of BitsBack's first loop, and its step.
-/
import Derived.Test.YthaannpkgljngaaBb
import Derived.Test.YthaannpkgljngaaPb
import Derived.Test.YthaannpkgljngaaWritesB
namespace Go.Proofs.Ythaannpkgljngaa
open Go.RowKit

/-- an item that was handed in -/
structure Itm where
  V : Nat
  W : Int
def RdI (w : World) (AL : Option Addr) (n : Nat) (ls : List Itm) : Prop :=
  ls.length = n ∧ (0 < n → ∃ L, AL = some L ∧ ∀ j x, ls[j]? = some x → w.cell? (L.add (j * 2)) = some (.int .u64 (x.V : Int)) ∧ w.cell? ⟨(L.add (j * 2)).block, (L.add (j * 2)).off + 1, none⟩ = some (.int .i64 x.W) ∧ x.V < 18446744073709551616)
theorem RdI.below {w w' : World} {AL : Option Addr} {n : Nat} {ls : List Itm} (h : RdI w AL n ls) (hb : Below w.heap.size w w') : RdI w' AL n ls := by
  refine ⟨h.1, fun hn => ?_⟩
  obtain ⟨L, e, hc⟩ := h.2 hn
  refine ⟨L, e, fun j x hx => ?_⟩
  obtain ⟨h1, h2, h3⟩ := hc j x hx
  exact ⟨(hb.cell (World.block_lt_of_cell? _ _ h1)).trans h1, (hb.cell (World.block_lt_of_cell? _ _ h2)).trans h2, h3⟩
/-- an item that was put, and its bits -/
structure Pt where
  V : Nat
  W : Int
  c : List Bool
def Pt.cells (p : Pt) : List Value := [.int .u64 (p.V : Int), .int .i64 p.W]
def cellsT (ps : List Pt) : List Value := ps.flatMap Pt.cells
def flatT (ps : List Pt) : List Bool := ps.flatMap (·.c)
def startsT (l0 : List Bool) (ps : List Pt) : List Value := (List.range ps.length).map fun j => .int .i64 (((l0 ++ flatT (ps.take j)).length : Nat) : Int)
theorem cellsT_snoc (ps : List Pt) (p : Pt) : cellsT (ps ++ [p]) = cellsT ps ++ p.cells := by simp [cellsT]
theorem flatT_snoc (ps : List Pt) (p : Pt) : flatT (ps ++ [p]) = flatT ps ++ p.c := by simp [flatT]
theorem startsT_snoc (l0 : List Bool) (ps : List Pt) (p : Pt) : startsT l0 (ps ++ [p]) = startsT l0 ps ++ [.int .i64 (((l0 ++ flatT ps).length : Nat) : Int)] := by
  unfold startsT
  rw [List.length_append, List.length_singleton, List.range_succ, List.map_append]
  congr 1
  · refine List.map_congr_left fun j hj => ?_
    rw [List.take_append_of_le_length (Nat.le_of_lt (List.mem_range.1 hj))]
  · simp
def BS (w : World) (l0 l1 : List Bool) (A1 : Option Addr) (n1 c1 gb : Nat) (ps : List Pt) (vp va : Value) (wr : World) : Prop :=
  Below w.heap.size w wr ∧ wr.ownsRow w.heap.size 43 2 vp ps.length (cellsT ps) ∧ wr.ownsRow w.heap.size 3 1 va ps.length (startsT l0 ps) ∧
  (Blk wr (w.heap.size + 1) 24 #[.slice A1 n1 c1, .int .i64 (l1.length : Int)] ∧ w.heap.size + 1 < gb) ∧
  (∃ A n c, Blk wr gb 24 #[.slice A n c, .int .i64 ((l0 ++ flatT ps).length : Int)] ∧ Rd wr A n (pack (l0 ++ flatT ps))) ∧ (l0 ++ flatT ps).length ≤ 65536 ∧
  ∀ p ∈ ps, itemCode p.V p.W = some p.c ∧ p.V < 18446744073709551616
section
variable {w wr w1 : World} {l0 l1 : List Bool} {A1 : Option Addr} {n1 c1 gb : Nat} {ps : List Pt} {vp va : Value}
theorem BS.next (h : BS w l0 l1 A1 n1 c1 gb ps vp va wr) (hb : Below wr.heap.size wr w1) : BS w l0 l1 A1 n1 c1 gb ps vp va w1 := by
  obtain ⟨a1, a2, a3, a4, ⟨A, n, c, b1, b2⟩, a6⟩ := h
  exact ⟨a1.trans (hb.mono a1.size), row_below a2 hb, row_below a3 hb, ⟨a4.1.below hb a4.1.lt, a4.2⟩, ⟨A, n, c, b1.below hb b1.lt, b2.below hb⟩, a6⟩
theorem BS.alloc (h : BS w l0 l1 A1 n1 c1 gb ps vp va wr) (o : Obj) : BS w l0 l1 A1 n1 c1 gb ps vp va (wr.alloc o) := by
  obtain ⟨a1, a2, a3, a4, ⟨A, n, c, b1, b2⟩, a6⟩ := h
  exact ⟨a1.alloc a1.size o, World.ownsRow.alloc a2 o, World.ownsRow.alloc a3 o, ⟨a4.1.alloc o, a4.2⟩, ⟨A, n, c, b1.alloc o, b2.alloc o⟩, a6⟩
/-- behind both appends and the store -/
theorem BS.more {w2 w3 : World} {o : Obj} {p : Pt} {vp' va' : Value} {A : Option Addr} {m c N : Nat} (h : BS w l0 l1 A1 n1 c1 gb ps vp va w1)
    (hcode : itemCode p.V p.W = some p.c) (hV : p.V < 18446744073709551616) (hlen : ((l0 ++ flatT ps) ++ p.c).length ≤ 65536) (hN : N = ((l0 ++ flatT ps) ++ p.c).length)
    (ho2 : w2.ownsRow w.heap.size 43 2 vp' (ps.length + 1) (cellsT ps ++ p.cells)) (hg2 : w1.grownBy w2 vp.ownBlock)
    (ho3 : w3.ownsRow w.heap.size 3 1 va' (ps.length + 1) (startsT l0 ps ++ [.int .i64 (((l0 ++ flatT ps).length : Nat) : Int)])) (hg3 : (w2.alloc o).grownBy w3 va.ownBlock)
    (hA : Rd w1 A m (pack ((l0 ++ flatT ps) ++ p.c))) (hf : ∀ ad, A = some ad → 0 < m → vp.ownBlock ≠ some ad.block ∧ va.ownBlock ≠ some ad.block) :
    BS w l0 l1 A1 n1 c1 gb (ps ++ [p]) vp' va' ((w3.setCell ⟨gb, 0, none⟩ (.slice A m c)).setCell ⟨gb, 1, none⟩ (.int .i64 (N : Int))) := by
  obtain ⟨a1, a2, a3, a4, ⟨A', n', c', b1, b2⟩, a6, a7⟩ := h
  have HN := Lib.hid hN
  have HL := Lib.hid hlen
  clear hN hlen
  have hva2 : w2.ownsRow w.heap.size 3 1 va ps.length (startsT l0 ps) := World.ownsRow.kept a3 hg2 (row_ne a3 a2 (by decide))
  have hb2 : Below w.heap.size w w2 := a1.grown hg2 a1.size (fun k hk => (World.ownsRow.lt a2 k hk).1)
  have hb2' := hb2.alloc hb2.size o
  have hva2' := World.ownsRow.alloc hva2 o
  have hvp2' := World.ownsRow.alloc ho2 o
  have hb3 : Below w.heap.size w w3 := hb2'.grown hg3 hb2'.size (fun k hk => (World.ownsRow.lt hva2' k hk).1)
  have hvp3 := World.ownsRow.kept hvp2' hg3 (row_ne hvp2' hva2' (by decide))
  have t2 := (a4.1.row hg2 (row_blk a2 a4.1 (by decide))).alloc o
  have t3 := t2.row hg3 (row_blk hva2' t2 (by decide))
  have k2 := (b1.row hg2 (row_blk a2 b1 (by decide))).alloc o
  have k3 := k2.row hg3 (row_blk hva2' k2 (by decide))
  have r3 := (((hA.row hg2 fun ad e hn => (hf ad e hn).1).alloc o).row hg3 fun ad e hn => (hf ad e hn).2)
  have hgb : w.heap.size ≤ gb := by omega
  have hset0 : w3.grownBy (w3.setCell ⟨gb, 0, none⟩ (.slice A m c)) (some gb) := only_setCell (a := w3) (w := w3) (g := gb) (World.grownBy.refl w3 (some gb)) (p := ⟨gb, 0, none⟩) (Or.inl rfl) (.slice A m c)
  have hset : w3.grownBy ((w3.setCell ⟨gb, 0, none⟩ (.slice A m c)).setCell ⟨gb, 1, none⟩ (.int .i64 (N : Int))) (some gb) := only_setCell (a := w3) (w := w3.setCell ⟨gb, 0, none⟩ (.slice A m c)) (g := gb) hset0 (p := ⟨gb, 1, none⟩) (Or.inl rfl) (.int .i64 (N : Int))
  refine ⟨(hb3.setCell hgb _).setCell hgb _, ?_, ?_, ⟨t3.other (by omega) _ _, a4.2⟩, ⟨A, m, c, ?_, ?_⟩, ?_, fun q hq => ?_⟩
  · rw [List.length_append, cellsT_snoc]
    exact World.ownsRow.kept hvp3 hset (.inr (row_blk hvp3 k3 (by decide)))
  · rw [List.length_append, startsT_snoc]
    exact World.ownsRow.kept ho3 hset (.inr (row_blk ho3 k3 (by decide)))
  · rw [flatT_snoc, ← List.append_assoc, ← HN.out]
    exact k3.box _ _
  · rw [flatT_snoc, ← List.append_assoc]
    have y0 : w3.cell? ⟨gb, 0, none⟩ = some (.slice A' n' c') := k3.cell 0
    have y1 : w3.cell? ⟨gb, 1, none⟩ = some (.int .i64 ((l0 ++ flatT ps).length : Int)) := k3.cell 1
    exact (r3.setCell _ (fun x => by rw [y0]; simp [byteV])).setCell _ (fun x => by rw [World.cell?_setCell_other _ _ _ _ (by simp), y1]; simp [byteV])
  · rw [flatT_snoc, ← List.append_assoc]
    exact HL.out
  · rcases List.mem_append.1 hq with hq | hq
    · exact a7 q hq
    · rw [List.mem_singleton.1 hq]; exact ⟨hcode, hV⟩
end
end Go.Proofs.Ythaannpkgljngaa
