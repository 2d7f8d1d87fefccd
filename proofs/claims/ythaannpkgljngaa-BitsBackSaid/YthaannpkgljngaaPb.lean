/-
  The walk of BitsPieces: bytes joined are their own bits.
-/
import Derived.Test.YthaannpkgljngaaPa
import Derived.Test.YthaannpkgljngaaRc
import Derived.Deep.DeepCutAuto
namespace Go.Proofs.Ythaannpkgljngaa
open Go.RowKit

/-- bytes that were handed in -/
structure Bt where
  A : Option Addr
  n : Nat
  c : Nat
  bs : List Nat
def RdB (w : World) (AL : Option Addr) (n : Nat) (ls : List Bt) : Prop :=
  ls.length = n ∧ (0 < n → ∃ L, AL = some L ∧ ∀ j x, ls[j]? = some x → w.cell? (L.add j) = some (.slice x.A x.n x.c) ∧ Rd w x.A x.n x.bs ∧ (x.A = none → x.c = 0))
theorem RdB.below {w w' : World} {AL : Option Addr} {n : Nat} {ls : List Bt} (h : RdB w AL n ls) (hb : Below w.heap.size w w') : RdB w' AL n ls := by
  refine ⟨h.1, fun hn => ?_⟩
  obtain ⟨L, e, hc⟩ := h.2 hn
  refine ⟨L, e, fun j x hx => ?_⟩
  obtain ⟨h1, h3, h4⟩ := hc j x hx
  exact ⟨(hb.cell (World.block_lt_of_cell? _ _ h1)).trans h1, h3.below hb, h4⟩
/-- a piece that was made -/
structure Pc where
  g : Nat
  n : Nat
  bs : List Nat
def Pc.cells (p : Pc) : List Value := [.slice (some ⟨p.g, 0, none⟩) p.n p.n, .int .i64 (8 * (p.n : Int))]
def flatP (ps : List Pc) : List Nat := ps.flatMap (·.bs)
def cellsP (ps : List Pc) : List Value := ps.flatMap Pc.cells
theorem flatP_snoc (ps : List Pc) (p : Pc) : flatP (ps ++ [p]) = flatP ps ++ p.bs := by simp [flatP]
theorem cellsP_snoc (ps : List Pc) (p : Pc) : cellsP (ps ++ [p]) = cellsP ps ++ p.cells := by simp [cellsP]
def PS (w : World) (ps : List Pc) (vp va : Value) (wr : World) : Prop :=
  Below w.heap.size w wr ∧ wr.ownsRow w.heap.size 24 2 vp ps.length (cellsP ps) ∧ wr.ownsRow w.heap.size 5 1 va (flatP ps).length ((flatP ps).map byteV) ∧
  ∀ p ∈ ps, Blk wr p.g 5 (bcells p.bs) ∧ va.ownBlock ≠ some p.g ∧ p.bs.length = p.n ∧ p.n ≤ 300 ∧ ∀ x ∈ p.bs, x < 256
theorem flatP_le (ps : List Pc) (h : ∀ p ∈ ps, p.bs.length ≤ 300) : (flatP ps).length ≤ 300 * ps.length := by
  induction ps with
  | nil => simp [flatP]
  | cons p ps ih =>
    have h1 := ih fun q hq => h q (List.mem_cons_of_mem _ hq)
    have h2 := h p List.mem_cons_self
    have e : flatP (p :: ps) = p.bs ++ flatP ps := by simp [flatP]
    rw [e, List.length_append, List.length_cons]
    omega
theorem row_ne {w : World} {b1 b2 : Nat} {e1 e2 : TypeId} {s1 s2 n1 n2 : Nat} {v1 v2 : Value} {x1 x2 : List Value} (h1 : w.ownsRow b1 e1 s1 v1 n1 x1) (h2 : w.ownsRow b2 e2 s2 v2 n2 x2) (he : e1 ≠ e2) : v1.ownBlock = none ∨ v1.ownBlock ≠ v2.ownBlock := by
  rcases h1.2 with ⟨rfl, _⟩ | ⟨g, cap, cur, rfl, _, hh, _⟩
  · exact .inl rfl
  · refine .inr fun e => ?_
    rcases h2.2 with ⟨rfl, _⟩ | ⟨g', cap', cur', rfl, _, hh', _⟩
    · simp [Value.ownBlock] at e
    · simp only [Value.ownBlock, Option.some.injEq] at e
      subst e
      exact Blk.ne_ (t := e1) (t' := e2) hh hh' he rfl
theorem row_blk {w : World} {b1 g : Nat} {e1 e2 : TypeId} {s1 n1 : Nat} {v1 : Value} {x1 : List Value} {cs : Array Value} (h1 : w.ownsRow b1 e1 s1 v1 n1 x1) (h2 : Blk w g e2 cs) (he : e1 ≠ e2) : v1.ownBlock ≠ some g := by
  rcases h1.2 with ⟨rfl, _⟩ | ⟨g', cap, cur, rfl, _, hh, _⟩
  · simp [Value.ownBlock]
  · intro e
    simp only [Value.ownBlock, Option.some.injEq] at e
    subst e
    exact Blk.ne_ (t := e1) (t' := e2) hh h2 he rfl
theorem row_below {w w' : World} {b e s n : Nat} {v : Value} {xs : List Value} (h : w.ownsRow b e s v n xs) (hb : Below w.heap.size w w') : w'.ownsRow b e s v n xs :=
  World.ownsRow.kept h (only_of_below hb none) (by cases hv : v.ownBlock with | none => exact .inl rfl | some k => exact .inr (by simp))
/-- behind Of -/
theorem PS.next {w wr w1 : World} {ps : List Pc} {vp va : Value} (h : PS w ps vp va wr) (hb : Below wr.heap.size wr w1) : PS w ps vp va w1 :=
  ⟨h.1.trans (hb.mono h.1.size), row_below h.2.1 hb, row_below h.2.2.1 hb, fun p hp => by
    obtain ⟨h1, h2⟩ := h.2.2.2 p hp
    exact ⟨h1.below hb h1.lt, h2⟩⟩
theorem PS.alloc {w wr : World} {ps : List Pc} {vp va : Value} (h : PS w ps vp va wr) (o : Obj) : PS w ps vp va (wr.alloc o) :=
  ⟨h.1.alloc h.1.size o, World.ownsRow.alloc h.2.1 o, World.ownsRow.alloc h.2.2.1 o, fun p hp => by
    obtain ⟨h1, h2⟩ := h.2.2.2 p hp
    exact ⟨h1.alloc o, h2⟩⟩
/-- behind both appends -/
theorem PS.more {w w1 w2 w3 : World} {ps : List Pc} {p : Pc} {vp va vp' va' : Value} (h : PS w ps vp va w1) (hp : Blk w1 p.g 5 (bcells p.bs)) (hpn : va.ownBlock ≠ some p.g) (hl : p.bs.length = p.n) (h300 : p.n ≤ 300) (h256 : ∀ x ∈ p.bs, x < 256)
    (ho2 : w2.ownsRow w.heap.size 24 2 vp' (ps.length + 1) (cellsP ps ++ p.cells)) (hg2 : w1.grownBy w2 vp.ownBlock)
    (ho3 : w3.ownsRow w.heap.size 5 1 va' ((flatP ps).length + p.n) ((flatP ps).map byteV ++ p.bs.map byteV)) (hg3 : w2.grownBy w3 va.ownBlock) (hat : va'.ownBlock = va.ownBlock ∨ va'.ownBlock = some w2.heap.size) :
    PS w (ps ++ [p]) vp' va' w3 := by
  have hva2 : w2.ownsRow w.heap.size 5 1 va (flatP ps).length ((flatP ps).map byteV) := World.ownsRow.kept h.2.2.1 hg2 (row_ne h.2.2.1 h.2.1 (by decide))
  have hb2 : Below w.heap.size w w2 := h.1.grown hg2 h.1.size (fun k hk => (World.ownsRow.lt h.2.1 k hk).1)
  have hb3 : Below w.heap.size w w3 := hb2.grown hg3 hb2.size (fun k hk => (World.ownsRow.lt hva2 k hk).1)
  refine ⟨hb3, ?_, ?_, fun q hq => ?_⟩
  · rw [List.length_append, cellsP_snoc]
    exact World.ownsRow.kept ho2 hg3 (row_ne ho2 hva2 (by decide))
  · rw [flatP_snoc, List.length_append, List.map_append, hl]
    exact ho3
  · have key : Blk w1 q.g 5 (bcells q.bs) ∧ va.ownBlock ≠ some q.g ∧ q.bs.length = q.n ∧ q.n ≤ 300 ∧ ∀ x ∈ q.bs, x < 256 := by
      rcases List.mem_append.1 hq with hq | hq
      · exact h.2.2.2 q hq
      · rw [List.mem_singleton.1 hq]; exact ⟨hp, hpn, hl, h300, h256⟩
    obtain ⟨k1, k2, k3⟩ := key
    have k1' : Blk w2 q.g 5 (bcells q.bs) := k1.row hg2 (row_blk h.2.1 k1 (by decide))
    refine ⟨k1'.row hg3 k2, ?_, k3⟩
    rcases hat with e | e
    · rw [e]; exact k2
    · rw [e]
      intro e'
      injection e' with e'
      have := k1'.lt
      omega

end Go.Proofs.Ythaannpkgljngaa
