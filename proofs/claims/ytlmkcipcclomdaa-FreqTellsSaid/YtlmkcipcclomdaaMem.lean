/-
  Words for memory: a slice that reads as bytes, a block that is known whole, a value that is bits which may be; and what keeps them.
-/
import Derived.Test.YtlmkcipcclomdaaMath
import Derived.Below
import Derived.Laws.OwnMore
import Derived.Deep.Draws
import Derived.Laws.Rows
import Derived.Deep.AppendLies
namespace Go.Proofs.Ytlmkcipcclomdaa
open Go.RowKit

theorem block_of_add (a : Addr) (n : Nat) : (a.add n).block = a.block := by unfold Addr.add; split <;> rfl
theorem add_of_add (a : Addr) (i j : Nat) : (a.add i).add j = a.add (i + j) := by
  unfold Addr.add
  by_cases hi : i = 0 <;> by_cases hj : j = 0 <;> simp [hi, hj, Nat.add_assoc]
theorem add_own (g j : Nat) : (⟨g, 0, none⟩ : Addr).add j = ⟨g, j, none⟩ := by
  unfold Addr.add
  split
  · rename_i h; subst h; rfl
  · simp

theorem below_drewN {B : Nat} {a w : World} (h : Below B a w) (n : Nat) : Below B a (w.drewN n) := ⟨h.os, h.tape, h.output, h.size, h.block⟩
theorem only_drewN {a w : World} {row : Option Nat} (h : a.grownBy w row) (n : Nat) : a.grownBy (w.drewN n) row := ⟨h.os, h.tape, h.output, h.size, h.block⟩
theorem only_drew {a w : World} {row : Option Nat} (h : a.grownBy w row) : a.grownBy w.drew row := ⟨h.os, h.tape, h.output, h.size, h.block⟩
theorem only_alloc {a w : World} {row : Option Nat} (h : a.grownBy w row) (o : Obj) : a.grownBy (w.alloc o) row :=
  ⟨h.os, h.tape, h.output, Nat.le_trans h.size (by simp), fun i hi hne => (Below.heap_alloc w o i (Nat.lt_of_lt_of_le hi h.size)).trans (h.block i hi hne)⟩
theorem only_setCell {a w : World} {g : Nat} (h : a.grownBy w (some g)) {p : Addr} (hp : p.block = g ∨ a.heap.size ≤ p.block) (u : Value) : a.grownBy (w.setCell p u) (some g) :=
  ⟨h.os, h.tape, h.output, by simpa [World.setCell] using h.size, fun i hi hne => (Below.heap_setCell w p u i (by
    rintro rfl
    rcases hp with hp | hp
    · exact hne (by rw [hp])
    · omega)).trans (h.block i hi hne)⟩
theorem only_of_below {a w : World} (h : Below a.heap.size a w) (row : Option Nat) : a.grownBy w row := ⟨h.os, h.tape, h.output, h.size, fun i hi _ => h.block i hi⟩
/-- a byte as a cell -/
def byteV (n : Nat) : Value := .int .u8 (n : Int)
/-- the slice value '.slice A n c' reads as the bytes bs -/
def Rd (w : World) (A : Option Addr) (n : Nat) (bs : List Nat) : Prop :=
  bs.length = n ∧ (∀ x ∈ bs, x < 256) ∧ (0 < n → ∃ ad, A = some ad ∧ ∀ j x, bs[j]? = some x → w.cell? (ad.add j) = some (byteV x))

section
variable {w w' : World} {A : Option Addr} {n : Nat} {bs : List Nat}
theorem Rd.none_ : Rd w A 0 [] := ⟨rfl, by simp, fun h => absurd h (by omega)⟩
theorem Rd.at_ {k : Nat} (h : Rd w A n bs) (hk : k < n) : ∃ ad, A = some ad ∧ ad.block < w.heap.size ∧ bs.getD k 0 < 256 ∧ w.cell? (ad.add k) = some (.int .u8 ((bs.getD k 0 : Nat) : Int)) := by
  obtain ⟨ad, e, hc⟩ := h.2.2 (by omega)
  have hl : k < bs.length := by have := h.1; omega
  have hg : bs[k]? = some (bs.getD k 0) := by simp [List.getD_eq_getElem?_getD, hl]
  have hcell := hc k _ hg
  have hb := World.block_lt_of_cell? _ _ hcell
  rw [block_of_add] at hb
  refine ⟨ad, e, hb, h.2.1 _ ?_, hcell⟩
  have : bs.getD k 0 = bs[k] := by simp [List.getD_eq_getElem?_getD, hl]
  rw [this]
  exact List.getElem_mem hl
theorem Rd.keep (h : Rd w A n bs) (hk : ∀ p : Addr, p.block < w.heap.size → w'.cell? p = w.cell? p) : Rd w' A n bs :=
  ⟨h.1, h.2.1, fun hn => by
    obtain ⟨ad, e, hc⟩ := h.2.2 hn
    refine ⟨ad, e, fun j x hx => ?_⟩
    have hcell := hc j x hx
    exact (hk _ (World.block_lt_of_cell? _ _ hcell)).trans hcell⟩
theorem Rd.below (h : Rd w A n bs) (hb : Below w.heap.size w w') : Rd w' A n bs := h.keep fun _ hp => hb.cell hp
theorem Rd.only {row : Nat} (h : Rd w A n bs) (hb : w.grownBy w' (some row)) (hA : ∀ ad, A = some ad → 0 < n → ad.block ≠ row) : Rd w' A n bs :=
  ⟨h.1, h.2.1, fun hn => by
    obtain ⟨ad, e, hc⟩ := h.2.2 hn
    refine ⟨ad, e, fun j x hx => ?_⟩
    have hcell := hc j x hx
    have hlt := World.block_lt_of_cell? _ _ hcell
    exact (World.cell?_of_block (hb.block _ hlt (fun e' => hA ad e hn (by rw [block_of_add] at e'; injection e')))).trans hcell⟩
theorem Rd.alloc (h : Rd w A n bs) (o : Obj) : Rd (w.alloc o) A n bs := h.keep fun p hp => World.cell?_alloc_lt w o p (by omega)
theorem Rd.drew (h : Rd w A n bs) : Rd w.drew A n bs := h
theorem Rd.drewN (h : Rd w A n bs) (k : Nat) : Rd (w.drewN k) A n bs := h
end

/-- block g is just the cells cs, none frozen -/
def Blk (w : World) (g : Nat) (t : TypeId) (cs : Array Value) : Prop := w.heap[g]? = some (.cells cs t (0, 0))
section
variable {w w' : World} {g : Nat} {t : TypeId} {cs : Array Value}
theorem Blk.lt (h : Blk w g t cs) : g < w.heap.size := by
  rcases Nat.lt_or_ge g w.heap.size with hlt | hge
  · exact hlt
  · unfold Blk at h; rw [Array.getElem?_eq_none hge] at h; cases h
theorem Blk.cell (h : Blk w g t cs) (i : Nat) : w.cell? ⟨g, i, none⟩ = cs[i]? := cell_of_row w g i cs t (0, 0) h
theorem Blk.frozen (h : Blk w g t cs) (i : Nat) : w.frozen? ⟨g, i, none⟩ = false := by
  unfold Blk at h
  simp [World.frozen?, h]
theorem Blk.new (w : World) (t : TypeId) (cs : Array Value) : Blk (w.alloc (.cells cs t)) w.heap.size t cs := heap_alloc_new w _
theorem Blk.newAt {w : World} {g : Nat} {t : TypeId} {cs : Array Value} (hg : g = w.heap.size) : Blk (w.alloc (.cells cs t)) g t cs := by subst hg; exact Blk.new w t cs
theorem Blk.drew (h : Blk w g t cs) : Blk w.drew g t cs := h
theorem Blk.drewN (h : Blk w g t cs) (n : Nat) : Blk (w.drewN n) g t cs := h
theorem Blk.alloc (h : Blk w g t cs) (o : Obj) : Blk (w.alloc o) g t cs := (Below.heap_alloc w o g h.lt).trans h
theorem Blk.set_ (h : Blk w g t cs) (i : Nat) (u : Value) : Blk (w.setCell ⟨g, i, none⟩ u) g t (cs.setIfInBounds i u) := by
  unfold Blk at h ⊢
  simp [World.setCell, Array.getElem?_modify, h]
theorem Blk.far (h : Blk w g t cs) {p : Addr} (hp : g ≠ p.block) (u : Value) : Blk (w.setCell p u) g t cs := (Below.heap_setCell w p u g hp).trans h
theorem Blk.only {row : Nat} (h : Blk w g t cs) (hb : w.grownBy w' (some row)) (hg : g ≠ row) : Blk w' g t cs := (hb.block g h.lt (fun e => hg (by injection e))).trans h
theorem Blk.below {B : Nat} (h : Blk w g t cs) (hb : Below B w w') (hg : g < B) : Blk w' g t cs := (hb.block g hg).trans h
end

/-- bytes as a block's cells -/
def bcells (bs : List Nat) : Array Value := (bs.map byteV).toArray
theorem bcells_size (bs : List Nat) : (bcells bs).size = bs.length := by simp [bcells]
theorem bcells_get {bs : List Nat} {i : Nat} (h : i < bs.length) : (bcells bs)[i]? = some (.int .u8 ((bs.getD i 0 : Nat) : Int)) := by
  simp [bcells, byteV, List.getD_eq_getElem?_getD, h]
theorem bcells_set (bs : List Nat) (i x : Nat) : (bcells bs).setIfInBounds i (.int .u8 (x : Int)) = bcells (bs.set i x) := by
  simp [bcells, byteV, List.map_set]
theorem bcells_zero (m : Nat) : madeCells (Value.int .u8 0).cells m = bcells (packF m (bitF [])) := by
  refine Array.ext (by simp [madeCells, bcells_size, packF_length]) fun i h1 h2 => ?_
  have hi : i < m := by simpa [madeCells] using h1
  have e : byteF (bitF []) i = 0 := by simp [byteF, bitF]
  simp [madeCells, bcells, packF, byteV, e, Value.cells, Nat.mod_one]
theorem Rd.of_blk {w : World} {g : Nat} {t : TypeId} {bs : List Nat} (h : Blk w g t (bcells bs)) (hlt : ∀ x ∈ bs, x < 256) : Rd w (some ⟨g, 0, none⟩) bs.length bs := by
  refine ⟨rfl, hlt, fun _ => ⟨_, rfl, fun j x hx => ?_⟩⟩
  rw [add_own, h.cell]
  simp [bcells, hx]

/-- the value v is bits that may be, and they are l -/
def IsB (w : World) (v : Value) (l : List Bool) : Prop :=
  ∃ A c, v = .agg #[.slice A (pack l).length c, .int .i64 (l.length : Int)] ∧ Rd w A (pack l).length (pack l) ∧ l.length ≤ 65536
section
variable {w w' : World} {v : Value} {l : List Bool}
theorem IsB.below (h : IsB w v l) (hb : Below w.heap.size w w') : IsB w' v l := by
  obtain ⟨A, c, rfl, hr, hl⟩ := h
  exact ⟨A, c, rfl, hr.below hb, hl⟩
theorem IsB.alloc (h : IsB w v l) (o : Obj) : IsB (w.alloc o) v l := by
  obtain ⟨A, c, rfl, hr, hl⟩ := h
  exact ⟨A, c, rfl, hr.alloc o, hl⟩
theorem IsB.nil_ (w : World) : IsB w (.agg #[.slice none 0 0, .int .i64 0]) [] := ⟨none, 0, rfl, Rd.none_, by simp⟩
end

/-- whether bytes and a number of bits may be -/
def okB (bs : List Nat) (N : Int) : Bool :=
  decide (0 ≤ N ∧ N ≤ 65536 ∧ (bs.length : Int) = (N + 7) / 8 ∧ (N % 8 ≠ 0 → bs.getD (bs.length - 1) 0 * 2 ^ (N % 8).toNat % 256 = 0))
theorem okB_pack (l : List Bool) (h : l.length ≤ 65536) : okB (pack l) (l.length : Int) = true := by
  unfold okB
  have e : ((l.length : Int) % 8).toNat = l.length % 8 := by omega
  have hp := pack_length l
  refine decide_eq_true ⟨by omega, by omega, by omega, fun h8 => ?_⟩
  rw [e]
  exact pack_last l (by omega)
theorem okB_some {bs : List Nat} {N : Int} (h : okB bs N = true) (hlt : ∀ x ∈ bs, x < 256) : ∃ l : List Bool, l.length ≤ 65536 ∧ bs = pack l ∧ N = (l.length : Int) := by
  unfold okB at h
  obtain ⟨h0, h1, h2, h3⟩ := of_decide_eq_true h
  refine ⟨bitsIn bs N.toNat, by rw [bitsIn_length]; omega, (pack_bitsIn bs N.toNat (by omega) hlt fun h8 => ?_).symm, by rw [bitsIn_length]; omega⟩
  have e : (N % 8).toNat = N.toNat % 8 := by omega
  have := h3 (by omega)
  rw [e] at this
  exact this
theorem IsB.of_ok {w : World} {A : Option Addr} {n c : Nat} {N : Int} {bs : List Nat} (h : okB bs N = true) (hr : Rd w A n bs) : ∃ l, IsB w (.agg #[.slice A n c, .int .i64 N]) l ∧ bs = pack l ∧ N = (l.length : Int) := by
  obtain ⟨l, hl, rfl, rfl⟩ := okB_some h hr.2.1
  obtain ⟨rfl, h2⟩ := hr
  exact ⟨l, ⟨A, c, rfl, ⟨rfl, h2⟩, hl⟩, rfl, rfl⟩
end Go.Proofs.Ytlmkcipcclomdaa
