/-
  Own texts, laid together: Gc.
-/
import Derived.Test.YtgelgbfnioagbaaGb
import Derived.Deep.AppendLies
/- Gc -/
namespace Go.Proofs.Ytgelgbfnioagbaa.Cd
open Go.RowKit
/-- a piece's two cells -/
def itC (x : It) : List Value := [.slice x.A x.n x.c, .int .i64 x.N]
def itCells (xs : List It) : List Value := xs.flatMap itC
theorem itCells_snoc (xs : List It) (x : It) : itCells (xs ++ [x]) = itCells xs ++ itC x := by simp [itCells]
theorem itCells_get (xs : List It) : ∀ (j : Nat) (x : It), xs[j]? = some x → (itCells xs)[j * 2]? = some (.slice x.A x.n x.c) ∧ (itCells xs)[j * 2 + 1]? = some (.int .i64 x.N) := by
  induction xs with
  | nil => intro j x h; simp at h
  | cons y xs ih =>
    intro j x h
    cases j with
    | zero =>
      have : y = x := by simpa using h
      subst this
      exact ⟨rfl, rfl⟩
    | succ j =>
      have h' : xs[j]? = some x := by simpa using h
      obtain ⟨a, b⟩ := ih j x h'
      have e : itCells (y :: xs) = itC y ++ itCells xs := by simp [itCells]
      have el : (itC y).length = 2 := rfl
      rw [e]
      refine ⟨?_, ?_⟩
      · rw [List.getElem?_append_right (by omega), el, show (j + 1) * 2 - 2 = j * 2 by omega]; exact a
      · rw [List.getElem?_append_right (by omega), el, show (j + 1) * 2 + 1 - 2 = j * 2 + 1 by omega]; exact b
/-- bytes that lie in another block -/
def Apart (x : It) (p : Nat) : Prop := ∀ ad, x.A = some ad → 0 < x.n → ad.block ≠ p
theorem only_refl (w : World) (row : Option Nat) : w.grownBy w row := ⟨rfl, rfl, rfl, Nat.le_refl _, fun _ _ _ => rfl⟩
def wrC (low high wait N g k cap : Nat) : Array Value := #[.int .u32 (low : Int), .int .u32 (high : Int), .int .i64 (wait : Int), .slice (some ⟨g, 0, none⟩) k cap, .int .i64 (N : Int)]
/-- a world as it was, and a block that stays -/
structure Bs where
  w : World
  r : Nat
  o : Option Obj
def Kp (z : Bs) (p g : Nat) (w : World) : Prop := z.r ≠ p ∧ z.r ≠ g ∧ z.r < w.heap.size ∧ w.heap[z.r]? = z.o
/-- a writer at block p, its pieces at block g -/
structure WSx (z : Bs) (p g k cap : Nat) (xs : List It) (low high wait N : Nat) (out : List Bool) (w : World) : Prop where
  blk : Blk w p 104 (wrC low high wait N g k cap)
  own : w.ownsRow z.w.heap.size 25 2 (.slice (some ⟨g, 0, none⟩) k cap) k (itCells xs)
  hp : z.w.heap.size ≤ p
  hg : z.w.heap.size ≤ g
  ne : g ≠ p
  len : xs.length = k
  rd : ∀ x ∈ xs, Rd w x.A x.n x.bs ∧ x.ok = true ∧ Apart x p ∧ Apart x g
  bits : allBits xs = out
  few : k ≤ out.length + 1
  kp : Kp z p g w
section
variable {z : Bs} {p g k cap : Nat} {xs : List It} {low high wait N : Nat} {out : List Bool} {w w' : World}
theorem WSx.next (h : WSx z p g k cap xs low high wait N out w) (hb : Below w.heap.size w w') : WSx z p g k cap xs low high wait N out w' where
  blk := h.blk.below hb h.blk.lt
  own := World.ownsRow.kept h.own (only_of_below hb none) (.inr (by simp [Value.ownBlock]))
  hp := h.hp
  hg := h.hg
  ne := h.ne
  len := h.len
  rd := fun x hx => ⟨(h.rd x hx).1.below hb, (h.rd x hx).2⟩
  bits := h.bits
  few := h.few
  kp := ⟨h.kp.1, h.kp.2.1, Nat.lt_of_lt_of_le h.kp.2.2.1 hb.size, (hb.block _ h.kp.2.2.1).trans h.kp.2.2.2⟩
theorem WSx.drew (h : WSx z p g k cap xs low high wait N out w) : WSx z p g k cap xs low high wait N out w.drew := ⟨h.blk, h.own, h.hp, h.hg, h.ne, h.len, h.rd, h.bits, h.few, h.kp⟩
/-- a store into the writer's own block -/
theorem WSx.put (h : WSx z p g k cap xs low high wait N out w) (i : Nat) (u : Value) {low' high' wait' N' : Nat} (he : (wrC low high wait N g k cap).setIfInBounds i u = wrC low' high' wait' N' g k cap) : WSx z p g k cap xs low' high' wait' N' out (w.setCell ⟨p, i, none⟩ u) where
  blk := by have := h.blk.set_ i u; rwa [he] at this
  own := World.ownsRow.kept h.own (only_setCell (only_refl w (some p)) (.inl rfl) u) (.inr (by simp [Value.ownBlock]; exact h.ne))
  hp := h.hp
  hg := h.hg
  ne := h.ne
  len := h.len
  rd := fun x hx => ⟨(h.rd x hx).1.only (only_setCell (only_refl w (some p)) (.inl rfl) u) (h.rd x hx).2.2.1, (h.rd x hx).2⟩
  bits := h.bits
  few := h.few
  kp := ⟨h.kp.1, h.kp.2.1, by simpa [World.setCell] using h.kp.2.2.1, (Below.heap_setCell w ⟨p, i, none⟩ u _ h.kp.1).trans h.kp.2.2.2⟩
theorem WSx.rdL (h : WSx z p g k cap xs low high wait N out w) : RdL w (some ⟨g, 0, none⟩) k xs := by
  refine ⟨h.len, fun _ => ⟨_, rfl, fun j x hx => ?_⟩⟩
  obtain ⟨a, b⟩ := itCells_get xs j x hx
  have c0 := World.ownsRow.cells h.own (g := g) rfl _ _ a
  have c1 := World.ownsRow.cells h.own (g := g) rfl _ _ b
  rw [add_own] at c0 c1
  refine ⟨by rw [add_own]; exact c0, ?_, (h.rd x (List.mem_of_getElem? hx)).1⟩
  rw [add_own]
  exact c1
/-- one piece more -/
theorem WSx.push (h : WSx z p g k cap xs low high wait N out w) (y : It) (hy : Rd w y.A y.n y.bs) (hok : y.ok = true) (hyp : Apart y p) (hyg : Apart y g) (hy1 : 1 ≤ y.bits.length) {g' cap' : Nat}
    (ho : w'.ownsRow z.w.heap.size 25 2 (.slice (some ⟨g', 0, none⟩) (k + 1) cap') (k + 1) (itCells xs ++ itC y)) (hgr : w.grownBy w' (some g)) (hat : g = g' ∨ w.heap.size ≤ g') :
    WSx z p g' (k + 1) cap' (xs ++ [y]) low high wait N (out ++ y.bits) (w'.setCell ⟨p, 3, none⟩ (.slice (some ⟨g', 0, none⟩) (k + 1) cap')) := by
  have hpw : p < w.heap.size := h.blk.lt
  have hne : g' ≠ p := by
    rcases hat with e | e
    · rw [← e]; exact h.ne
    · omega
  have hsc := only_setCell (only_refl w' (some p)) (p := ⟨p, 3, none⟩) (.inl rfl) (.slice (some ⟨g', 0, none⟩) (k + 1) cap')
  have far : ∀ x : It, Rd w x.A x.n x.bs → Apart x g → Apart x g' := by
    intro x hr ha ad e hn
    rcases hat with e' | e'
    · rw [← e']; exact ha ad e hn
    · have := hr.lies hn ad e
      omega
  refine ⟨?_, ?_, h.hp, (World.ownsRow.lt ho g' rfl).1, hne, by rw [List.length_append, h.len]; rfl, ?_, by rw [allBits_snoc, h.bits], by rw [List.length_append]; have := h.few; omega, h.kp.1, ?_, ?_, ?_⟩
  · have := (h.blk.only hgr (fun e => h.ne e.symm)).set_ 3 (.slice (some ⟨g', 0, none⟩) (k + 1) cap')
    exact this
  · rw [itCells_snoc]
    exact World.ownsRow.kept ho hsc (.inr (by simp [Value.ownBlock]; exact hne))
  · intro x hx
    rw [List.mem_append] at hx
    rcases hx with hx | hx
    · obtain ⟨a, b, c, d⟩ := h.rd x hx
      exact ⟨(a.only hgr d).only hsc c, b, c, far x a d⟩
    · have : x = y := by simpa using hx
      subst this
      exact ⟨(hy.only hgr hyg).only hsc hyp, hok, hyp, far x hy hyg⟩
  · rcases hat with e | e
    · rw [← e]; exact h.kp.2.1
    · have := h.kp.2.2.1; omega
  · have := hgr.size; have := h.kp.2.2.1; simp [World.setCell]; omega
  · exact ((Below.heap_setCell w' ⟨p, 3, none⟩ _ _ h.kp.1).trans (hgr.block _ h.kp.2.2.1 (fun e => h.kp.2.1 (by injection e)))).trans h.kp.2.2.2
theorem WSx.five (h : WSx z p g k cap xs low high wait N out w) : w.cell? ⟨p, 0, none⟩ = some (.int .u32 (low : Int)) ∧ w.cell? ⟨p, 1, none⟩ = some (.int .u32 (high : Int)) ∧ w.cell? ⟨p, 2, none⟩ = some (.int .i64 (wait : Int)) ∧ w.cell? ⟨p, 3, none⟩ = some (.slice (some ⟨g, 0, none⟩) k cap) ∧ w.cell? ⟨p, 4, none⟩ = some (.int .i64 (N : Int)) :=
  ⟨h.blk.cell 0, h.blk.cell 1, h.blk.cell 2, h.blk.cell 3, h.blk.cell 4⟩
theorem WSx.frz (h : WSx z p g k cap xs low high wait N out w) (i : Nat) : w.frozen? ⟨p, i, none⟩ = false := h.blk.frozen i
theorem WSx.two (h : WSx z p g k cap xs low high wait N out w) : Two w p low high := ⟨h.blk.cell 0, h.blk.cell 1, h.blk.frozen 0, h.blk.frozen 1⟩
end
/-- a writer, and all that was there ahead of it as it was -/
def WSm (w0 : Bs) (p low high wait N : Nat) (out : List Bool) (w : World) : Prop := Below w0.w.heap.size w0.w w ∧ ∃ g k cap xs, WSx w0 p g k cap xs low high wait N out w
def WS (w0 : Bs) (p : Nat) (e : En) (w : World) : Prop := WSm w0 p e.low e.high e.wait e.out.length e.out w
section
variable {w0 : Bs} {w w' : World} {p low high wait N : Nat} {out : List Bool}
theorem WSm.next (h : WSm w0 p low high wait N out w) (hb : Below w.heap.size w w') : WSm w0 p low high wait N out w' := by
  obtain ⟨h1, g, k, cap, xs, h2⟩ := h
  exact ⟨h1.trans (hb.mono h1.size), g, k, cap, xs, h2.next hb⟩
theorem WSm.setIv (h : WSm w0 p low high wait N out w) (lo hi : Nat) : WSm w0 p lo hi wait N out ((w.setCell ⟨p, 1, none⟩ (.int .u32 (hi : Int))).setCell ⟨p, 0, none⟩ (.int .u32 (lo : Int))) := by
  obtain ⟨h1, g, k, cap, xs, h2⟩ := h
  exact ⟨(h1.setCell h2.hp _).setCell h2.hp _, g, k, cap, xs, (h2.put 1 _ (low' := low) (high' := hi) (wait' := wait) (N' := N) rfl).put 0 _ rfl⟩
theorem WSm.setIv' (h : WSm w0 p low high wait N out w) (lo hi : Nat) : WSm w0 p lo hi wait N out ((w.setCell ⟨p, 0, none⟩ (.int .u32 (lo : Int))).setCell ⟨p, 1, none⟩ (.int .u32 (hi : Int))) := by
  obtain ⟨h1, g, k, cap, xs, h2⟩ := h
  exact ⟨(h1.setCell h2.hp _).setCell h2.hp _, g, k, cap, xs, (h2.put 0 _ (low' := lo) (high' := high) (wait' := wait) (N' := N) rfl).put 1 _ rfl⟩
theorem WSm.setWait (h : WSm w0 p low high wait N out w) (wt : Nat) : WSm w0 p low high wt N out (w.setCell ⟨p, 2, none⟩ (.int .i64 (wt : Int))) := by
  obtain ⟨h1, g, k, cap, xs, h2⟩ := h
  exact ⟨h1.setCell h2.hp _, g, k, cap, xs, h2.put 2 _ rfl⟩
theorem WSm.setN (h : WSm w0 p low high wait N out w) (n : Nat) : WSm w0 p low high wait n out (w.setCell ⟨p, 4, none⟩ (.int .i64 (n : Int))) := by
  obtain ⟨h1, g, k, cap, xs, h2⟩ := h
  exact ⟨h1.setCell h2.hp _, g, k, cap, xs, h2.put 4 _ rfl⟩
theorem WSm.two (h : WSm w0 p low high wait N out w) : Two w p low high := by
  obtain ⟨_, g, k, cap, xs, h2⟩ := h
  exact h2.two
theorem WSm.wait_ (h : WSm w0 p low high wait N out w) : w.cell? ⟨p, 2, none⟩ = some (.int .i64 (wait : Int)) ∧ w.frozen? ⟨p, 2, none⟩ = false := by
  obtain ⟨_, g, k, cap, xs, h2⟩ := h
  exact ⟨h2.blk.cell 2, h2.blk.frozen 2⟩
theorem WSm.n_ (h : WSm w0 p low high wait N out w) : w.cell? ⟨p, 4, none⟩ = some (.int .i64 (N : Int)) ∧ w.frozen? ⟨p, 4, none⟩ = false := by
  obtain ⟨_, g, k, cap, xs, h2⟩ := h
  exact ⟨h2.blk.cell 4, h2.blk.frozen 4⟩
theorem WSm.lt (h : WSm w0 p low high wait N out w) : p < w.heap.size := by
  obtain ⟨_, g, k, cap, xs, h2⟩ := h
  exact h2.blk.lt
end
end Go.Proofs.Ytgelgbfnioagbaa.Cd
