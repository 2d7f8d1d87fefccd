/-
  Packets of one's own in a row; all that waits, made one's own.
-/
import Derived.Test.YtffapinabidkiaaUF
set_option linter.unusedSimpArgs false
set_option linter.unusedVariables false
/- UG -/
namespace Go.Proofs.Ytffapinabidkiaa.Lp
open Go.RowKit Go.Proofs.Ytffapinabidkiaa.Fq
/-- packets as cells -/
def pcs (ls : List Pk) : List Value := ls.flatMap fun x => [.int .i64 x.s, .slice x.A x.n x.c]
theorem pcs_nil : pcs [] = [] := rfl
theorem pcs_cons (x : Pk) (l : List Pk) : pcs (x :: l) = .int .i64 x.s :: .slice x.A x.n x.c :: pcs l := rfl
theorem pcs_append (a b : List Pk) : pcs (a ++ b) = pcs a ++ pcs b := by unfold pcs; rw [List.flatMap_append]
theorem pcs_length (l : List Pk) : (pcs l).length = l.length * 2 := by
  induction l with
  | nil => rfl
  | cons x l ih => rw [pcs_cons, List.length_cons, List.length_cons, List.length_cons, ih]; omega
theorem pcs_one (l : List Pk) : ∀ v ∈ pcs l, v.oneCell' = true := by
  induction l with
  | nil => intro v hv; cases hv
  | cons x l ih =>
    intro v hv
    rw [pcs_cons] at hv
    rcases List.mem_cons.1 hv with rfl | hv
    · rfl
    · rcases List.mem_cons.1 hv with rfl | hv
      · rfl
      · exact ih v hv
theorem pcs_at {l : List Pk} {k : Nat} {x : Pk} (h : l[k]? = some x) : (pcs l)[k * 2]? = some (.int .i64 x.s) ∧ (pcs l)[k * 2 + 1]? = some (.slice x.A x.n x.c) := by
  induction l generalizing k with
  | nil => simp at h
  | cons y l ih =>
    cases k with
    | zero => simp at h; subst h; exact ⟨rfl, rfl⟩
    | succ k =>
      rw [List.getElem?_cons_succ] at h
      have := ih h
      rw [pcs_cons, show (k + 1) * 2 = k * 2 + 1 + 1 by omega]
      exact this
/-- a row that holds these packets at its head -/
def RowOk (c : Nat) (cs : Array Value) (ls : List Pk) : Prop := ls.length ≤ c ∧ c ≤ maxLen ∧ cs.size = c * 2 ∧ cs.toList.take (ls.length * 2) = pcs ls
theorem RowOk.at_ {c : Nat} {cs : Array Value} {ls : List Pk} (h : RowOk c cs ls) {k : Nat} {x : Pk} (hx : ls[k]? = some x) : cs[k * 2]? = some (.int .i64 x.s) ∧ cs[k * 2 + 1]? = some (.slice x.A x.n x.c) := by
  have hl := (List.getElem?_eq_some_iff.1 hx).1
  have := pcs_at hx
  rw [← h.2.2.2, List.getElem?_take, List.getElem?_take, if_pos (by omega), if_pos (by omega), Array.getElem?_toList, Array.getElem?_toList] at this
  exact this
theorem RowOk.owns {w : World} {B g c : Nat} {cs : Array Value} {ls : List Pk} (h : RowOk c cs ls) (hb : Blk w g 46 cs) (hB : B ≤ g) : w.ownsRow B 46 2 (.slice (some ⟨g, 0, none⟩) ls.length c) ls.length (pcs ls) :=
  ⟨pcs_length ls, .inr ⟨g, c, cs, rfl, hB, hb, h.1, h.2.1, h.2.2.1, h.2.2.2⟩⟩
/-- bytes of one's own -/
def Byt (B : Nat) (w : World) (gs : List Nat) (x : Pk) : Prop := ∃ gx, x.A = some ⟨gx, 0, none⟩ ∧ B ≤ gx ∧ gx ∉ gs ∧ Rd w x.A x.n x.bs ∧ 0 < x.n ∧ x.n ≤ 40
def blkOf (x : Pk) : Nat := match x.A with | some a => a.block | none => 0
theorem Byt.blk {B : Nat} {w : World} {gs : List Nat} {x : Pk} (h : Byt B w gs x) : blkOf x < w.heap.size ∧ B ≤ blkOf x ∧ blkOf x ∉ gs := by
  obtain ⟨gx, e, h1, h2, h3, h4, -⟩ := h
  have := rd_lt h3 _ e h4
  unfold blkOf
  rw [e]
  exact ⟨this, h1, h2⟩
theorem Byt.below {B : Nat} {w w' : World} {gs : List Nat} {x : Pk} (h : Byt B w gs x) (hb : Below w.heap.size w w') : Byt B w' gs x := by
  obtain ⟨gx, e, h1, h2, h3, h4⟩ := h
  exact ⟨gx, e, h1, h2, h3.below hb, h4⟩
theorem Byt.keep {B : Nat} {w w0 w' : World} {gs : List Nat} {x : Pk} {L : List Ent} (h : Byt B w gs x) (hm : MV w0 w L w') (hs : ∀ e ∈ L, e.1 ∈ gs ∨ w.heap.size ≤ e.1) : Byt B w' gs x := by
  obtain ⟨gx, e, h1, h2, h3, h4⟩ := h
  refine ⟨gx, e, h1, h2, hm.rd h3 fun ad e' hn y hy => ?_, h4⟩
  rw [e] at e'
  injection e' with e'
  subst e'
  have hl : gx < w.heap.size := rd_lt h3 _ e h4.1
  show y.1 ≠ gx
  rcases hs y hy with h5 | h5
  · intro h6; rw [h6] at h5; exact h2 h5
  · omega
/-- packets of one's own: their bytes lie apart -/
def OwnL (B : Nat) (w : World) (gs : List Nat) (ls : List Pk) : Prop := (∀ x ∈ ls, Byt B w gs x) ∧ (ls.map blkOf).Nodup
theorem OwnL.below {B : Nat} {w w' : World} {gs : List Nat} {ls : List Pk} (h : OwnL B w gs ls) (hb : Below w.heap.size w w') : OwnL B w' gs ls := ⟨fun x hx => (h.1 x hx).below hb, h.2⟩
theorem OwnL.keep {B : Nat} {w w0 w' : World} {gs : List Nat} {ls : List Pk} {L : List Ent} (h : OwnL B w gs ls) (hm : MV w0 w L w') (hs : ∀ e ∈ L, e.1 ∈ gs ∨ w.heap.size ≤ e.1) : OwnL B w' gs ls := ⟨fun x hx => (h.1 x hx).keep hm hs, h.2⟩
theorem OwnL.rdP {B : Nat} {w : World} {gs : List Nat} {g c : Nat} {T : TypeId} {cs : Array Value} {ls : List Pk} (h : OwnL B w gs ls) (hr : RowOk c cs ls) (hb : Blk w g T cs) : RdP w (some ⟨g, 0, none⟩) ls.length ls := by
  refine ⟨rfl, fun _ => ⟨_, rfl, fun j x hx => ?_⟩⟩
  obtain ⟨h1, h2⟩ := hr.at_ hx
  obtain ⟨gx, e, -, -, h3, -, h4⟩ := h.1 x (List.mem_of_getElem? hx)
  refine ⟨by rw [add_own, hb.cell]; exact h1, ?_, h3, by unfold maxLen; omega⟩
  rw [add_own]
  show w.cell? ⟨g, j * 2 + 1, none⟩ = _
  rw [hb.cell]
  exact h2
theorem run_store_two {w : World} {g o : Nat} {a b u v : Value} (ha : w.cell? ⟨g, o, none⟩ = some a) (hb : w.cell? ⟨g, o + 1, none⟩ = some b) (fa : w.frozen? ⟨g, o, none⟩ = false) (fb : w.frozen? ⟨g, o + 1, none⟩ = false) (hu : u.oneCell' = true) (hv : v.oneCell' = true) :
    (storeVar 46 ⟨g, o, none⟩ (.agg #[u, v])).run Try.prog w = .ok () ((w.setCell ⟨g, o, none⟩ u).setCell ⟨g, o + 1, none⟩ v) := by
  have hs := sizePk w
  unfold storeVar
  simp [Value.cells, storeCells, go_sem, hs, run_store, hu, hv, ha, hb, fa, fb]
section
variable {ops : Array Oper} {rest : List Oper} {o : Oper} {a : Act} {w w0 w1 : World} {Q : Exit → Act → World → Prop} {L : List Ent}
/-- a packet, stored in a row -/
theorem wv_stP (hgd : Region.wanted o (yielded ops a.tmps) = true) (x y : Operand) (ho : o.op = .store 46 x y) {g k : Nat} (hx : a.eval x = .pointer (some ⟨g, k, none⟩)) {s : Int} {A : Option Addr} {n c : Nat} (hy : a.eval y = .agg #[.int .i64 s, .slice A n c]) (hm : Hid (MV w0 w1 L w)) {i : Nat} {T0 : TypeId} {cs : Array Value} (hi : VNth L i (g, T0, cs)) (hk : Hid (k + 1 < cs.size))
    (h : ∀ w', Hid (MV w0 w1 (L.set i (g, T0, (cs.setIfInBounds k (.int .i64 s)).setIfInBounds (k + 1) (.slice A n c))) w') → wpList Try.prog ops Q rest (a.put o.dst undef) w') : wpList Try.prog ops Q (o :: rest) a w :=
  wl_step hgd fun K hK => by
    have hb := hm.out.get (List.mem_of_getElem? hi)
    have hil := (List.getElem?_eq_some_iff.1 hi).1
    have m1 := hm.out.put i hi k (.int .i64 s)
    have m2 := m1.put i (List.getElem?_set_self hil) (k + 1) (.slice A n c)
    rw [List.set_set] at m2
    have := hK _ _ (h _ (Lib.hid m2))
    obtain ⟨v1, h1⟩ : ∃ v1, cs[k]? = some v1 := ⟨_, Array.getElem?_eq_getElem (Nat.lt_of_succ_lt hk.out)⟩
    obtain ⟨v2, h2⟩ : ∃ v2, cs[k + 1]? = some v2 := ⟨_, Array.getElem?_eq_getElem hk.out⟩
    unfold Oper.wp execOp
    simp only [ho, hx, hy, Instr.storeAt, Instr.sureAddr, Sem.run_bind, Sem.run_pure, Result.andThen_ok, run_store_two ((hb.cell k).trans h1) ((hb.cell (k + 1)).trans h2) (hb.frozen k) (hb.frozen (k + 1)) (u := .int .i64 s) (v := .slice A n c) rfl rfl]
    exact this
/-- a row of zeros, made -/
theorem wv_make (hgd : Region.wanted o (yielded ops a.tmps) = true) (t : TypeId) (x y : Operand) (ho : o.op = .makeSlice t x y) {n : Nat} (hx : a.eval x = .int .i64 (n : Int)) (hy : a.eval y = .int .i64 (n : Int)) (e : TypeId) (i : TypeInfo) (z : Value) (ht : Try.prog.underlying t = some (.slice e)) (hi : Try.prog.info? e = some i) (hz : i.zero = some z) (hb : i.bytes ≤ 1000) (hm : Hid (MV w0 w1 L w)) (hn : Hid (n ≤ 100000))
    (h : ∀ g w', Hid (w1.heap.size ≤ g) → Hid (MV w0 w1 ((g, e, madeCells z.cells (n * i.size)) :: L) w') → wpList Try.prog ops Q rest (a.put o.dst (.slice (some ⟨g, 0, none⟩) n n)) w') : wpList Try.prog ops Q (o :: rest) a w :=
  wl_step hgd fun K hK => by
    have := hK _ _ (h w.heap.size _ (Lib.hid hm.out.2.2.2.2.1) (Lib.hid (hm.out.alloc e _)))
    have hn' := hn.out
    have hr := run_make w t e i z ht hi hz .i64 .i64 (n : Int) (n : Int) (by omega) (Int.le_refl _) (by
      have : (i.bytes : Int) * (n : Int) ≤ 1000 * 100000 := Int.mul_le_mul (by omega) (by omega) (by omega) (by omega)
      omega) (by omega)
    simp only [Int.toNat_natCast] at hr
    unfold Oper.wp execOp
    simp only [ho, hx, hy, Sem.run_bind, Sem.run_pure, hr, Result.andThen]
    exact this
end
/-- the same packets elsewhere -/
def Alike (os ls : List Pk) : Prop := os.map pl = ls.map pl ∧ os.map (·.n) = ls.map (·.n)
theorem Alike.len {os ls : List Pk} (h : Alike os ls) : os.length = ls.length := by have := congrArg List.length h.1; simpa using this
theorem pl_inj {x y : Pk} (h : pl x = pl y) : x.s = y.s ∧ x.bs = y.bs := by unfold pl at h; injection h with a b; exact ⟨a, b⟩
end Go.Proofs.Ytffapinabidkiaa.Lp
