/-
  Own texts, laid together: Lz.
-/
import Derived.Test.YtplfcncibmgllaaLt
import Derived.Test.YtplfcncibmgllaaLw
import Derived.Test.YtplfcncibmgllaaLy
import Derived.Maps.AppendAt
/- Lz -/
namespace Go.Proofs.Ytplfcncibmgllaa.Lp
open Go.RowKit Go.Proofs.Ytplfcncibmgllaa.Fx Go.Proofs.Ytplfcncibmgllaa.Fq Go.Proofs.Ytplfcncibmgllaa.Tb
theorem Mem.join {w0 wr u : World} {L0 L1 : List (Nat × TypeId × List Int)} (h0 : Mem w0 L0 wr) (h1 : Mem wr L1 u) : Mem w0 (L1 ++ L0) u := by
  have hk := h0.below h1.1
  refine ⟨hk.1, fun e he => ?_, fun e he => ?_, List.pairwise_append.2 ⟨h1.2.2.2, h0.2.2.2, fun a ha b hb => ?_⟩⟩
  · rcases List.mem_append.1 he with he | he
    · exact h1.2.1 e he
    · exact hk.2.1 e he
  · rcases List.mem_append.1 he with he | he
    · exact Nat.le_trans h0.1.size (h1.2.2.1 e he)
    · exact h0.2.2.1 e he
  · have k1 := h1.2.2.1 a ha
    have k2 := (h0.2.1 b hb).lt
    omega
theorem Mem.grown {w0 u u' : World} {L : List (Nat × TypeId × List Int)} {row : Option Nat} (h : Mem w0 L u) (hb : u.grownBy u' row) (hne : ∀ e ∈ L, row ≠ some e.1) (hlow : ∀ g, row = some g → w0.heap.size ≤ g) : Mem w0 L u' := by
  have hB : Below w0.heap.size w0 u' := by
    refine ⟨hb.os.trans h.1.os, hb.tape.trans h.1.tape, hb.output.trans h.1.output, Nat.le_trans h.1.size hb.size, fun i hi => (hb.block i (Nat.lt_of_lt_of_le hi h.1.size) (fun e => ?_)).trans (h.1.block i hi)⟩
    have := hlow i e.symm
    omega
  exact ⟨hB, fun e he => (hb.block e.1 (h.2.1 e he).lt (fun k => hne e he k.symm)).trans (h.2.1 e he), h.2.2.1, h.2.2.2⟩
section
variable {w u : World} {B : Nat} {e : TypeId} {s n : Nat} {v : Value} {xs : List Value}
theorem own_blk (h : u.ownsRow B e s v n xs) {g : Nat} (hg : v.ownBlock = some g) : B ≤ g ∧ g < u.heap.size := by
  rcases h.2 with ⟨rfl, -⟩ | ⟨g', cap, cur, rfl, hB, hh, -⟩
  · cases hg
  · simp only [Value.ownBlock, Option.some.injEq] at hg
    subst hg
    exact ⟨hB, (Array.getElem?_eq_some_iff.1 hh).1⟩
theorem own_below (h : w.ownsRow B e s v n xs) (hb : Below w.heap.size w u) : u.ownsRow B e s v n xs := by
  refine ⟨h.1, ?_⟩
  rcases h.2 with h | ⟨g, cap, cur, hv, hB, hh, h1⟩
  · exact .inl h
  · exact .inr ⟨g, cap, cur, hv, hB, (hb.block g (Array.getElem?_eq_some_iff.1 hh).1).trans hh, h1⟩
theorem own_far (h : u.ownsRow B e s v n xs) {g : Nat} (hg : g < B) (cs : Array Value) : (u.setRow g cs).ownsRow B e s v n xs := by
  refine ⟨h.1, ?_⟩
  rcases h.2 with h | ⟨g', cap, cur, hv, hB, hh, h1⟩
  · exact .inl h
  · exact .inr ⟨g', cap, cur, hv, hB, (setRow_other u g g' cs (by omega)).trans hh, h1⟩
end
theorem own_rdA {u : World} {B n : Nat} {v : Value} {fs : List (List Int)} (h : u.ownsRow B 28 16 v n (ic fs.flatten)) (hf : All16 fs) (hl : fs.length = n) : ∃ A m, v = .slice A n m ∧ RdA u A n fs := by
  rcases h.2 with ⟨rfl, rfl⟩ | ⟨g, cap, cur, rfl, hB, hh, hc, hm, hs, ht⟩
  · exact ⟨none, 0, rfl, hl, hf, fun h => absurd h (by omega)⟩
  · refine ⟨_, _, rfl, hl, hf, fun _ => ⟨_, rfl, fun i f hi j x hx => ?_⟩⟩
    have hj : j < 16 := by
      have := (List.getElem?_eq_some_iff.1 hx).1
      rw [ic_length, hf f (List.mem_of_getElem? hi)] at this; exact this
    have hil : i < fs.length := (List.getElem?_eq_some_iff.1 hi).1
    rw [add_of_add, add_own, cell_of_row u g _ cur _ _ hh]
    have e1 := flatten_get fs i f j hf hi hj
    have e2 : cur.toList[i * 16 + j]? = (ic fs.flatten)[i * 16 + j]? := by
      rw [← ht, List.getElem?_take, if_pos (by omega)]
    rw [← Array.getElem?_toList, e2, ic, List.getElem?_map, e1, ← hx, ic, List.getElem?_map]
section
variable {ops : Array Oper} {rest : List Oper} {o : Oper} {a : Act} {w w0 : World} {Q : Exit → Act → World → Prop} {L : List (Nat × TypeId × List Int)}
theorem wl_storeE (hgd : Region.wanted o (yielded ops a.tmps) = true) (T : TypeId) (x y : Operand) (ho : o.op = .store T x y) {g n : Nat} (hx : a.eval x = .pointer (some ⟨g, 0, none⟩)) {ys : List Int} (hy : a.eval y = .agg (icells ys)) (ha : Arr T n) {xs : List Int}
    (hm : Hid (Mem w0 L w)) (i : Nat) (hi : L[i]? = some (g, T, xs)) (hl : Hid (xs.length = n)) (hl' : Hid (ys.length = n))
    (h : wpList Try.prog ops Q rest (a.put o.dst undef) (w.setRow g (icells ys))) : wpList Try.prog ops Q (o :: rest) a w :=
  wl_step hgd fun K hK => by
    have := hK _ _ h
    unfold Oper.wp execOp
    simp only [ho, hx, hy, Instr.storeAt, Instr.sureAddr, Sem.run_bind, Sem.run_pure, Result.andThen_ok, run_store_mem ha hm.out (List.mem_of_getElem? hi) hl.out hl'.out]
    exact this
end
end Go.Proofs.Ytplfcncibmgllaa.Lp
