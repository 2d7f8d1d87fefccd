/-
  Packets in a row of one's own, swapped; what stays where only some blocks turn.
-/
import Derived.Test.YtffapinabidkiaaV3
import Derived.Test.YtffapinabidkiaaV5
import Derived.Test.YtffapinabidkiaaV6
set_option linter.unusedSimpArgs false
set_option linter.unusedVariables false
/- V7 -/
namespace Go.Proofs.Ytffapinabidkiaa.Lp
open Go.RowKit Go.Proofs.Ytffapinabidkiaa.Fq
theorem MV.pop {w0 w1 w : World} {g : Nat} {T : TypeId} {cs : Array Value} {L : List Ent} (h : MV w0 w1 ((g, T, cs) :: L) w) (hg : w1.heap.size ≤ g) : MV w0 w1 L w :=
  ⟨h.1, fun e he => h.2.1 e (.tail _ he), fun e he => h.2.2.1 e (.tail _ he), (List.pairwise_cons.1 h.2.2.2.1).2, h.2.2.2.2.1, fun b hb hn => h.2.2.2.2.2 b hb fun e he => by
    rcases List.mem_cons.1 he with rfl | he
    · show g ≠ b; omega
    · exact hn e he⟩
theorem Kp.less {F : World → Prop} {gs hs : List Nat} {w : World} (h : Kp F gs w) (hg : ∀ b ∈ hs, b ∈ gs) : Kp F hs w := fun v hv => h v ((Ch.of_below (Below.refl _ _) gs).trans hv fun _ hx => .inl (hg _ hx))
theorem pcs_set : ∀ (ls : List Pk) (k : Nat) (x : Pk), pcs (ls.set k x) = ((pcs ls).set (k * 2) (.int .i64 x.s)).set (k * 2 + 1) (.slice x.A x.n x.c)
  | [], k, x => by simp [pcs]
  | y :: l, 0, x => by simp [pcs]
  | y :: l, k + 1, x => by
    rw [List.set_cons_succ, pcs_cons, pcs_cons, pcs_set l k x, show (k + 1) * 2 = k * 2 + 1 + 1 by omega]
    rfl
theorem RowOk.set {c : Nat} {cs : Array Value} {ls : List Pk} (h : RowOk c cs ls) (k : Nat) (x : Pk) : RowOk c ((cs.setIfInBounds (k * 2) (.int .i64 x.s)).setIfInBounds (k * 2 + 1) (.slice x.A x.n x.c)) (ls.set k x) := by
  refine ⟨by rw [List.length_set]; exact h.1, h.2.1, by simp [h.2.2.1], ?_⟩
  rw [List.length_set, pcs_set, ← h.2.2.2, Array.toList_setIfInBounds, Array.toList_setIfInBounds, List.take_set, List.take_set]
section
variable {o : Oper} {a : Act} {w w0 w1 : World} {Q : Exit → Act → World → Prop} {K : Act → World → Prop} {L : List Ent}
theorem ov_stP (x y : Operand) (ho : o.op = .store 46 x y) {g k : Nat} (hx : a.eval x = .pointer (some ⟨g, k, none⟩)) {s : Int} {A : Option Addr} {n c : Nat} (hy : a.eval y = .agg #[.int .i64 s, .slice A n c]) {T0 : TypeId} {cs : Array Value} (hm : Hid (MV w0 w1 ((g, T0, cs) :: L) w)) (hk : Hid (k + 1 < cs.size)) (hd : o.dst = none)
    (h : ∀ w', Hid (MV w0 w1 ((g, T0, (cs.setIfInBounds k (.int .i64 s)).setIfInBounds (k + 1) (.slice A n c)) :: L) w') → K (a.put none undef) w') : o.wp Try.prog a w K Q := by
  rw [← hd] at h
  have hb := hm.out.get (g := g) (T := T0) (cs := cs) (.head _)
  have m1 := hm.out.put 0 rfl k (.int .i64 s)
  have m2 := m1.put 0 rfl (k + 1) (.slice A n c)
  have := h _ (Lib.hid m2)
  obtain ⟨v1, h1⟩ : ∃ v1, cs[k]? = some v1 := ⟨_, Array.getElem?_eq_getElem (Nat.lt_of_succ_lt hk.out)⟩
  obtain ⟨v2, h2⟩ : ∃ v2, cs[k + 1]? = some v2 := ⟨_, Array.getElem?_eq_getElem hk.out⟩
  unfold Oper.wp execOp
  simp only [ho, hx, hy, Instr.storeAt, Instr.sureAddr, Sem.run_bind, Sem.run_pure, Result.andThen_ok, run_store_two ((hb.cell k).trans h1) ((hb.cell (k + 1)).trans h2) (hb.frozen k) (hb.frozen (k + 1)) (u := .int .i64 s) (v := .slice A n c) rfl rfl]
  exact this
end
/-- the packets of a list, in whatever order they lie in a row of one's own -/
theorem rdP_perm {w : World} {g c n : Nat} {T : TypeId} {cs : Array Value} {ls lp : List Pk} {A : Option Addr} (h : RdP w A n ls) (hp : lp.Perm ls) (hr : RowOk c cs lp) (hb : Blk w g T cs) : RdP w (some ⟨g, 0, none⟩) n lp := by
  refine ⟨hp.length_eq.trans h.1, fun _ => ⟨_, rfl, fun j x hx => ?_⟩⟩
  obtain ⟨h1, h2⟩ := hr.at_ hx
  obtain ⟨h3, h4⟩ := h.rd (hp.mem_iff.1 (List.mem_of_getElem? hx))
  refine ⟨by rw [add_own, hb.cell]; exact h1, ?_, h3, h4⟩
  rw [add_own]
  show w.cell? ⟨g, j * 2 + 1, none⟩ = _
  rw [hb.cell]
  exact h2
theorem swap_perm {ls : List Pk} {a b : Nat} {x y : Pk} (ha : ls[a]? = some x) (hb : ls[b]? = some y) : ((ls.set a y).set b x).Perm ls := by
  obtain ⟨h1, e1⟩ := List.getElem?_eq_some_iff.1 ha
  obtain ⟨h2, e2⟩ := List.getElem?_eq_some_iff.1 hb
  rw [← e1, ← e2]
  exact List.set_set_perm h1 h2
/-- a step, with its parts -/
theorem RdO.at5 {w : World} {AL : Option Addr} {n k : Nat} {os : List Opk} (h : RdO w AL n os) (hk : k < n) :
    ∃ (L : Addr) (XA : Option Addr) (xn xc : Nat) (xl : List Pk) (xp : Int), AL = some L ∧ L.block < w.heap.size ∧ w.cell? (L.add (k * 2)) = some (.slice XA xn xc) ∧ w.cell? ⟨(L.add (k * 2)).block, (L.add (k * 2)).off + 1, none⟩ = some (.int .i64 xp) ∧ RdP w XA xn xl ∧ xn * 32 ≤ 140737488355328 ∧ xn ≤ xc ∧ -9223372036854775808 ≤ xp ∧ xp ≤ 9223372036854775807 := by
  obtain ⟨L, x, h1, h2, -, h3, h4, h5, ⟨h6, h7⟩, h8, h9⟩ := h.at_ hk
  exact ⟨L, x.A, x.n, x.c, x.ls, x.p, h1, h2, h3, h4, h5, h6, h7, h8, h9⟩
/-- the turned packets stay where only blocks turn that are not theirs -/
theorem kp_perm {w0 w : World} {gT c n : Nat} {T : TypeId} {cs : Array Value} {ls lp : List Pk} {A : Option Addr} {gs : List Nat} (h : RdP w0 A n ls) (h0 : Below w0.heap.size w0 w) (hp : lp.Perm ls) (hr : RowOk c cs lp) (hb : Blk w gT T cs) (hg : ∀ g ∈ gs, w0.heap.size ≤ g) (hn : gT ∉ gs) : Kp (fun u => RdP u (some ⟨gT, 0, none⟩) n lp) gs w :=
  fun _ hu => rdP_perm (h.keep (hu.below h0 hg h0.size)) hp hr (hu.blk hb hn)
theorem mem_four {g1 g2 g3 g4 B : Nat} {a1 a2 a3 a4 : TypeId × Array Value} (h : Hid (B ≤ g4)) : ∀ e ∈ ([(g4, a4), (g3, a3), (g2, a2), (g1, a1)] : List Ent), e.1 ∈ [g3, g2, g1] ∨ B ≤ e.1 := fun e he => by
  simp only [List.mem_cons, List.not_mem_nil, or_false] at he
  rcases he with rfl | rfl | rfl | rfl
  · exact .inr h.out
  · exact .inl (by simp)
  · exact .inl (by simp)
  · exact .inl (by simp)
theorem MV.plus {w0 w1 w : World} {L : List Ent} (h : MV w0 w1 L w) {g : Nat} {T : TypeId} {cs : Array Value} (hb : Blk w g T cs) (hg : ∀ e ∈ L, e.1 ≠ g) (h0 : w0.heap.size ≤ g) : MV w0 w1 ((g, T, cs) :: L) w :=
  ⟨h.1, fun e he => by rcases List.mem_cons.1 he with rfl | he; exact hb; exact h.2.1 e he, fun e he => by rcases List.mem_cons.1 he with rfl | he; exact h0; exact h.2.2.1 e he, .cons (fun e he => (hg e he).symm) h.2.2.2.1, h.2.2.2.2.1, fun b hb hn => h.2.2.2.2.2 b hb fun e he => hn e (.tail _ he)⟩
/-- packets of one's own, turned, beside the blocks L -/
def TurnI (w wb : World) (L : List Ent) (Av : Option Addr) (n cv : Nat) (ls : List Pk) (u : World) : Prop :=
  ∃ lp : List Pk, lp.Perm ls ∧ MV w wb L u ∧ (n = 0 ∨ ∃ gT cs, Av = some ⟨gT, 0, none⟩ ∧ wb.heap.size ≤ gT ∧ RowOk cv cs lp ∧ MV w wb ((gT, 46, cs) :: L) u)
theorem turn_start {w wb u w1 : World} {L : List Ent} {v1 : Value} {n : Nat} {ls : List Pk} {A : Option Addr} (hm : MV w wb L u) (hown : w1.ownsRow u.heap.size 46 2 v1 (0 + n) (pcs ([] ++ ls))) (hg : u.grownBy w1 (Value.slice none 0 0).ownBlock) (hr : RdP w A n ls) : ∃ Av cv, v1 = .slice Av n cv ∧ TurnI w wb L Av n cv ls w1 := by
  have hm1 := hm.below (w' := w1) ⟨hg.os, hg.tape, hg.output, hg.size, fun i hi => hg.block i hi (fun e => by cases e)⟩
  have h := app_zero hown
  have hl : ls.length = n := hr.1
  rcases h.2 with ⟨rfl, h0⟩ | ⟨g, cap, cur, rfl, hB, hh, h1, h2, h3, h4⟩
  · obtain rfl : n = 0 := h0
    exact ⟨none, 0, rfl, ls, List.Perm.refl _, hm1, .inl rfl⟩
  · refine ⟨some ⟨g, 0, none⟩, cap, rfl, ls, List.Perm.refl _, hm1, .inr ⟨g, cur, rfl, Nat.le_trans hm.2.2.2.2.1 hB, ⟨by omega, h2, h3, by rw [hl]; exact h4⟩, hm1.plus hh (fun e he => ?_) (Nat.le_trans hm.1.size hB)⟩⟩
    have := (hm.2.1 e he).lt
    omega
theorem TurnI.kp {w wb u : World} {L : List Ent} {Av A : Option Addr} {n cv : Nat} {ls : List Pk} (h : TurnI w wb L Av n cv ls u) (hr : RdP w A n ls) : ∃ lp : List Pk, lp.Perm ls ∧ MV w wb L u ∧ Kp (fun u => RdP u Av n lp) (L.map (·.1)) u := by
  obtain ⟨lp, hp, hm, h0 | ⟨gT, cs, rfl, hgT, hro, hm2⟩⟩ := h
  · exact ⟨lp, hp, hm, fun v _ => ⟨hp.length_eq.trans hr.1, fun h => absurd h (by omega)⟩⟩
  · refine ⟨lp, hp, hm, kp_perm hr hm.1 hp hro (hm2.get (.head _)) (fun g hg => ?_) (fun hg => ?_)⟩
    · obtain ⟨e, he, rfl⟩ := List.mem_map.1 hg
      exact hm.2.2.1 e he
    · obtain ⟨e, he, e2⟩ := List.mem_map.1 hg
      exact (List.pairwise_cons.1 hm2.2.2.2.1).1 e he e2.symm
theorem rem_nat (i n : Nat) (hn : 0 < n) : ∃ a : Nat, (i : Int).tmod (n : Int) = (a : Int) ∧ a < n :=
  ⟨i % n, by rw [Int.tmod_eq_emod_of_nonneg (by omega)]; rfl, Nat.mod_lt _ hn⟩
/-- two packets of a row, swapped -/
theorem RowOk.swap {c : Nat} {cs : Array Value} {lp : List Pk} (h : RowOk c cs lp) {a b : Nat} {x y : Pk} (ha : lp[a]? = some x) (hb : lp[b]? = some y) :
    RowOk c ((((cs.setIfInBounds (a * 2) (.int .i64 y.s)).setIfInBounds (a * 2 + 1) (.slice y.A y.n y.c)).setIfInBounds (b * 2) (.int .i64 x.s)).setIfInBounds (b * 2 + 1) (.slice x.A x.n x.c)) ((lp.set a y).set b x) ∧ ((lp.set a y).set b x).Perm lp :=
  ⟨(h.set a y).set b x, swap_perm ha hb⟩
theorem Kp.onto {F : World → Prop} {gs hs : List Nat} {w u : World} (h : Kp F gs w) (hc : Ch w u gs) (hg : ∀ g ∈ hs, g ∈ gs ∨ w.heap.size ≤ g) : Kp F hs u := fun v hv => h v (hc.trans hv hg)
theorem Kp.both {F G : World → Prop} {gs : List Nat} {w : World} (h : Kp F gs w) (k : Kp G gs w) : Kp (fun u => F u ∧ G u) gs w := fun v hv => ⟨h v hv, k v hv⟩
theorem Kp.map {F G : World → Prop} {gs : List Nat} {w : World} (h : Kp F gs w) (k : ∀ u, F u → G u) : Kp G gs w := fun v hv => k v (h v hv)
theorem mem_tri {g1 g2 g3 B : Nat} {a1 a2 a3 : TypeId × Array Value} : ∀ e ∈ ([(g3, a3), (g2, a2), (g1, a1)] : List Ent), e.1 ∈ [g3, g2, g1] ∨ B ≤ e.1 := fun e he => by
  simp only [List.mem_cons, List.not_mem_nil, or_false] at he
  rcases he with rfl | rfl | rfl
  · exact .inl (by simp)
  · exact .inl (by simp)
  · exact .inl (by simp)
theorem mem_five {g1 g2 g3 g4 g5 B : Nat} {a1 a2 a3 a4 a5 : TypeId × Array Value} (h : Hid (B ≤ g5)) : ∀ e ∈ ([(g5, a5), (g4, a4), (g3, a3), (g2, a2), (g1, a1)] : List Ent), e.1 ∈ [g4, g3, g2, g1] ∨ B ≤ e.1 := fun e he => by
  simp only [List.mem_cons, List.not_mem_nil, or_false] at he
  rcases he with rfl | rfl | rfl | rfl | rfl
  · exact .inr h.out
  · exact .inl (by simp)
  · exact .inl (by simp)
  · exact .inl (by simp)
  · exact .inl (by simp)
theorem mem_3b {g1 g2 g3 B : Nat} {a1 a2 a3 : TypeId × Array Value} (h : Hid (B ≤ g3)) : ∀ e ∈ ([(g3, a3), (g2, a2), (g1, a1)] : List Ent), e.1 ∈ [g2, g1] ∨ B ≤ e.1 := fun e he => by
  simp only [List.mem_cons, List.not_mem_nil, or_false] at he
  rcases he with rfl | rfl | rfl
  · exact .inr h.out
  · exact .inl (by simp)
  · exact .inl (by simp)
theorem mem_2b {g1 g2 B : Nat} {a1 a2 : TypeId × Array Value} : ∀ e ∈ ([(g2, a2), (g1, a1)] : List Ent), e.1 ∈ [g2, g1] ∨ B ≤ e.1 := fun e he => by
  simp only [List.mem_cons, List.not_mem_nil, or_false] at he
  rcases he with rfl | rfl
  · exact .inl (by simp)
  · exact .inl (by simp)
theorem on_new {g : Nat} {gs : List Nat} {B : Nat} (h : B ≤ g) : ∀ x ∈ g :: gs, x ∈ gs ∨ B ≤ x := fun x hx => by
  rcases List.mem_cons.1 hx with rfl | hx
  · exact .inr h
  · exact .inl hx
theorem all_lt2 {g1 g2 B : Nat} (h1 : g1 < B) (h2 : g2 < B) : ∀ b ∈ [g2, g1], b < B := fun b hb => by
  simp only [List.mem_cons, List.not_mem_nil, or_false] at hb
  rcases hb with rfl | rfl
  · exact h2
  · exact h1
theorem all_lt3 {g1 g2 g3 B : Nat} (h1 : g1 < B) (h2 : g2 < B) (h3 : g3 < B) : ∀ b ∈ [g3, g2, g1], b < B := fun b hb => by
  rcases List.mem_cons.1 hb with rfl | hb
  · exact h3
  · exact all_lt2 h1 h2 b hb
theorem all_lt4 {g1 g2 g3 g4 B : Nat} (h1 : g1 < B) (h2 : g2 < B) (h3 : g3 < B) (h4 : g4 < B) : ∀ b ∈ [g4, g3, g2, g1], b < B := fun b hb => by
  rcases List.mem_cons.1 hb with rfl | hb
  · exact h4
  · exact all_lt3 h1 h2 h3 b hb
end Go.Proofs.Ytffapinabidkiaa.Lp
