/-
  The relation of BitsBack's second loop, and what is read in it.
-/
import Derived.Test.YthaannpkgljngaaBd
namespace Go.Proofs.Ythaannpkgljngaa
open Go.RowKit

theorem flatT_split (ps : List Pt) (k : Nat) (p : Pt) (h : ps[k]? = some p) : flatT ps = flatT (ps.take k) ++ (p.c ++ flatT (ps.drop (k + 1))) := by
  have hk : k < ps.length := (List.getElem?_eq_some_iff.1 h).1
  have e : ps = ps.take k ++ (p :: ps.drop (k + 1)) := by
    have hp : ps[k] = p := (List.getElem?_eq_some_iff.1 h).2
    rw [← hp, ← List.drop_eq_getElem_cons hk, List.take_append_drop]
  have : flatT ps = flatT (ps.take k ++ (p :: ps.drop (k + 1))) := congrArg flatT e
  rw [this]
  simp [flatT]
theorem flatT_take_succ (ps : List Pt) (k : Nat) (p : Pt) (h : ps[k]? = some p) : flatT (ps.take (k + 1)) = flatT (ps.take k) ++ p.c := by
  rw [List.take_add_one, h]
  simp [flatT]
theorem cellsT_get (ps : List Pt) (j : Nat) (p : Pt) (h : ps[j]? = some p) : (cellsT ps)[j * 2]? = some (.int .u64 (p.V : Int)) ∧ (cellsT ps)[j * 2 + 1]? = some (.int .i64 p.W) := by
  induction ps generalizing j with
  | nil => simp at h
  | cons q ps ih =>
    have e : cellsT (q :: ps) = .int .u64 (q.V : Int) :: .int .i64 q.W :: cellsT ps := by simp [cellsT, Pt.cells]
    cases j with
    | zero =>
      simp only [List.getElem?_cons_zero, Option.some.injEq] at h
      subst h
      rw [e]
      exact ⟨rfl, rfl⟩
    | succ j =>
      simp only [List.getElem?_cons_succ] at h
      have := ih j h
      rw [e, show (j + 1) * 2 = j * 2 + 1 + 1 by omega, show j * 2 + 1 + 1 + 1 = (j * 2 + 1) + 1 + 1 by omega]
      exact this
theorem startsT_get (l0 : List Bool) (ps : List Pt) (j : Nat) (h : j < ps.length) : (startsT l0 ps)[j]? = some (.int .i64 (((l0 ++ flatT (ps.take j)).length : Nat) : Int)) := by
  unfold startsT
  rw [List.getElem?_map, List.getElem?_range h]
  rfl

/-- what lies ahead of the second loop, and stays -/
def QS (w : World) (l0 l1 : List Bool) (gb ga : Nat) (ps : List Pt) (vp va b0 : Value) (A3 : Option Addr) (n3 c3 NT : Nat) (wr : World) : Prop :=
  Below w.heap.size w wr ∧ wr.ownsRow w.heap.size 43 2 vp ps.length (cellsT ps) ∧ wr.ownsRow w.heap.size 3 1 va ps.length (startsT l0 ps) ∧
  Blk wr gb 24 #[b0, .int .i64 ((l0 ++ flatT ps).length : Int)] ∧ Blk wr ga 24 #[.slice A3 n3 c3, .int .i64 (NT : Int)] ∧
  IsB wr (.agg #[.slice A3 n3 c3, .int .i64 (NT : Int)]) ((l0 ++ flatT ps) ++ l1)
section
variable {w wr w1 : World} {l0 l1 : List Bool} {gb ga : Nat} {ps : List Pt} {vp va b0 : Value} {A3 : Option Addr} {n3 c3 NT : Nat}
theorem QS.next (h : QS w l0 l1 gb ga ps vp va b0 A3 n3 c3 NT wr) (hb : Below wr.heap.size wr w1) : QS w l0 l1 gb ga ps vp va b0 A3 n3 c3 NT w1 := by
  obtain ⟨a1, a2, a3, a4, a5, a6⟩ := h
  exact ⟨a1.trans (hb.mono a1.size), row_below a2 hb, row_below a3 hb, a4.below hb a4.lt, a5.below hb a5.lt, a6.below hb⟩
theorem QS.alloc (h : QS w l0 l1 gb ga ps vp va b0 A3 n3 c3 NT wr) (o : Obj) : QS w l0 l1 gb ga ps vp va b0 A3 n3 c3 NT (wr.alloc o) := by
  obtain ⟨a1, a2, a3, a4, a5, a6⟩ := h
  exact ⟨a1.alloc a1.size o, World.ownsRow.alloc a2 o, World.ownsRow.alloc a3 o, a4.alloc o, a5.alloc o, a6.alloc o⟩
theorem QS.drew (h : QS w l0 l1 gb ga ps vp va b0 A3 n3 c3 NT wr) : QS w l0 l1 gb ga ps vp va b0 A3 n3 c3 NT wr.drew := by
  obtain ⟨a1, a2, a3, a4, a5, a6⟩ := h
  exact ⟨Below.drew a1, World.ownsRow.drew a2, World.ownsRow.drew a3, a4, a5, a6⟩
theorem QS.drewN (h : QS w l0 l1 gb ga ps vp va b0 A3 n3 c3 NT wr) (m : Nat) : QS w l0 l1 gb ga ps vp va b0 A3 n3 c3 NT (wr.drewN m) := by
  obtain ⟨a1, a2, a3, a4, a5, a6⟩ := h
  exact ⟨below_drewN a1 m, a2, a3, a4, a5, a6⟩
theorem QS.item {L : Addr} {n c k : Nat} {p : Pt} (h : QS w l0 l1 gb ga ps (.slice (some L) n c) va b0 A3 n3 c3 NT wr) (hp : ps[k]? = some p) :
    wr.cell? (L.add (k * 2)) = some (.int .u64 (p.V : Int)) ∧ wr.cell? ⟨(L.add (k * 2)).block, (L.add (k * 2)).off + 1, none⟩ = some (.int .i64 p.W) := by
  have hk : k < ps.length := (List.getElem?_eq_some_iff.1 hp).1
  obtain ⟨g, cap, e, _, _⟩ := World.ownsRow.form h.2.1 (by omega)
  injection e with e1 e2 e3
  injection e1 with e1
  subst e1
  obtain ⟨c0, c1⟩ := cellsT_get ps k p hp
  refine ⟨World.ownsRow.cells h.2.1 (g := g) rfl _ _ c0, ?_⟩
  have := World.ownsRow.cells h.2.1 (g := g) rfl _ _ c1
  rw [add_own] at this ⊢
  exact this
theorem QS.place {L : Addr} {n c k : Nat} (h : QS w l0 l1 gb ga ps vp (.slice (some L) n c) b0 A3 n3 c3 NT wr) (hk : k < ps.length) :
    wr.cell? (L.add k) = some (.int .i64 (((l0 ++ flatT (ps.take k)).length : Nat) : Int)) := by
  obtain ⟨g, cap, e, _, _⟩ := World.ownsRow.form h.2.2.1 (by omega)
  injection e with e1 e2 e3
  injection e1 with e1
  subst e1
  exact World.ownsRow.cells h.2.2.1 (g := g) rfl _ _ (startsT_get l0 ps k hk)
theorem QS.some_ {A9 A10 : Option Addr} {n c n' c' : Nat} (h : QS w l0 l1 gb ga ps (.slice A9 n c) (.slice A10 n' c') b0 A3 n3 c3 NT wr) (hk : 0 < ps.length) : (∃ L, A9 = some L) ∧ ∃ L, A10 = some L := by
  obtain ⟨g, cap, e, _, _⟩ := World.ownsRow.form h.2.1 (by omega)
  obtain ⟨g', cap', e', _, _⟩ := World.ownsRow.form h.2.2.1 (by omega)
  injection e with e1 _ _
  injection e' with e1' _ _
  exact ⟨⟨_, e1⟩, _, e1'⟩
end

/-- what is read at an item's place, by its kind -/
theorem kind_w {V : Nat} {W : Int} {c P T : List Bool} (hc : itemCode V W = some c) (hW : 0 ≤ W) : W ≤ 64 ∧ (W.toNat : Int) = W ∧ c.length = W.toNat ∧ V = num (((P ++ (c ++ T)).drop P.length).take W.toNat) := by
  unfold itemCode at hc
  rw [if_pos hW] at hc
  split at hc
  · rename_i h
    injection hc with hc
    subst hc
    refine ⟨h.1, by omega, bitsOf_length _ _, ?_⟩
    rw [List.drop_left, List.take_append_of_le_length (by rw [bitsOf_length]; omega), List.take_of_length_le (by rw [bitsOf_length]; omega), num_bitsOf, Nat.mod_eq_of_lt h.2]
  · cases hc
theorem kind_s {V : Nat} {W : Int} {c P T : List Bool} (hc : itemCode V W = some c) (hW : W < -1) : gc (P ++ (c ++ T)) P.length = (zig ((V : Int) % 2147483648 - 1073741824), P.length + c.length, 0) := by
  unfold itemCode at hc
  rw [if_neg (by omega), if_pos hW] at hc
  injection hc with hc
  subst hc
  exact gc_code P T _ (zig_lt _ (by omega) (by omega))
theorem kind_c {V : Nat} {c P T : List Bool} (hc : itemCode V (-1) = some c) : gc (P ++ (c ++ T)) P.length = (V, P.length + c.length, 0) := by
  unfold itemCode at hc
  rw [if_neg (by omega), if_neg (by omega)] at hc
  split at hc
  · rename_i h
    injection hc with hc
    subst hc
    exact gc_code P T V h
  · cases hc
theorem QS.parts {l0 l1 : List Bool} {ps : List Pt} {k : Nat} {p : Pt} (hp : ps[k]? = some p) : (l0 ++ flatT ps) ++ l1 = (l0 ++ flatT (ps.take k)) ++ (p.c ++ (flatT (ps.drop (k + 1)) ++ l1)) := by
  rw [flatT_split ps k p hp]
  simp [List.append_assoc]
end Go.Proofs.Ythaannpkgljngaa
