/-
  Words for lists of ints in memory, and plain facts on counts and their sums.
-/
import Derived.Test.YtlmkcipcclomdaaMem
namespace Go.Proofs.Ytlmkcipcclomdaa.Fq
open Go.RowKit

/-- the slice value '.slice A n c' reads as the ints zs -/
def RdI (w : World) (A : Option Addr) (n : Nat) (zs : List Int) : Prop :=
  zs.length = n ∧ (0 < n → ∃ ad, A = some ad ∧ ∀ j x, zs[j]? = some x → w.cell? (ad.add j) = some (.int .i64 x))
section
variable {w w' : World} {A : Option Addr} {n : Nat} {zs : List Int}
theorem RdI.none_ : RdI w A 0 [] := ⟨rfl, fun h => absurd h (by omega)⟩
theorem get_of_lt {k : Nat} (h : k < zs.length) : zs[k]? = some (zs.getD k 0) := by simp [List.getD_eq_getElem?_getD, h]
theorem RdI.at_ {k : Nat} (h : RdI w A n zs) (hk : k < n) : ∃ ad, A = some ad ∧ ad.block < w.heap.size ∧ w.cell? (ad.add k) = some (.int .i64 (zs.getD k 0)) := by
  obtain ⟨ad, e, hc⟩ := h.2 (by omega)
  have hcell := hc k _ (get_of_lt (by have := h.1; omega))
  have hb := World.block_lt_of_cell? _ _ hcell
  rw [block_of_add] at hb
  exact ⟨ad, e, hb, hcell⟩
theorem RdI.keep (h : RdI w A n zs) (hk : ∀ p : Addr, p.block < w.heap.size → w'.cell? p = w.cell? p) : RdI w' A n zs :=
  ⟨h.1, fun hn => by
    obtain ⟨ad, e, hc⟩ := h.2 hn
    refine ⟨ad, e, fun j x hx => ?_⟩
    have hcell := hc j x hx
    exact (hk _ (World.block_lt_of_cell? _ _ hcell)).trans hcell⟩
theorem RdI.below (h : RdI w A n zs) (hb : Below w.heap.size w w') : RdI w' A n zs := h.keep fun _ hp => hb.cell hp
theorem RdI.only {row : Nat} (h : RdI w A n zs) (hb : w.grownBy w' (some row)) (hA : ∀ ad, A = some ad → 0 < n → ad.block ≠ row) : RdI w' A n zs :=
  ⟨h.1, fun hn => by
    obtain ⟨ad, e, hc⟩ := h.2 hn
    refine ⟨ad, e, fun j x hx => ?_⟩
    have hcell := hc j x hx
    have hlt := World.block_lt_of_cell? _ _ hcell
    exact (World.cell?_of_block (hb.block _ hlt (fun e' => hA ad e hn (by rw [block_of_add] at e'; injection e')))).trans hcell⟩
theorem RdI.alloc (h : RdI w A n zs) (o : Obj) : RdI (w.alloc o) A n zs := h.keep fun p hp => World.cell?_alloc_lt w o p (by omega)
theorem RdI.drew (h : RdI w A n zs) : RdI w.drew A n zs := h
theorem RdI.drewN (h : RdI w A n zs) (k : Nat) : RdI (w.drewN k) A n zs := h
theorem RdI.zero {c : Nat} (h : RdI w A 0 zs) (_ : c = c) : zs = [] := List.eq_nil_of_length_eq_zero h.1
end
theorem RdI.cell {w : World} {ad : Addr} {n k : Nat} {zs : List Int} (h : RdI w (some ad) n zs) (hk : k < n) : w.cell? (ad.add k) = some (.int .i64 (zs.getD k 0)) := by
  obtain ⟨ad', e, _, hc⟩ := h.at_ hk
  injection e with e
  subst e
  exact hc
theorem RdI.cell0 {w : World} {ad : Addr} {n : Nat} {zs : List Int} (h : RdI w (some ad) n zs) (hk : 0 < n) : w.cell? ad = some (.int .i64 (zs.getD 0 0)) := by
  have := h.cell hk
  rwa [show ad.add 0 = ad by unfold Addr.add; simp] at this
theorem RdI.cellS {w : World} {ad : Addr} {n k : Nat} {zs : List Int} (h : RdI w (some ad) n zs) (hk : k + 1 < n) : w.cell? ⟨ad.block, ad.off + (k + 1), none⟩ = some (.int .i64 (zs.getD (k + 1) 0)) := by
  have := h.cell hk
  rwa [show ad.add (k + 1) = ⟨ad.block, ad.off + (k + 1), none⟩ by unfold Addr.add; simp] at this
/-- ints as a block's cells -/
def icells (zs : List Int) : Array Value := (zs.map fun x => Value.int .i64 x).toArray
theorem icells_size (zs : List Int) : (icells zs).size = zs.length := by simp [icells]
theorem icells_get {zs : List Int} {i : Nat} (h : i < zs.length) : (icells zs)[i]? = some (.int .i64 (zs.getD i 0)) := by
  simp [icells, List.getD_eq_getElem?_getD, h]
theorem icells_set (zs : List Int) (i : Nat) (x : Int) : (icells zs).setIfInBounds i (.int .i64 x) = icells (zs.set i x) := by
  simp [icells, List.map_set]
theorem icells_zero (m : Nat) : madeCells #[Value.int .i64 0] m = icells (List.replicate m 0) := by
  refine Array.ext (by simp [madeCells, icells_size]) fun i h1 h2 => ?_
  simp [madeCells, icells, Nat.mod_one]
theorem RdI.of_blk {w : World} {g : Nat} {t : TypeId} {zs : List Int} (h : Blk w g t (icells zs)) {n : Nat} (hn : zs.length = n) : RdI w (some ⟨g, 0, none⟩) n zs := by
  refine ⟨hn, fun _ => ⟨_, rfl, fun j x hx => ?_⟩⟩
  rw [add_own, h.cell]
  simp [icells, hx]
theorem blk_at {w : World} {g : Nat} {t : TypeId} {zs : List Int} (h : Blk w g t (icells zs)) {i : Nat} (hi : i < zs.length) : w.cell? ⟨g, i, none⟩ = some (.int .i64 (zs.getD i 0)) := (h.cell i).trans (icells_get hi)
theorem blk_put {w : World} {g : Nat} {t : TypeId} {zs : List Int} (h : Blk w g t (icells zs)) (i : Nat) (x : Int) : Blk (w.setCell ⟨g, i, none⟩ (.int .i64 x)) g t (icells (zs.set i x)) := by
  have := h.set_ i (.int .i64 x)
  rwa [icells_set] at this

/-- all together -/
def tot (l : List Int) : Int := l.foldr (· + ·) 0
theorem tot_nil : tot [] = 0 := rfl
theorem tot_cons (x : Int) (l : List Int) : tot (x :: l) = x + tot l := rfl
theorem tot_append (a b : List Int) : tot (a ++ b) = tot a + tot b := by
  induction a with
  | nil => simp [tot_nil]
  | cons x a ih => rw [List.cons_append, tot_cons, tot_cons, ih]; omega
theorem take_snocI (l : List Int) (k : Nat) (h : k < l.length) : l.take (k + 1) = l.take k ++ [l.getD k 0] := by
  rw [List.take_succ_eq_append_getElem h]
  simp [List.getD_eq_getElem?_getD, h]
theorem tot_snoc (l : List Int) (k : Nat) (h : k < l.length) : tot (l.take (k + 1)) = tot (l.take k) + l.getD k 0 := by
  rw [take_snocI l k h, tot_append, tot_cons, tot_nil]; omega
theorem tot_bd (l : List Int) (M : Int) (h : ∀ x ∈ l, 0 ≤ x ∧ x ≤ M) : 0 ≤ tot l ∧ tot l ≤ M * (l.length : Int) := by
  induction l with
  | nil => simp [tot_nil]
  | cons x l ih =>
    have h1 := h x (by simp)
    have h2 := ih fun y hy => h y (by simp [hy])
    rw [tot_cons, List.length_cons, Int.natCast_add, Int.mul_add]
    simp only [Int.mul_one, Int.natCast_one]
    omega
theorem mem_getD {l : List Int} {k : Nat} (h : k < l.length) : l.getD k 0 ∈ l := by
  have e : l.getD k 0 = l[k] := by simp [List.getD_eq_getElem?_getD, h]
  rw [e]; exact List.getElem_mem h
theorem take_bd {l : List Int} {M : Int} {n : Nat} (h : ∀ x ∈ l, 0 ≤ x ∧ x ≤ M) (hn : l.length ≤ n) (hM : 0 ≤ M) (k : Nat) : 0 ≤ tot (l.take k) ∧ tot (l.take k) ≤ M * (n : Int) := by
  have := tot_bd (l.take k) M fun x hx => h x (List.mem_of_mem_take hx)
  refine ⟨this.1, Int.le_trans this.2 (Int.mul_le_mul_of_nonneg_left ?_ hM)⟩
  have := List.length_take_le k l
  have : (l.take k).length ≤ l.length := by rw [List.length_take]; omega
  omega
/-- the table of counts, one on top of the other -/
def acc (l : List Int) : List Int := (List.range (l.length + 1)).map fun k => tot (l.take k)
theorem acc_length (l : List Int) : (acc l).length = l.length + 1 := by simp [acc]
theorem acc_getD (l : List Int) (k : Nat) (h : k ≤ l.length) : (acc l).getD k 0 = tot (l.take k) := by
  simp [acc, List.getD_eq_getElem?_getD, List.getElem?_range (show k < l.length + 1 by omega)]
/-- counts that may be -/
def okN (l : List Int) : Bool := decide (1 ≤ l.length ∧ l.length ≤ 256 ∧ (∀ x ∈ l, 1 ≤ x ∧ x ≤ 16384) ∧ tot l ≤ 16384)
/-- a table that may be -/
def okF (l : List Int) : Bool := decide (2 ≤ l.length ∧ l.length ≤ 257 ∧ l.getD 0 0 = 0 ∧ l.getD (l.length - 1) 0 ≤ 16384 ∧ ∀ k, k < l.length - 1 → l.getD k 0 < l.getD (k + 1) 0)
theorem okF_mono {l : List Int} (h : okF l = true) {i j : Nat} (hij : i < j) (hj : j < l.length) : l.getD i 0 < l.getD j 0 := by
  unfold okF at h
  obtain ⟨_, _, _, _, hs⟩ := of_decide_eq_true h
  induction j with
  | zero => omega
  | succ j ih =>
    have h1 := hs j (by omega)
    rcases Nat.lt_or_ge i j with hlt | hge
    · have := ih hlt (by omega); omega
    · have : i = j := by omega
      subst this; exact h1
theorem okF_bd {l : List Int} (h : okF l = true) {i : Nat} (hi : i < l.length) : 0 ≤ l.getD i 0 ∧ l.getD i 0 ≤ 16384 := by
  have h' := h
  unfold okF at h'
  obtain ⟨h2, _, h0, hl, _⟩ := of_decide_eq_true h'
  constructor
  · rcases Nat.eq_zero_or_pos i with e | e
    · subst e; omega
    · have := okF_mono h e hi; omega
  · rcases Nat.lt_or_ge i (l.length - 1) with e | e
    · have := okF_mono h e (by omega); omega
    · have : i = l.length - 1 := by omega
      subst this; exact hl
theorem okF_acc {l : List Int} (h : okN l = true) : okF (acc l) = true := by
  unfold okN at h
  obtain ⟨h1, h2, h3, h4⟩ := of_decide_eq_true h
  unfold okF
  refine decide_eq_true ⟨by rw [acc_length]; omega, by rw [acc_length]; omega, by rw [acc_getD _ _ (by omega)]; rfl, ?_, fun k hk => ?_⟩
  · rw [acc_length, acc_getD _ _ (by omega)]
    simpa using h4
  · rw [acc_length] at hk
    rw [acc_getD _ _ (by omega), acc_getD _ _ (by omega), tot_snoc _ _ (by omega)]
    have := h3 _ (mem_getD (l := l) (k := k) (by omega))
    omega
end Go.Proofs.Ytlmkcipcclomdaa.Fq
