/-
  Own texts, laid together: Ww.
-/
import Derived.Test.YtplfcncibmgllaaDoorWi
import Derived.Test.YtplfcncibmgllaaDoorLo
import Derived.Deep.Grids
/- Ww -/
namespace Go.Proofs.YtplfcncibmgllaaDoor.Lp
open Go.ChangeShapes Go.WideShapes Go.ChangeAt Go.RowKit Go.Joins Go.Deep Go.Proofs.YtplfcncibmgllaaDoor.Fx Go.Proofs.YtplfcncibmgllaaDoor.Fq Go.Proofs.YtplfcncibmgllaaDoor.Tb
theorem tmod_b6 (b : Int) : -6 < b.tmod 6 ∧ b.tmod 6 < 6 := by
  have h1 := Int.tmod_lt_of_pos b (show (0 : Int) < 6 by omega)
  have h2 := Int.tmod_lt_of_pos (-b) (show (0 : Int) < 6 by omega)
  rw [Int.neg_tmod] at h2
  omega
/-- the first k numbers turned over where the signs say so -/
def sgnF (x : List Int) (S : Nat → Bool) (k i : Nat) : Int := if i < k ∧ S i = true then -(x.getD i 0) else x.getD i 0
def sgnL (x : List Int) (S : Nat → Bool) (k : Nat) : List Int := tab 16 (sgnF x S k)
theorem sgn_start {x : List Int} (lx : x.length = 16) (S : Nat → Bool) : sgnL x S 0 = x := by
  rw [← tab_self lx]
  exact tab_congr fun i hi => by
    unfold sgnF
    rw [if_neg (by omega), tab_self lx]
theorem sgn_at {x : List Int} {S : Nat → Bool} {k : Nat} (hk : k < 16) : (sgnL x S k).getD k 0 = x.getD k 0 := by
  rw [sgnL, tab_getD _ hk]
  unfold sgnF
  rw [if_neg (by omega)]
theorem sgn_turn {x : List Int} {S : Nat → Bool} {k : Nat} (h : S k = true) : (sgnL x S k).set k (-(x.getD k 0)) = sgnL x S (k + 1) :=
  tab_set (by unfold sgnF; rw [if_pos ⟨by omega, h⟩]) fun i _ hne => by
    unfold sgnF
    by_cases e : i < k ∧ S i = true
    · rw [if_pos e, if_pos ⟨by omega, e.2⟩]
    · rw [if_neg e, if_neg (fun h => e ⟨by omega, h.2⟩)]
theorem sgn_pass {x : List Int} {S : Nat → Bool} {k : Nat} (h : ¬ (k < 16 ∧ S k = true)) : sgnL x S k = sgnL x S (k + 1) :=
  tab_congr fun i hi => by
    unfold sgnF
    by_cases e : i < k ∧ S i = true
    · rw [if_pos e, if_pos ⟨by omega, e.2⟩]
    · rw [if_neg e, if_neg (fun h' => by
        by_cases hik : i = k
        · subst hik; exact h ⟨hi, h'.2⟩
        · exact e ⟨by omega, h'.2⟩)]
theorem sgn_sq (x : List Int) (S : Nat → Bool) (k b : Nat) {n : Nat} (hn : n < 16) : ownF (sgnL x S k) b n * ownF (sgnL x S k) b n = ownF x b n * ownF x b n := by
  unfold ownF
  split
  · rw [sgnL, tab_getD _ hn]
    unfold sgnF
    split
    · rw [Int.neg_mul_neg]
    · rfl
  · rfl
theorem sgn_en (x : List Int) (S : Nat → Bool) (k b : Nat) : enB (sgnL x S k) b = enB x b := by
  unfold enB enN
  rw [sumN_congr _ _ _ fun i hi => sgn_sq x S k b hi]
theorem sgn_bd {x : List Int} (h : okX x = true) (S : Nat → Bool) (k : Nat) {i : Nat} (hi : i < 16) : -67108864 ≤ (sgnL x S k).getD i 0 ∧ (sgnL x S k).getD i 0 ≤ 67108864 := by
  rw [sgnL, tab_getD _ hi]
  have := inR_bd h (by omega) (by omega) i
  unfold sgnF
  split <;> omega
/-- two numbers exchanged -/
def swpL (y : List Int) (i j : Nat) : List Int := (y.set i (y.getD j 0)).set j (y.getD i 0)
theorem swp_length (y : List Int) (i j : Nat) : (swpL y i j).length = y.length := by unfold swpL; rw [List.length_set, List.length_set]
theorem swp_get {y : List Int} {i j : Nat} (hi : i < y.length) (hj : j < y.length) (k : Nat) : (swpL y i j).getD k 0 = if j = k then y.getD i 0 else if i = k then y.getD j 0 else y.getD k 0 := by
  unfold swpL
  rw [getD_set' _ _ _ _ (by rw [List.length_set]; exact hj), getD_set' _ _ _ _ hi]
theorem sum_two (f g : Nat → Int) {i j : Nat} (h : ∀ k, ¬ k = i → ¬ k = j → g k = f k) : ∀ n, sumN g n = sumN f n + (if i < n then g i - f i else 0) + (if j < n ∧ ¬ j = i then g j - f j else 0)
  | 0 => by simp [sumN]
  | n + 1 => by
    rw [sumN_succ, sumN_succ, sum_two f g h n]
    by_cases e1 : n = i
    · subst e1
      (repeat' split) <;> omega
    · by_cases e2 : n = j
      · subst e2
        (repeat' split) <;> omega
      · rw [h n e1 e2]
        (repeat' split) <;> omega
theorem swp_en {y : List Int} (ly : y.length = 16) {b c : Nat} (hb : b < 6) (hc : c < 6) : enB (swpL y (edg b) (edg (b + 1) - 1)) c = enB y c := by
  have hed := edg_all b hb
  obtain ⟨i, hi⟩ : ∃ i, edg b = i := ⟨_, rfl⟩
  obtain ⟨j, hj⟩ : ∃ j, edg (b + 1) - 1 = j := ⟨_, rfl⟩
  have hi16 : i < 16 := by omega
  have hj16 : j < 16 := by omega
  rw [hi, hj]
  have hg := swp_get (y := y) (i := i) (j := j) (by omega) (by omega)
  have hs : enN (swpL y i j) c 16 = enN y c 16 := by
    unfold enN
    rw [sum_two (fun n => ownF y c n * ownF y c n) (fun n => ownF (swpL y i j) c n * ownF (swpL y i j) c n) (i := i) (j := j) (fun k h1 h2 => by
      show ownF (swpL y i j) c k * ownF (swpL y i j) c k = ownF y c k * ownF y c k
      unfold ownF
      split
      · rw [hg, if_neg (fun e => h2 e.symm), if_neg (fun e => h1 e.symm)]
      · rfl) 16, if_pos hi16]
    have bi : bnd i = b := (bnd_iff i hi16 b hb).2 (by omega)
    have bj : bnd j = b := (bnd_iff j hj16 b hb).2 (by omega)
    have oi : ∀ z : List Int, ownF z c i = if b = c then z.getD i 0 else 0 := fun z => by
      unfold ownF
      have := bnd_iff i hi16 c hc
      rw [bi] at this
      by_cases e : b = c
      · rw [if_pos (this.1 e), if_pos e]
      · rw [if_neg (fun h => e (this.2 h)), if_neg e]
    have oj : ∀ z : List Int, ownF z c j = if b = c then z.getD j 0 else 0 := fun z => by
      unfold ownF
      have := bnd_iff j hj16 c hc
      rw [bj] at this
      by_cases e : b = c
      · rw [if_pos (this.1 e), if_pos e]
      · rw [if_neg (fun h => e (this.2 h)), if_neg e]
    rw [oi, oi, oj, oj]
    by_cases e : b = c
    · rw [if_pos e, if_pos e, if_pos e, if_pos e, hg, hg, if_pos rfl]
      by_cases eij : j = i
      · subst eij
        rw [if_pos rfl, if_neg (fun h => h.2 rfl)]; omega
      · rw [if_neg eij, if_pos rfl, if_pos ⟨hj16, eij⟩]; omega
    · rw [if_neg e, if_neg e, if_neg e, if_neg e]
      split <;> simp
  unfold enB
  rw [hs]
theorem swp_ok {y : List Int} (ly : y.length = 16) (h : ∀ i, i < 16 → -67108864 ≤ y.getD i 0 ∧ y.getD i 0 ≤ 67108864) {i j : Nat} (hi : i < 16) (hj : j < 16) : okX (swpL y i j) = true := by
  refine (inR_iff (by rw [swp_length, ly])).2 fun k hk => ?_
  rw [swp_get (by omega) (by omega)]
  have h1 := h k hk
  have h2 := h i hi
  have h3 := h j hj
  split
  · exact h2
  · split
    · exact h3
    · exact h1
theorem signs_same {x : List Int} (S : Nat → Bool) (k : Nat) {b : Nat} (hb : b < 6) : measL (swpL (sgnL x S k) (edg b) (edg (b + 1) - 1)) = measL x :=
  tab_congr fun c hc => by
    unfold levB
    rw [swp_en (show (sgnL x S k).length = 16 from tab_length 16 _) hb hc, sgn_en]
/-- a slice that reads as bools -/
def RdB (w : World) (A : Option Addr) (n : Nat) (S : Nat → Bool) : Prop := 0 < n → ∃ ad, A = some ad ∧ ∀ i, i < n → w.cell? (ad.add i) = some (.bool (S i))
theorem RdB.below {w w' : World} {A : Option Addr} {n : Nat} {S : Nat → Bool} (h : RdB w A n S) (hb : Below w.heap.size w w') : RdB w' A n S := fun hn => by
  obtain ⟨ad, e, hc⟩ := h hn
  exact ⟨ad, e, fun i hi => (hb.cell (World.block_lt_of_cell? _ _ (hc i hi))).trans (hc i hi)⟩
theorem cells_bool : Tryd.prog.cellsOf 4 = 1 := by kernel_rfl
section
variable {H : Type} {enc : TypeId × Value → H} {W : World} {base : Nat} {held : Bool}
theorem open_boolsV {b0 : Nat} {r : Reach} {v : Value} {d : DataW H} {p : List MemPlace} (hv : Value.okWide Tryd.prog W r b0 42 v) (h : DataW.Trod enc Tryd.prog W base (fun _ => true) held 42 v d p) :
    ∃ A n c S, v = .slice A n c ∧ RdB W A n S ∧ n ≤ maxLen := by
  obtain ⟨a0, len0, cap0, rfl⟩ := okWide_slice Tryd.underlying42 hv
  obtain ⟨fuel, hf⟩ := h
  rcases open_bools Tryd.underlying42 Tryd.underlying4 cells_bool hf with ⟨hcs, _⟩ | ⟨a, len, cap, B, hcs, _, hl, hm, _, hB⟩
  · simp only [Value.cells, List.cons.injEq, and_true] at hcs
    exact ⟨none, 0, 0, fun _ => false, by simpa using hcs, fun h => absurd h (by omega), by unfold maxLen; omega⟩
  · simp only [Value.cells, List.cons.injEq, and_true] at hcs
    exact ⟨some a, len, cap, B, by simpa using hcs, fun _ => ⟨a, rfl, fun i hi => hB i (by omega)⟩, by omega⟩
end
end Go.Proofs.YtplfcncibmgllaaDoor.Lp
