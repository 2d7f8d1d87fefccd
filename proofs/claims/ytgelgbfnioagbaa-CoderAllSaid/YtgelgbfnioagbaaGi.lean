/-
  Own texts, laid together: Gi.
-/
import Derived.Test.YtgelgbfnioagbaaGh
/- Gi -/
namespace Go.Proofs.Ytgelgbfnioagbaa.Cd
open Go.RowKit
/-- a table where it lies -/
structure Tb where
  C : Option Addr
  m : Nat
  d : Nat
  xs : List Int
/-- the slice '.slice L n c' reads as the tables ts -/
def RdT (w : World) (L : Option Addr) (n : Nat) (ts : List Tb) : Prop :=
  ts.length = n ∧ (0 < n → ∃ ad, L = some ad ∧ ∀ j t, ts[j]? = some t → w.cell? (ad.add j) = some (.slice t.C t.m t.d) ∧ Fq.RdI w t.C t.m t.xs ∧ t.m ≤ maxLen)
section
variable {w w' : World} {L : Option Addr} {n : Nat} {ts : List Tb}
theorem RdT.none_ : RdT w L 0 [] := ⟨rfl, fun h => absurd h (by omega)⟩
theorem RdT.below (h : RdT w L n ts) (hb : Below w.heap.size w w') : RdT w' L n ts := by
  refine ⟨h.1, fun hn => ?_⟩
  obtain ⟨ad, e, hc⟩ := h.2 hn
  refine ⟨ad, e, fun j t ht => ?_⟩
  obtain ⟨h1, h2, h3⟩ := hc j t ht
  exact ⟨(hb.cell (World.block_lt_of_cell? _ _ h1)).trans h1, h2.below hb, h3⟩
theorem RdT.at_ (h : RdT w L n ts) {k : Nat} (hk : k < n) : ∃ ad t, L = some ad ∧ ts[k]? = some t ∧ ad.block < w.heap.size ∧ w.cell? (ad.add k) = some (.slice t.C t.m t.d) ∧ Fq.RdI w t.C t.m t.xs ∧ t.m ≤ maxLen := by
  obtain ⟨ad, e, hc⟩ := h.2 (by omega)
  have hl : k < ts.length := by have := h.1; omega
  obtain ⟨t, ht⟩ : ∃ t, ts[k]? = some t := ⟨ts[k], by simp [hl]⟩
  obtain ⟨h1, h2, h3⟩ := hc k t ht
  have hb := World.block_lt_of_cell? _ _ h1
  rw [block_of_add] at hb
  exact ⟨ad, t, e, ht, hb, h1, h2, h3⟩
end
/-- a symbol and its table -/
abbrev Pr := Int × List Int
def spA (q : Pr) : Nat := (q.2.getD q.1.toNat 0).toNat
def spB (q : Pr) : Nat := (q.2.getD (q.1.toNat + 1) 0).toNat
def spT (xs : List Int) : Nat := (Fq.totF true xs).toNat
def okP (q : Pr) : Bool := Fq.symB q.2 q.1
theorem symP_of {q : Pr} (h : okP q = true) : symP q.2 q.1 (spA q) (spB q) (spT q.2) := by
  have h' := h
  unfold okP Fq.symB at h'
  simp only [Bool.and_eq_true, decide_eq_true_eq] at h'
  obtain ⟨hok, h0, h1⟩ := h'
  have hp := Fq.okF_parts hok
  have i1 : q.1.toNat + 1 < q.2.length := by omega
  have b1 := Fq.okF_bd hok (i := q.1.toNat) (by omega)
  have b2 := Fq.okF_bd hok (i := q.1.toNat + 1) i1
  have b3 := Fq.okF_bd hok (i := q.2.length - 1) (by omega)
  have m1 := Fq.okF_mono hok (i := q.1.toNat) (j := q.1.toNat + 1) (by omega) i1
  have m2 := Fq.mono_le hok (i := q.1.toNat + 1) (j := q.2.length - 1) (by omega) (by omega)
  have e1 : ((spA q : Nat) : Int) = q.2.getD q.1.toNat 0 := by unfold spA; omega
  have e2 : ((spB q : Nat) : Int) = q.2.getD (q.1.toNat + 1) 0 := by unfold spB; omega
  have e3 : ((spT q.2 : Nat) : Int) = q.2.getD (q.2.length - 1) 0 := by unfold spT Fq.totF; simp only [if_true]; omega
  refine ⟨?_, hok, ?_, ?_, ?_, ?_⟩
  · unfold Fq.spanV
    unfold okP at h
    rw [h, e1, e2]
    rfl
  · rw [e3]; rfl
  · omega
  · omega
  · omega
/-- the state behind one more symbol -/
def put1 (e : En) (q : Pr) : En := putE e (spA q) (spB q) (spT q.2)
def stE (e : En) (ps : List Pr) : En := ps.foldl put1 e
theorem stE_nil (e : En) : stE e [] = e := rfl
theorem stE_cons (e : En) (q : Pr) (ps : List Pr) : stE e (q :: ps) = stE (put1 e q) ps := rfl
theorem stE_snoc (e : En) (ps : List Pr) (q : Pr) : stE e (ps ++ [q]) = put1 (stE e ps) q := by simp [stE]
theorem putC_cases (e : En) : (putC e = 0 ∧ e.out.length ≤ 65536 ∧ e.wait ≤ 65536) ∨ putC e = 2 := by
  unfold putC
  split
  · rename_i h; exact .inl ⟨rfl, h⟩
  · exact .inr rfl
/-- the first error -/
def allErr (e : En) : List Pr → Int
  | [] => 0
  | q :: r => if okP q = true then (if putC (put1 e q) = 0 then allErr (put1 e q) r else 2) else 1
theorem allErr_no {e : En} {q : Pr} {r : List Pr} (h : okP q = false) : allErr e (q :: r) = 1 := by unfold allErr; rw [h]; rfl
theorem allErr_long {e : En} {q : Pr} {r : List Pr} (h : okP q = true) (h2 : putC (put1 e q) = 2) : allErr e (q :: r) = 2 := by unfold allErr; rw [if_pos h, if_neg (by rw [h2]; decide)]
theorem allErr_ok {e : En} {q : Pr} {r : List Pr} (h : okP q = true) (h2 : putC (put1 e q) = 0) : allErr e (q :: r) = allErr (put1 e q) r := by rw [allErr, if_pos h, if_pos h2]
/-- a state that is fine -/
def Fine (e : En) : Prop := Ok e.low e.high ∧ kind e.low e.high = 3 ∧ e.out.length ≤ 65536 ∧ e.wait ≤ 65536
theorem Fine.put {e : En} {q : Pr} (h : Fine e) (hq : okP q = true) (hc : putC (put1 e q) = 0) : Fine (put1 e q) := by
  obtain ⟨a, b, _⟩ := put_facts h.1 h.2.1 (symP_of hq).2.2.2
  rcases putC_cases (put1 e q) with ⟨_, c, d⟩ | c
  · exact ⟨a, b, c, d⟩
  · rw [c] at hc; cases hc
theorem fine0 : Fine e0 := ⟨e0_ok.1, e0_ok.2, by decide, by decide⟩
/-- where there is no error, each is a symbol, and each state is fine -/
theorem allErr_zero {ps : List Pr} : ∀ {e : En}, Fine e → allErr e ps = 0 → Fine (stE e ps) ∧ ∀ q ∈ ps, okP q = true := by
  induction ps with
  | nil => intro e h _; exact ⟨h, by simp⟩
  | cons q r ih =>
    intro e h h0
    cases hq : okP q with
    | false => rw [allErr_no hq] at h0; cases h0
    | true =>
      rcases putC_cases (put1 e q) with ⟨c, _, _⟩ | c
      · rw [allErr_ok hq c] at h0
        obtain ⟨a, b⟩ := ih (h.put hq c) h0
        rw [stE_cons]
        refine ⟨a, fun q' hq' => ?_⟩
        rcases List.mem_cons.1 hq' with e | e
        · rw [e]; exact hq
        · exact b q' e
      · rw [allErr_long hq c] at h0; cases h0
/-- what All answers -/
def AllOut (w : World) (ps : List Pr) (e : Ending) (w' : World) : Prop :=
  (allErr e0 ps = 0 ∧ BOut w (JQ w.heap.size (endBits (stE e0 ps))) e w') ∨ (allErr e0 ps ≠ 0 ∧ BBad w (allErr e0 ps) e w')
end Go.Proofs.Ytgelgbfnioagbaa.Cd
