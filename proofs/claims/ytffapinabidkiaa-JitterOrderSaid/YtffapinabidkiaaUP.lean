/-
  What waits, in plain words: what may be, and when.
-/
import Derived.Test.YtffapinabidkiaaUB
import Derived.Test.YtffapinabidkiaaUC
set_option linter.unusedSimpArgs false
set_option linter.unusedVariables false
/- UP -/
namespace Go.Proofs.Ytffapinabidkiaa.Lp
open Go.RowKit Go.Proofs.Ytffapinabidkiaa.Fq
abbrev Pq := Int × List Nat
structure Jp where
  on : Bool
  nx : Int
  dp : Int
  dr : Int
  q : List Pq
def pl (x : Pk) : Pq := (x.s, x.bs)
/-- a packet that may not be -/
def badP (p : Pq) : Bool := wrong p.1 p.2.length
/-- packets that are there fit to what comes next, or to one another -/
def fitQ (on : Bool) (nx : Int) (q : List Pq) : Prop := ∀ p ∈ q, if on then nx ≤ p.1 ∧ p.1 < nx + 64 else p.1 < (q.headD (0, [])).1 + 64
instance (on : Bool) (nx : Int) (q : List Pq) : Decidable (fitQ on nx q) := by unfold fitQ; infer_instance
def NumOk (on : Bool) (nx dp dr : Int) : Prop := 1 ≤ dp ∧ dp ≤ 16 ∧ 0 ≤ nx ∧ nx ≤ mostX on ∧ 0 ≤ dr ∧ dr ≤ mostD on
instance (on : Bool) (nx dp dr : Int) : Decidable (NumOk on nx dp dr) := by unfold NumOk; infer_instance
/-- a state that may be -/
def OkJ (j : Jp) : Prop := NumOk j.on j.nx j.dp j.dr ∧ (∀ p ∈ j.q, badP p = false) ∧ j.q.Pairwise (fun a b => a.1 < b.1) ∧ fitQ j.on j.nx j.q
instance (j : Jp) : Decidable (OkJ j) := by unfold OkJ; infer_instance
def ckE (j : Jp) : Int := if OkJ j then 0 else 1
theorem numOk_iff (on : Bool) (nx dp dr : Int) : NumOk on nx dp dr ↔ holdN nx 0 (mostX on) = nx ∧ holdN dp 1 16 = dp ∧ holdN dr 0 (mostD on) = dr := by
  have h1 : 0 ≤ mostX on := by cases on <;> decide
  have h2 : 0 ≤ mostD on := by cases on <;> decide
  unfold NumOk holdN
  omega
theorem mostX_le (on : Bool) : mostX on ≤ 2199023255552 := by cases on <;> decide
theorem bad_iff {p : Pq} (h : badP p = false) : 0 ≤ p.1 ∧ p.1 ≤ 1099511627776 ∧ 1 ≤ p.2.length ∧ p.2.length ≤ 40 := by
  unfold badP wrong at h
  have := of_decide_eq_false h
  omega
theorem bad_no {p : Pq} (h1 : 0 ≤ p.1) (h2 : p.1 ≤ 1099511627776) (h3 : 1 ≤ p.2.length) (h4 : p.2.length ≤ 40) : badP p = false := by
  unfold badP wrong
  exact decide_eq_false (by omega)
theorem RdP.len {w : World} {A : Option Addr} {n : Nat} {ls : List Pk} (h : RdP w A n ls) {x : Pk} (hx : x ∈ ls) : x.n = x.bs.length ∧ Rd w x.A x.n x.bs := by
  obtain ⟨j, hj⟩ := List.mem_iff_getElem?.1 hx
  have h0 : 0 < n := by rw [← h.1]; exact Nat.lt_of_le_of_lt (Nat.zero_le _) (List.getElem?_eq_some_iff.1 hj).1
  obtain ⟨L, -, hc⟩ := h.2 h0
  obtain ⟨-, -, hr, -⟩ := hc j x hj
  exact ⟨hr.1.symm, hr⟩
theorem RdP.any {w : World} {A : Option Addr} {n : Nat} {ls : List Pk} (h : RdP w A n ls) : ls.any wrongP = (ls.map pl).any badP := by
  rw [List.any_map]
  refine (Bool.eq_iff_iff).2 ?_
  simp only [List.any_eq_true, Function.comp]
  constructor <;> rintro ⟨x, hx, hp⟩ <;> refine ⟨x, hx, ?_⟩
  · unfold badP pl; rw [← (h.len hx).1]; exact hp
  · unfold wrongP; rw [(h.len hx).1]; exact hp
/-- adjacent numbers that rise make all rise -/
theorem rise_of {ls : List Pk} (h : ∀ j x y, ls[j]? = some x → ls[j + 1]? = some y → x.s < y.s) : (ls.map pl).Pairwise (fun a b => a.1 < b.1) := by
  induction ls with
  | nil => exact .nil
  | cons a l ih =>
    have ih' := ih fun j x y hx hy => h (j + 1) x y (by simpa using hx) (by simpa using hy)
    rw [List.map_cons]
    refine .cons ?_ ih'
    cases l with
    | nil => simp
    | cons b l =>
      have hab := h 0 a b rfl rfl
      intro p hp
      rw [List.map_cons] at hp ih'
      rcases List.mem_cons.1 hp with rfl | hp
      · exact hab
      · exact Int.lt_trans hab ((List.pairwise_cons.1 ih').1 p hp)
theorem rise_at {q : List Pq} (h : q.Pairwise (fun a b => a.1 < b.1)) {i j : Nat} {x y : Pq} (hx : q[i]? = some x) (hy : q[j]? = some y) (hij : i < j) : x.1 < y.1 := by
  obtain ⟨h1, e1⟩ := List.getElem?_eq_some_iff.1 hx
  obtain ⟨h2, e2⟩ := List.getElem?_eq_some_iff.1 hy
  rw [← e1, ← e2]
  exact (List.pairwise_iff_getElem.1 h) i j h1 h2 hij
/-- of numbers that rise the first and the last one tell all -/
theorem fit_iff {on : Bool} {nx : Int} {q : List Pq} (hq : q.Pairwise (fun a b => a.1 < b.1)) {a b : Pq} (ha : q[0]? = some a) (hb : q[q.length - 1]? = some b) :
    fitsB on nx a.1 b.1 = decide (fitQ on nx q) := by
  have hh : q.headD (0, []) = a := by cases q with | nil => cases ha | cons c l => simpa using ha
  have lo : ∀ p ∈ q, a.1 ≤ p.1 := fun p hp => by
    obtain ⟨j, hj⟩ := List.mem_iff_getElem?.1 hp
    rcases Nat.eq_zero_or_pos j with rfl | h0
    · rw [ha] at hj; injection hj with hj; rw [hj]; exact Int.le_refl _
    · exact Int.le_of_lt (rise_at hq ha hj h0)
  have hi : ∀ p ∈ q, p.1 ≤ b.1 := fun p hp => by
    obtain ⟨j, hj⟩ := List.mem_iff_getElem?.1 hp
    have hl := (List.getElem?_eq_some_iff.1 hj).1
    rcases Nat.lt_or_ge j (q.length - 1) with h0 | h0
    · exact Int.le_of_lt (rise_at hq hj hb h0)
    · obtain rfl : j = q.length - 1 := by omega
      rw [hb] at hj; injection hj with hj; rw [hj]; exact Int.le_refl _
  have ma : a ∈ q := List.mem_of_getElem? ha
  have mb : b ∈ q := List.mem_of_getElem? hb
  refine Bool.eq_iff_iff.2 ?_
  rw [decide_eq_true_iff]
  unfold fitQ
  rw [hh]
  unfold fitsB
  cases on
  · simp only [Bool.false_eq_true, if_false, decide_eq_true_iff]
    refine ⟨fun h p hp => ?_, fun h => h b mb⟩
    have := hi p hp
    omega
  · simp only [if_true, Bool.and_eq_true, decide_eq_true_iff]
    refine ⟨fun h p hp => ?_, fun h => ⟨(h a ma).1, (h b mb).2⟩⟩
    have := hi p hp
    have := lo p hp
    omega
theorem fit_nil (on : Bool) (nx : Int) : fitQ on nx [] := fun p hp => by cases hp
end Go.Proofs.Ytffapinabidkiaa.Lp
