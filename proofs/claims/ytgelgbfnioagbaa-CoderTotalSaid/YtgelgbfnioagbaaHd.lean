/-
  Own texts, laid together: Hd.
-/
import Derived.Test.YtgelgbfnioagbaaHa
/- Hd -/
namespace Go.Proofs.Ytgelgbfnioagbaa.Cd
open Go.RowKit
theorem backErr_two {l : List Bool} {fs : List (List Int)} : ∀ {d : De}, (∀ xs ∈ fs, Fq.okF xs = true) → backErr l d fs = 0 ∨ backErr l d fs = 20 := by
  induction fs with
  | nil => intro d _; exact .inl rfl
  | cons xs r ih =>
    intro d h
    have ho := h xs (by simp)
    by_cases ha : l.length + 32 < d.at_
    · exact .inr (backErr_short ho ha)
    · rw [backErr_ok ho (by omega)]
      exact ih fun y hy => h y (by simp [hy])
theorem backErr_take {l : List Bool} {fs : List (List Int)} : ∀ {d : De} (k : Nat), backErr l d fs = 0 → backErr l d (fs.take k) = 0 := by
  induction fs with
  | nil => intro d k h; simpa using h
  | cons xs r ih =>
    intro d k h
    cases k with
    | zero => rfl
    | succ k =>
      rw [List.take_succ_cons]
      cases ho : Fq.okF xs with
      | false => rw [backErr_no ho] at h; cases h
      | true =>
        by_cases ha : l.length + 32 < d.at_
        · rw [backErr_short ho ha] at h; cases h
        · rw [backErr_ok ho (by omega)] at h ⊢
          exact ih k h
theorem symL_take_all (l : List Bool) (fs : List (List Int)) : ∀ (d : De) (k : Nat), symL l d (fs.take k) = (symL l d fs).take k := by
  induction fs with
  | nil => intro d k; simp [symL]
  | cons xs r ih =>
    intro d k
    cases k with
    | zero => simp [symL]
    | succ k => rw [List.take_succ_cons, symL_cons, symL_cons, List.take_succ_cons, ih]
/-- each symbol is one of its table -/
theorem symL_in {l : List Bool} {fs : List (List Int)} : ∀ {d : De}, FineD d → (∀ xs ∈ fs, Fq.okF xs = true) → ∀ (k : Nat) (xs : List Int), fs[k]? = some xs → ∃ s : Nat, (symL l d fs)[k]? = some (s : Int) ∧ s + 1 < xs.length := by
  induction fs with
  | nil => intro d _ _ k xs h; simp at h
  | cons y r ih =>
    intro d hd h k xs hk
    have ho := h y (by simp)
    rw [symL_cons]
    cases k with
    | zero =>
      have : y = xs := by simpa using hk
      subst this
      exact ⟨nxK d y, rfl, (next_sym hd ho).2.2.2.2⟩
    | succ k =>
      have hk' : r[k]? = some xs := by simpa using hk
      obtain ⟨s, h1, h2⟩ := ih (nxE_fine hd ho).1 (fun z hz => h z (by simp [hz])) k xs hk'
      exact ⟨s, by simpa using h1, h2⟩
theorem RdT.take {w : World} {L : Option Addr} {n : Nat} {ts : List Tb} (h : RdT w L n ts) (k : Nat) (hk : k ≤ n) : RdT w L k (ts.take k) := by
  refine ⟨by rw [List.length_take, h.1]; omega, fun h0 => ?_⟩
  obtain ⟨ad, e, hc⟩ := h.2 (by omega)
  refine ⟨ad, e, fun j t ht => hc j t ?_⟩
  rw [List.getElem?_take] at ht
  split at ht
  · exact ht
  · cases ht
theorem rdI_take {w : World} {A : Option Addr} {n : Nat} {zs : List Int} (h : Fq.RdI w A n zs) (k : Nat) (hk : k ≤ n) : Fq.RdI w A k (zs.take k) := by
  refine ⟨by rw [List.length_take, h.1]; omega, fun h0 => ?_⟩
  obtain ⟨ad, e, hc⟩ := h.2 (by omega)
  refine ⟨ad, e, fun j t ht => hc j t ?_⟩
  rw [List.getElem?_take] at ht
  split at ht
  · exact ht
  · cases ht
theorem tbs_take (ts : List Tb) (k : Nat) : tbs (ts.take k) = (tbs ts).take k := by unfold tbs; rw [List.map_take]
/-- Back by the first tables, where all of them have symbols -/
theorem back_pre {A : Option Addr} {n8 c N : Nat} {l : List Bool} {L : Option Addr} {m d : Nat} {ts : List Tb} {w : World} (K : Nat) (hI : IsB w (.agg #[.slice A n8 c, .int .i64 (N : Int)]) l) (hm : m ≤ 1000) (hK : K ≤ m) (ht : RdT w L m ts) (h0 : backErr l (d0 l) (tbs ts) = 0) :
    Calls Try.prog 28 #[.agg #[.slice A n8 c, .int .i64 (N : Int)], .slice L K d] w (BkP w K ((symL l (d0 l) (tbs ts)).take K)) := by
  refine (back_walk A n8 c N l L K d (ts.take K) w (Lib.hid hI) (by omega) (Lib.hid (ht.take K hK))).mono ?_
  intro e w' h
  have h1 : backErr l (d0 l) (tbs (ts.take K)) = 0 := by rw [tbs_take]; exact backErr_take K h0
  rcases h with ⟨_, g, rfl, hg, hB, hb⟩ | ⟨h, _⟩
  · rw [tbs_take, symL_take_all] at hB
    refine ⟨g, rfl, Fq.RdI.of_blk hB ?_, hb⟩
    rw [List.length_take, symL_length]
    unfold tbs
    rw [List.length_map, ht.1]
    omega
  · exact absurd h1 h
/-- a place of 0 to m -/
theorem place_of (x : Int) (m : Nat) : ∃ (R : Int) (K : Nat), x.tmod ((m : Int) + 1) = R ∧ -(m : Int) ≤ R ∧ R ≤ (m : Int) ∧ (R + (m : Int) + 1) % ((m : Int) + 1) = (K : Int) ∧ K ≤ m := by
  have h1 : x.tmod ((m : Int) + 1) < (m : Int) + 1 := by
    have := Int.tmod_lt_of_pos x (show (0 : Int) < (m : Int) + 1 by omega)
    omega
  have h2 : -((m : Int) + 1) < x.tmod ((m : Int) + 1) := Int.lt_tmod_of_pos x (by omega)
  have h3 := Int.emod_nonneg (x.tmod ((m : Int) + 1) + (m : Int) + 1) (show (m : Int) + 1 ≠ 0 by omega)
  have h4 := Int.emod_lt_of_pos (x.tmod ((m : Int) + 1) + (m : Int) + 1) (show (0 : Int) < (m : Int) + 1 by omega)
  exact ⟨_, ((x.tmod ((m : Int) + 1) + (m : Int) + 1) % ((m : Int) + 1)).toNat, rfl, by omega, by omega, by omega, by omega⟩
end Go.Proofs.Ytgelgbfnioagbaa.Cd
