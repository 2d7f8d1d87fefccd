/-
  What the document's MayPacket and Check answer.
-/
import Derived.Test.YtffapinabidkiaaUZ
set_option linter.unusedSimpArgs false
set_option linter.unusedVariables false
/- U2 -/
namespace Go.Proofs.Ytffapinabidkiaa.Lp
open Go.RowKit Go.Proofs.Ytffapinabidkiaa.Fq
set_option maxHeartbeats 1000000 in
theorem may_any (s : Int) (A : Option Addr) (n c : Nat) (w : World) (hn : Hid (n ≤ maxLen)) :
    Calls Try.prog 36 #[.agg #[.int .i64 s, .slice A n c]] w (ValQ w (.bool (!wrong s n))) := by
  have hn9 : (n : Int) ≤ 9223372036854775807 := by have := hn.out; unfold maxLen at this; omega
  by_cases h1 : 0 ≤ s
  · by_cases h2 : s ≤ 1099511627776
    · by_cases h3 : (1 : Int) ≤ (n : Int)
      · have HV := Lib.hid (show (!wrong s n) = decide ((n : Int) ≤ 40) by
          unfold wrong
          by_cases h4 : (n : Int) ≤ 40
          · rw [decide_eq_true h4, decide_eq_false (by omega)]; rfl
          · rw [decide_eq_false h4, decide_eq_true (by omega)]; rfl)
        go_enter Try.func36, Try.ntmps36
        go_wp2
        go_ret
        exact ⟨by rw [HV.out]; rfl, (Below.refl _ _).alloc (Nat.le_refl _) _⟩
      · have HV := Lib.hid (show (!wrong s n) = false by unfold wrong; rw [decide_eq_true (by omega)]; rfl)
        obtain rfl : n = 0 := by omega
        go_enter Try.func36, Try.ntmps36
        go_wp2
        go_ret
        exact ⟨by rw [HV.out]; rfl, (Below.refl _ _).alloc (Nat.le_refl _) _⟩
    · have HV := Lib.hid (show (!wrong s n) = false by unfold wrong; rw [decide_eq_true (by omega)]; rfl)
      have h2' : 1099511627776 < s := by omega
      clear h2
      go_enter Try.func36, Try.ntmps36
      go_wp2
      go_ret
      exact ⟨by rw [HV.out]; rfl, (Below.refl _ _).alloc (Nat.le_refl _) _⟩
  · have HV := Lib.hid (show (!wrong s n) = false by unfold wrong; rw [decide_eq_true (by omega)]; rfl)
    have h1' : s < 0 := by omega
    clear h1
    go_enter Try.func36, Try.ntmps36
    go_wp2
    go_ret
    exact ⟨by rw [HV.out]; rfl, (Below.refl _ _).alloc (Nat.le_refl _) _⟩
theorem num_iff (on : Bool) (nx dp dr : Int) : NumOk on nx dp dr ↔ 1 ≤ dp ∧ dp ≤ 16 ∧ 0 ≤ nx ∧ nx ≤ 2199023255552 ∧ 0 ≤ dr ∧ dr < 12 ∧ (on = false → nx = 0 ∧ dr = 0) := by
  unfold NumOk
  cases on
  · simp [mostX, mostD]; omega
  · simp [mostX, mostD]; omega
/-- one packet may stand where it stands -/
def okAt (on : Bool) (nx : Int) (ls : List Pk) (j : Nat) (x : Pk) : Prop := wrong x.s x.n = false ∧ (∀ y, 0 < j → ls[j - 1]? = some y → y.s < x.s) ∧ (if on then nx ≤ x.s ∧ x.s < nx + 64 else ∀ z, ls[0]? = some z → x.s < z.s + 64)
theorem okJ_at {w : World} {A : Option Addr} {n : Nat} {ls : List Pk} {on : Bool} {nx dp dr : Int} (h : RdP w A n ls) (hN : NumOk on nx dp dr) : OkJ ⟨on, nx, dp, dr, ls.map pl⟩ ↔ ∀ j x, ls[j]? = some x → okAt on nx ls j x := by
  constructor
  · intro hk j x hx
    have hm : pl x ∈ ls.map pl := List.mem_map.2 ⟨x, List.mem_of_getElem? hx, rfl⟩
    refine ⟨?_, fun y hj hy => ?_, ?_⟩
    · have := hk.2.1 _ hm
      unfold badP pl at this
      rw [(h.len (List.mem_of_getElem? hx)).1]
      exact this
    · have h1 : (ls.map pl)[j - 1]? = some (pl y) := by rw [List.getElem?_map, hy]; rfl
      have h2 : (ls.map pl)[j]? = some (pl x) := by rw [List.getElem?_map, hx]; rfl
      exact rise_at hk.2.2.1 h1 h2 (by omega)
    · have h3 := hk.2.2.2 _ hm
      cases on
      · simp only [Bool.false_eq_true, if_false] at h3 ⊢
        intro z hz
        have h4 : (ls.map pl).headD (0, []) = pl z := head_of (by rw [List.getElem?_map, hz]; rfl)
        rw [h4] at h3
        exact h3
      · simp only [if_true] at h3 ⊢
        exact h3
  · intro hk
    refine ⟨hN, fun p hp => ?_, rise_of fun j x y hx hy => ?_, fun p hp => ?_⟩
    · obtain ⟨x, hx, rfl⟩ := List.mem_map.1 hp
      obtain ⟨j, hj⟩ := List.mem_iff_getElem?.1 hx
      have := (hk j x hj).1
      rw [(h.len hx).1] at this
      exact this
    · exact (hk (j + 1) y hy).2.1 x (by omega) (by simpa using hx)
    · obtain ⟨x, hx, rfl⟩ := List.mem_map.1 hp
      obtain ⟨j, hj⟩ := List.mem_iff_getElem?.1 hx
      have h3 := (hk j x hj).2.2
      cases on
      · simp only [Bool.false_eq_true, if_false] at h3 ⊢
        have h0 : 0 < ls.length := by have := (List.getElem?_eq_some_iff.1 hj).1; omega
        have hz := List.getElem?_eq_getElem h0
        have h4 : (ls.map pl).headD (0, []) = pl ls[0] := head_of (by rw [List.getElem?_map, hz]; rfl)
        rw [h4]
        exact h3 _ hz
      · simp only [if_true] at h3 ⊢
        exact h3
end Go.Proofs.Ytffapinabidkiaa.Lp
