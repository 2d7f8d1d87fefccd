/-
  The first packet of which something is so.
-/
import Derived.Test.YtffapinabidkiaaUA
import Derived.LoopTactic
set_option linter.unusedSimpArgs false
set_option linter.unusedVariables false
/- UC -/
namespace Go.Proofs.Ytffapinabidkiaa.Lp
open Go.RowKit Go.Proofs.Ytffapinabidkiaa.Fq
/-- the first place at which p holds, or -1 -/
def idxP (p : Pk → Bool) (ls : List Pk) : Int := match ls.findIdx? p with | some i => (i : Int) | none => -1
theorem idxP_at {p : Pk → Bool} {ls : List Pk} {k : Nat} {x : Pk} (hx : ls[k]? = some x) (hk : ∀ j y, j < k → ls[j]? = some y → p y = false) (h : p x = true) : idxP p ls = (k : Int) := by
  unfold idxP
  obtain ⟨hl, hg⟩ := List.getElem?_eq_some_iff.1 hx
  have : ls.findIdx? p = some k := by
    rw [List.findIdx?_eq_some_iff_getElem]
    refine ⟨hl, by rw [hg]; exact h, fun j hj => ?_⟩
    have := hk j ls[j] hj (List.getElem?_eq_getElem (by omega))
    simp [this]
  rw [this]
theorem idxP_none {p : Pk → Bool} {ls : List Pk} (h : ∀ (j : Nat) (x : Pk), ls[j]? = some x → p x = false) : idxP p ls = -1 := by
  unfold idxP
  have : ls.findIdx? p = none := by
    rw [List.findIdx?_eq_none_iff]
    intro x hx
    obtain ⟨j, hj⟩ := List.mem_iff_getElem?.1 hx
    exact h j x hj
  rw [this]
theorem idxP_any (p : Pk → Bool) (ls : List Pk) : decide (0 ≤ idxP p ls) = ls.any p := by
  unfold idxP
  cases h : ls.findIdx? p with
  | none =>
    rw [List.findIdx?_eq_none_iff] at h
    have : ls.any p = false := by rw [List.any_eq_false]; intro x hx; simp [h x hx]
    rw [this]; rfl
  | some i =>
    rw [List.findIdx?_eq_some_iff_getElem] at h
    obtain ⟨hl, hp, -⟩ := h
    have : ls.any p = true := List.any_eq_true.2 ⟨ls[i], List.getElem_mem hl, hp⟩
    rw [this]; simp
/-- a packet that may not be -/
def wrongP (x : Pk) : Bool := wrong x.s x.n
/-- a packet whose number is not less -/
def fromP (seq : Int) (x : Pk) : Bool := decide (seq ≤ x.s)
theorem find1_any (s seq : Int) (A : Option Addr) (n c g : Nat) (T : TypeId) (w : World) (hb : Hid (w.cell? ⟨g, 0, none⟩ = some (.int .i64 seq))) (hg : g < w.heap.size) :
    Calls Try.prog 54 #[.agg #[.int .i64 s, .slice A n c], .pointer (some ⟨g, 0, none⟩)] w (ValQ w (.bool (decide (seq ≤ s)))) := by
  have hc := hb.out
  go_enter Try.func54, Try.ntmps54
  go_wp2
  go_ret
  exact ⟨rfl, (Below.refl _ _).alloc (Nat.le_refl _) _⟩
set_option maxRecDepth 100000 in
set_option maxHeartbeats 2000000 in
theorem idxWrong_any (A : Option Addr) (n c : Nat) (ls : List Pk) (w : World) (h : Hid (RdP w A n ls)) (hn : n ≤ 281474976710656) :
    Calls Try.prog 46 #[.slice A n c, .func (.func 33) #[] #[]] w (ValQ w (.int .i64 (idxP wrongP ls))) := by
  have h1 : n ≤ 9223372036854775807 := by omega
  clear hn
  go_enter Try.func46, Try.ntmps46
  go_wp2_with fail
  go_loopw [5, 8] (fun _ vi wr => ∃ k : Nat, vi = .int .i64 (k : Int) ∧ k ≤ n ∧ Hid (∀ j x, j < k → ls[j]? = some x → wrongP x = false) ∧ Hid (Below w.heap.size w wr)) (fun _ vi _ => n - (intOf vi).toNat)
  case atStart => exact ⟨0, rfl, by omega, Lib.hid (fun j x hj => by omega), Lib.hid (Below.refl _ _)⟩
  case round =>
    obtain ⟨k, rfl, hk, HK, HB⟩ := hrel
    by_cases hlt : k < n
    · have kn : (k : Int) < (n : Int) := by omega
      obtain ⟨L, x, rfl, hL, hx, c0, c1, -, hxn⟩ := (h.out.keep HB.out).at_ hlt
      have hL2 : (L.add (k * 2)).block < wr.heap.size := by rw [block_of_add]; exact hL
      have HX := Lib.hid hx
      have HXN := Lib.hid hxn
      clear hx hxn
      go_wp2_with fail
      refine (isWrong_any x.s x.A x.n x.c _).mono ?_
      rw [show wrong x.s x.n = wrongP x from rfl]
      rintro e w2 ⟨rfl, h2⟩
      have HB2 := Lib.hid (HB.out.trans (h2.mono HB.out.size))
      clear h2 c0 c1 hL hL2
      cases hp : wrongP x
      · have HP := Lib.hid hp
        clear hp
        go_wp2_with fail
        go_roundw
        case rel =>
          refine ⟨k + 1, by go_num, by omega, Lib.hid fun j y hj hy => ?_, HB2⟩
          by_cases hjk : j < k
          · exact HK.out j y hjk hy
          · obtain rfl : j = k := by omega
            rw [HX.out] at hy
            injection hy with hy
            rw [← hy]; exact HP.out
        case measure => simp [intOf]; omega
      · have HV := Lib.hid (idxP_at HX.out HK.out hp)
        clear hp
        go_wp2_with fail
        go_ret
        exact ⟨by rw [HV.out]; rfl, HB2.out⟩
    · obtain rfl : k = n := by omega
      have HV := Lib.hid (idxP_none (p := wrongP) (ls := ls) (fun j x hx => HK.out j x (by rw [← h.out.1]; exact (List.getElem?_eq_some_iff.1 hx).1) hx))
      go_wp2_with fail
      go_ret
      exact ⟨by rw [HV.out]; rfl, HB.out⟩
set_option maxRecDepth 100000 in
set_option maxHeartbeats 2000000 in
theorem idxFrom_any (A : Option Addr) (n c : Nat) (ls : List Pk) (seq : Int) (g : Nat) (T : TypeId) (w : World) (h : Hid (RdP w A n ls)) (hn : n ≤ 281474976710656) (hg : g < w.heap.size) (hc : Hid (w.cell? ⟨g, 0, none⟩ = some (.int .i64 seq))) :
    Calls Try.prog 46 #[.slice A n c, .func (.func 54) #[] #[.pointer (some ⟨g, 0, none⟩)]] w (ValQ w (.int .i64 (idxP (fromP seq) ls))) := by
  have h1 : n ≤ 9223372036854775807 := by omega
  clear hn
  go_enter Try.func46, Try.ntmps46
  go_wp2_with fail
  go_loopw [5, 8] (fun _ vi wr => ∃ k : Nat, vi = .int .i64 (k : Int) ∧ k ≤ n ∧ Hid (∀ j x, j < k → ls[j]? = some x → (fromP seq) x = false) ∧ Hid (Below w.heap.size w wr)) (fun _ vi _ => n - (intOf vi).toNat)
  case atStart => exact ⟨0, rfl, by omega, Lib.hid (fun j x hj => by omega), Lib.hid (Below.refl _ _)⟩
  case round =>
    obtain ⟨k, rfl, hk, HK, HB⟩ := hrel
    by_cases hlt : k < n
    · have kn : (k : Int) < (n : Int) := by omega
      obtain ⟨L, x, rfl, hL, hx, c0, c1, -, hxn⟩ := (h.out.keep HB.out).at_ hlt
      have hL2 : (L.add (k * 2)).block < wr.heap.size := by rw [block_of_add]; exact hL
      have HX := Lib.hid hx
      have HXN := Lib.hid hxn
      clear hx hxn
      go_wp2_with fail
      refine (find1_any x.s seq x.A x.n x.c g T _ (Lib.hid ((HB.out.cell (p := ⟨g, 0, none⟩) hg).trans hc.out)) (Nat.lt_of_lt_of_le hg HB.out.size)).mono ?_
      rw [show decide (seq ≤ x.s) = fromP seq x from rfl]
      rintro e w2 ⟨rfl, h2⟩
      have HB2 := Lib.hid (HB.out.trans (h2.mono HB.out.size))
      clear h2 c0 c1 hL hL2
      cases hp : (fromP seq) x
      · have HP := Lib.hid hp
        clear hp
        go_wp2_with fail
        go_roundw
        case rel =>
          refine ⟨k + 1, by go_num, by omega, Lib.hid fun j y hj hy => ?_, HB2⟩
          by_cases hjk : j < k
          · exact HK.out j y hjk hy
          · obtain rfl : j = k := by omega
            rw [HX.out] at hy
            injection hy with hy
            rw [← hy]; exact HP.out
        case measure => simp [intOf]; omega
      · have HV := Lib.hid (idxP_at HX.out HK.out hp)
        clear hp
        go_wp2_with fail
        go_ret
        exact ⟨by rw [HV.out]; rfl, HB2.out⟩
    · obtain rfl : k = n := by omega
      have HV := Lib.hid (idxP_none (p := (fromP seq)) (ls := ls) (fun j x hx => HK.out j x (by rw [← h.out.1]; exact (List.getElem?_eq_some_iff.1 hx).1) hx))
      go_wp2_with fail
      go_ret
      exact ⟨by rw [HV.out]; rfl, HB.out⟩
set_option maxHeartbeats 1000000 in
theorem hasWrong_any (A : Option Addr) (n c : Nat) (ls : List Pk) (w : World) (h : Hid (RdP w A n ls)) (hn : n ≤ 281474976710656) :
    Calls Try.prog 32 #[.slice A n c, .func (.func 33) #[] #[]] w (ValQ w (.bool (ls.any wrongP))) := by
  have HV := Lib.hid (idxP_any wrongP ls)
  go_enter Try.func32, Try.ntmps32
  go_wp2_with fail
  refine (idxWrong_any A n c ls _ h hn).mono ?_
  rintro e w2 ⟨rfl, h2⟩
  go_wp2_with fail
  go_ret
  exact ⟨by rw [← HV.out]; rfl, h2⟩
end Go.Proofs.Ytffapinabidkiaa.Lp
