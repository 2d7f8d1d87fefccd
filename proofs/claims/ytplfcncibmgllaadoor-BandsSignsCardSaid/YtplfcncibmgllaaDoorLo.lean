/-
  Own texts, laid together: Lo.
-/
import Derived.Test.YtplfcncibmgllaaDoorRows
import Derived.Test.YtplfcncibmgllaaDoorLa
import Derived.WalkKit
import Derived.ProofKit
import Derived.OpenShut
import Derived.Lib.SmallJoins
import Derived.Deep.Slices
/- Lo -/
namespace Go.Proofs.YtplfcncibmgllaaDoor.Lp
open Go.ChangeShapes Go.WideShapes Go.ChangeAt Go.RowKit Go.Joins Go.Deep Go.Proofs.YtplfcncibmgllaaDoor.Fq
theorem laidOut : laidOutB Tryd.prog = true := by kernel_rfl
theorem own : ownKnob Tryd.prog.godebug = none := by kernel_rfl
theorem cells_int : Tryd.prog.cellsOf 3 = 1 := by kernel_rfl
theorem ints_of : ∀ (n : Nat) (l : List Value), l.length = n → (∀ i, i < n → ∃ z : Int, (l.drop i).take 1 = [.int .i64 z]) → ∃ zs : List Int, zs.length = n ∧ l = zs.map fun x => Value.int .i64 x
  | 0, l, hl, _ => ⟨[], rfl, by simpa using hl⟩
  | n + 1, l, hl, h => by
    match l, hl, h with
    | v :: l, hl, h =>
      obtain ⟨z, hz⟩ := h 0 (by omega)
      simp only [List.drop_zero, List.take_succ_cons, List.take_zero, List.cons.injEq, and_true] at hz
      obtain ⟨zs, hzl, e⟩ := ints_of n l (by simpa using hl) fun i hi => by
        have := h (i + 1) (by omega)
        simpa using this
      exact ⟨z :: zs, by simp [hzl], by rw [hz, e]; rfl⟩
section
variable {H : Type} {enc : TypeId × Value → H} {W : World} {base : Nat} {spare : Nat → Bool} {held : Bool}
theorem open_arr {b0 : Nat} {r : Reach} {T : TypeId} {n : Nat} {v : Value} {d : DataW H} {p : List MemPlace} (hT : Tryd.prog.underlying T = some (.array n 3)) (hc : Tryd.prog.cellsOf T = n)
    (hv : Value.okWide Tryd.prog W r b0 T v) (h : DataW.Trod enc Tryd.prog W base spare held T v d p) : ∃ zs : List Int, v = .agg (icells zs) ∧ zs.length = n := by
  obtain ⟨cs, rfl, hsz⟩ : ∃ cs, v = .agg cs ∧ cs.size = n := by
    simp only [Value.okWide, hT] at hv
    obtain ⟨cs, h1, h2, _⟩ := hv
    exact ⟨cs, h1, by rw [h2, hc]⟩
  obtain ⟨fuel, hf⟩ := h
  obtain ⟨xs, m, rfl, _, hl, hn, hel⟩ := DataW.trod_array hT hf
  obtain ⟨zs, hz, e⟩ := ints_of n cs.toList (by simpa using hsz) fun i hi => by
    have hi' := hel i hi
    rw [cells_int, Nat.mul_one] at hi'
    have hx : xs[i]? = some xs[i] := List.getElem?_eq_getElem (by omega)
    rw [hx] at hi'
    obtain ⟨z, hz, _⟩ := DataW.trod_int Tryd.underlying3 hi'
    exact ⟨z, by simpa [Value.cells] using hz⟩
  refine ⟨zs, ?_, hz⟩
  unfold icells
  rw [← e]
end
end Go.Proofs.YtplfcncibmgllaaDoor.Lp
