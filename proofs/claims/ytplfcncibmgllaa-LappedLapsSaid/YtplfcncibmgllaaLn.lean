/-
  Own texts, laid together: Ln.
-/
import Derived.Test.YtplfcncibmgllaaLl
/- Ln -/
namespace Go.Proofs.Ytplfcncibmgllaa.Lp
open Go.RowKit Go.Proofs.Ytplfcncibmgllaa.Fx Go.Proofs.Ytplfcncibmgllaa.Fq Go.Proofs.Ytplfcncibmgllaa.Tb
theorem fwdV_form (p q : List Int) : ∃ (xs : List Int) (e : Int), fwdV p q = .tuple #[.agg (icells xs), .int .i64 e] ∧ xs.length = 16 := by
  unfold fwdV
  split
  · exact ⟨_, _, rfl, tab_length _ _⟩
  · exact ⟨_, _, rfl, zr_length _⟩
theorem invV_form (x : List Int) : ∃ (xs : List Int) (e : Int), invV x = .tuple #[.agg (icells xs), .int .i64 e] ∧ xs.length = 32 := by
  unfold invV
  split
  · exact ⟨_, _, rfl, tab_length _ _⟩
  · exact ⟨_, _, rfl, zr_length _⟩
end Go.Proofs.Ytplfcncibmgllaa.Lp
