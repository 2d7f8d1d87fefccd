/-
  Own texts, laid together: Tf.
-/
import Derived.Test.YtplfcncibmgllaaDoorTe
import Derived.Test.YtplfcncibmgllaaDoorSi
import Derived.Test.YtplfcncibmgllaaDoorSk
import Derived.Laws.AppendOwn
import Derived.Laws.AppendOwnNone
import Derived.Maps.AppendAt
import Derived.OwnWalk
/- Tf -/
namespace Go.Proofs.YtplfcncibmgllaaDoor.Tb
open Go.RowKit Go.Proofs.YtplfcncibmgllaaDoor.Fx Go.Proofs.YtplfcncibmgllaaDoor.Fq
def halfV2 (i : Nat) : Value := .tuple #[.int .i64 (partP i).1, .int .i64 (partP i).2]
theorem tm128 (m : Int) (n : Nat) (hm : m % 128 = (n : Int)) : ∃ t, m.tmod 128 = t ∧ -128 < t ∧ t < 128 ∧ (t + 128) % 128 = (n : Int) ∧ t % 128 = (n : Int) := by
  have h1 := Int.mul_tdiv_add_tmod m 128
  have h2 := tdm m 128 (by omega)
  exact ⟨_, rfl, by have := h2.2; omega, by have := h2.2; omega, by omega, by omega⟩
end Go.Proofs.YtplfcncibmgllaaDoor.Tb
