/-
  Own texts, laid together: Se.
-/
import Derived.Test.YtplfcncibmgllaaDoorSd
/- Se -/
namespace Go.Proofs.YtplfcncibmgllaaDoor.Fx
open Go.RowKit
theorem below_of_drewN (w : World) (q : Nat) : Below w.heap.size w (w.drewN q) := below_drewN (Below.refl _ _) q
end Go.Proofs.YtplfcncibmgllaaDoor.Fx
