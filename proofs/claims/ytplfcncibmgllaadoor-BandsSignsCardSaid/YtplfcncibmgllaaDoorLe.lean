/-
  Own texts, laid together: Le.
-/
import Derived.Test.YtplfcncibmgllaaDoorLd
/- Le -/
namespace Go.Proofs.YtplfcncibmgllaaDoor.Lp
open Go.RowKit Go.Proofs.YtplfcncibmgllaaDoor.Fx Go.Proofs.YtplfcncibmgllaaDoor.Fq Go.Proofs.YtplfcncibmgllaaDoor.Tb
/-- each sample's sum, behind k numbers -/
def mxN (x : List Int) (k n : Nat) : Int := sumN (fun k => x.getD k 0 * kerP n k) k
end Go.Proofs.YtplfcncibmgllaaDoor.Lp
