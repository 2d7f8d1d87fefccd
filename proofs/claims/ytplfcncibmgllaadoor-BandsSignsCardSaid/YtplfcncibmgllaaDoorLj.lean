/-
  Own texts, laid together: Lj.
-/
import Derived.Test.YtplfcncibmgllaaDoorLi
/- Lj -/
namespace Go.Proofs.YtplfcncibmgllaaDoor.Lp
open Go.RowKit Go.Proofs.YtplfcncibmgllaaDoor.Fx Go.Proofs.YtplfcncibmgllaaDoor.Fq Go.Proofs.YtplfcncibmgllaaDoor.Tb
end Go.Proofs.YtplfcncibmgllaaDoor.Lp
