/-
  Own texts, laid together: Lk.
-/
import Derived.Test.YtplfcncibmgllaaDoorLj
/- Lk -/
namespace Go.Proofs.YtplfcncibmgllaaDoor.Lp
open Go.RowKit Go.Proofs.YtplfcncibmgllaaDoor.Fx Go.Proofs.YtplfcncibmgllaaDoor.Fq Go.Proofs.YtplfcncibmgllaaDoor.Tb
end Go.Proofs.YtplfcncibmgllaaDoor.Lp
