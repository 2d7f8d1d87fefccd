/-
  Own texts, laid together: Lj.
-/
import Derived.Test.YtplfcncibmgllaaLi
/- Lj -/
namespace Go.Proofs.Ytplfcncibmgllaa.Lp
open Go.RowKit Go.Proofs.Ytplfcncibmgllaa.Fx Go.Proofs.Ytplfcncibmgllaa.Fq Go.Proofs.Ytplfcncibmgllaa.Tb
end Go.Proofs.Ytplfcncibmgllaa.Lp
