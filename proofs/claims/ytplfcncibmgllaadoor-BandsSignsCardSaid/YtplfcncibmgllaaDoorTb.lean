/-
  Own texts, laid together: Tb.
-/
import Derived.Test.YtplfcncibmgllaaDoorTa
import Derived.Deep.RegionHeld3
/- Tb -/
namespace Go.Proofs.YtplfcncibmgllaaDoor.Tb
open Go.RowKit Go.Proofs.YtplfcncibmgllaaDoor.Fx
theorem grown_trans {a b c : World} {g : Option Nat} (h : a.grownBy b g) (k : b.grownBy c g) : a.grownBy c g :=
  ⟨k.os.trans h.os, k.tape.trans h.tape, k.output.trans h.output, Nat.le_trans h.size k.size, fun i hi hne => (k.block i (Nat.lt_of_lt_of_le hi h.size) hne).trans (h.block i hi hne)⟩
end Go.Proofs.YtplfcncibmgllaaDoor.Tb
