/-
  Own texts, laid together: Ld.
-/
import Derived.Test.YtplfcncibmgllaaDoorLc
import Derived.Deep.RegionWith
/- Ld -/
namespace Go.Proofs.YtplfcncibmgllaaDoor.Lp
open Go.RowKit Go.Proofs.YtplfcncibmgllaaDoor.Fx Go.Proofs.YtplfcncibmgllaaDoor.Fq Go.Proofs.YtplfcncibmgllaaDoor.Tb
theorem i64_w {x : Int} (h1 : -9223372036854775808 ≤ x) (h2 : x ≤ 9223372036854775807) : IntKind.i64.wrap x = x := IntWalk.i64_in _ (by omega)
def ShQ (w : World) (v : Int) (e : Ending) (w' : World) : Prop := e = .returned (.int .i64 v) ∧ Below w.heap.size w w'
def AggQ (w : World) (xs : List Int) (e : Ending) (w' : World) : Prop := e = .returned (.agg (icells xs)) ∧ Below w.heap.size w w'
theorem smp_app {p q : List Int} (hp : p.length = 16) (hq : q.length = 16) : p ++ q = tab 32 (smp p q) := by
  refine List.ext_getElem? fun i => ?_
  by_cases h : i < 16
  · rw [tab_get _ (by omega), List.getElem?_append_left (by omega), get_of_lt (by omega)]
    unfold smp
    rw [if_pos h]
  · by_cases h2 : i < 32
    · rw [tab_get _ (by omega), List.getElem?_append_right (by omega), hp, get_of_lt (by omega)]
      unfold smp
      rw [if_neg h]
    · rw [List.getElem?_eq_none (by rw [List.length_append]; omega), List.getElem?_eq_none (by rw [tab_length]; omega)]
end Go.Proofs.YtplfcncibmgllaaDoor.Lp
