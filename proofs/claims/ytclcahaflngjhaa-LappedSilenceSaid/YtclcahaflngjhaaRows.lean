/-
  No cell of these rows narrows 'for every input' (looked for: loops, veiled, ifaces, maps, wideKeys, modest, calm, conditions, laid).
  DERIVED. THE GIVEN ROWS OF THIS SEAT. 5 by the template 'for every input the law returns true; each argument reads behind the call as it read before'; 0 by the template 'total and deterministic' (their statements: YtclcahaflngjhaaTotals.lean).
  GIVEN WITH THE SEED: the statements are not yours to turn. If you find one false, say at which input.
  Laid BY PROGRAM, IN A SANDBOX (cutbox-rows.mjs): the forced cells as the released guide's own fill.sh prints them over the translation b195661cca8ac00a… (all of the seat's roots in one cut). By AI agents, Wed Nov 11 2026. No macro, syntax, notation, axiom, sorry.
-/
import Derived.Test.YtclcahaflngjhaaChecked
import GoSem.Claim
import GoSem.ClaimJoined
import GoSem.ClaimMapViews
import Derived.JoinedTies
import Derived.KernelRfl
namespace Go.Proofs.Ytclcahaflngjhaa
/- THE CELL 'sum', in the pinned program and in every row, IS THE sha256 OF THE DUMP (.gsa) THAT YtclcahaflngjhaaProg.lean LOADS. Nothing in Lean hashes anything: it is a label: what it is worth is what the hold of that sum in a sandbox is worth. -/
noncomputable def Try.pinned : Pinned := { name := "ytclcahaflngjhaa", sum := "b195661cca8ac00a7c937268546ce6546e95f93f34fd69300b7f6fec64cc98d0", checked := Try.checked }
namespace Rows
def none {H : Type} : Left H := { results := [], args := [] }

/-- 'squelchlaw07.LappedForward': WHATEVER THE INPUT: true; the input reads as it did. -/
def lappedForwardSpec : ChangeSpec := { name := "lappedForward", fn := fun _ => fun
  | [d1, d2] => { results := [.lit (.bool true)], args := [d1, d2] }
  | _ => none }
def lappedForwardRow : OpenClaim := { program := "ytclcahaflngjhaa", sum := "b195661cca8ac00a7c937268546ce6546e95f93f34fd69300b7f6fec64cc98d0", func := "squelch/squelchlaw07.LappedForward", spec := "lappedForward", unfollowed := true, recurses := true, apart := false }
def LappedForwardSaid : Prop := lappedForwardRow.holds Try.pinned (OpenSpec.ofChange lappedForwardSpec)

/-- ITS FALSE NEIGHBOUR: 'it returns false'. Refute it at one input. -/
def lappedForwardWrong : ChangeSpec := { name := "lappedForward", fn := fun _ => fun
  | [d1, d2] => { results := [.lit (.bool false)], args := [d1, d2] }
  | _ => none }
def LappedForwardWrongFalsely : Prop := lappedForwardRow.holds Try.pinned (OpenSpec.ofChange lappedForwardWrong)

/-- 'squelchlaw07.LappedInverse': WHATEVER THE INPUT: true; the input reads as it did. -/
def lappedInverseSpec : ChangeSpec := { name := "lappedInverse", fn := fun _ => fun
  | [d] => { results := [.lit (.bool true)], args := [d] }
  | _ => none }
def lappedInverseRow : OpenClaim := { program := "ytclcahaflngjhaa", sum := "b195661cca8ac00a7c937268546ce6546e95f93f34fd69300b7f6fec64cc98d0", func := "squelch/squelchlaw07.LappedInverse", spec := "lappedInverse", unfollowed := true, recurses := true, apart := false }
def LappedInverseSaid : Prop := lappedInverseRow.holds Try.pinned (OpenSpec.ofChange lappedInverseSpec)

/-- ITS FALSE NEIGHBOUR: 'it returns false'. Refute it at one input. -/
def lappedInverseWrong : ChangeSpec := { name := "lappedInverse", fn := fun _ => fun
  | [d] => { results := [.lit (.bool false)], args := [d] }
  | _ => none }
def LappedInverseWrongFalsely : Prop := lappedInverseRow.holds Try.pinned (OpenSpec.ofChange lappedInverseWrong)

/-- 'squelchlaw07.LappedLaps': WHATEVER THE INPUT: true; the input reads as it did. -/
def lappedLapsSpec : ChangeSpec := { name := "lappedLaps", fn := fun _ => fun
  | [d1, d2, d3] => { results := [.lit (.bool true)], args := [d1, d2, d3] }
  | _ => none }
def lappedLapsRow : OpenClaim := { program := "ytclcahaflngjhaa", sum := "b195661cca8ac00a7c937268546ce6546e95f93f34fd69300b7f6fec64cc98d0", func := "squelch/squelchlaw07.LappedLaps", spec := "lappedLaps", unfollowed := true, recurses := true, apart := false }
def LappedLapsSaid : Prop := lappedLapsRow.holds Try.pinned (OpenSpec.ofChange lappedLapsSpec)

/-- ITS FALSE NEIGHBOUR: 'it returns false'. Refute it at one input. -/
def lappedLapsWrong : ChangeSpec := { name := "lappedLaps", fn := fun _ => fun
  | [d1, d2, d3] => { results := [.lit (.bool false)], args := [d1, d2, d3] }
  | _ => none }
def LappedLapsWrongFalsely : Prop := lappedLapsRow.holds Try.pinned (OpenSpec.ofChange lappedLapsWrong)

/-- 'squelchlaw07.LappedSilence': WHATEVER THE INPUT: true; the input reads as it did. -/
def lappedSilenceSpec : ChangeSpec := { name := "lappedSilence", fn := fun _ => fun
  | [d1, d2] => { results := [.lit (.bool true)], args := [d1, d2] }
  | _ => none }
def lappedSilenceRow : OpenClaim := { program := "ytclcahaflngjhaa", sum := "b195661cca8ac00a7c937268546ce6546e95f93f34fd69300b7f6fec64cc98d0", func := "squelch/squelchlaw07.LappedSilence", spec := "lappedSilence", unfollowed := true, recurses := true, apart := false }
def LappedSilenceSaid : Prop := lappedSilenceRow.holds Try.pinned (OpenSpec.ofChange lappedSilenceSpec)

/-- ITS FALSE NEIGHBOUR: 'it returns false'. Refute it at one input. -/
def lappedSilenceWrong : ChangeSpec := { name := "lappedSilence", fn := fun _ => fun
  | [d1, d2] => { results := [.lit (.bool false)], args := [d1, d2] }
  | _ => none }
def LappedSilenceWrongFalsely : Prop := lappedSilenceRow.holds Try.pinned (OpenSpec.ofChange lappedSilenceWrong)

/-- 'squelchlaw07.LappedTurned': WHATEVER THE INPUT: true; the input reads as it did. -/
def lappedTurnedSpec : ChangeSpec := { name := "lappedTurned", fn := fun _ => fun
  | [d1, d2, d3] => { results := [.lit (.bool true)], args := [d1, d2, d3] }
  | _ => none }
def lappedTurnedRow : OpenClaim := { program := "ytclcahaflngjhaa", sum := "b195661cca8ac00a7c937268546ce6546e95f93f34fd69300b7f6fec64cc98d0", func := "squelch/squelchlaw07.LappedTurned", spec := "lappedTurned", unfollowed := true, recurses := true, apart := false }
def LappedTurnedSaid : Prop := lappedTurnedRow.holds Try.pinned (OpenSpec.ofChange lappedTurnedSpec)

/-- ITS FALSE NEIGHBOUR: 'it returns false'. Refute it at one input. -/
def lappedTurnedWrong : ChangeSpec := { name := "lappedTurned", fn := fun _ => fun
  | [d1, d2, d3] => { results := [.lit (.bool false)], args := [d1, d2, d3] }
  | _ => none }
def LappedTurnedWrongFalsely : Prop := lappedTurnedRow.holds Try.pinned (OpenSpec.ofChange lappedTurnedWrong)

/- THE SECOND FORM. 'bulk': how many values and letters a reading holds, each counted each time it is reached (what is shared counts as often as it is met; a slice's spare places count too). A statement '..UptoSaid' is the law's where the arguments, and the package variables that the reading takes, are together of bulk at most 1048576: NARROWER than '..Said'. Prove '..Said' where nothing that the law and all that it calls make is longer than what came in: it says more and counts as full. Else prove '..UptoSaid'. A law counts once. -/
mutual
def uptoBulk {H : Type} : DataW H → Nat
  | .lit (.string bytes) => bytes.length + 1
  | .lit _ => 1
  | .nil => 1
  | .ptr d => uptoBulk d + 1
  | .slice elems spare => uptoBulkAll elems + uptoBulkAll spare + 1
  | .agg parts => uptoBulkAll parts + 1
  | .iface _ d => uptoBulk d + 1
  | .map entries => uptoBulkEntries entries + 1
  | .held _ => 1
def uptoBulkAll {H : Type} : List (DataW H) → Nat
  | [] => 0
  | d :: r => uptoBulk d + uptoBulkAll r
def uptoBulkEntries {H : Type} : List (Lit × DataW H) → Nat
  | [] => 0
  | x :: r => uptoBulkEntry x + uptoBulkEntries r
def uptoBulkEntry {H : Type} : Lit × DataW H → Nat
  | (.string bytes, d) => bytes.length + uptoBulk d + 1
  | (_, d) => uptoBulk d + 1
 end
def uptoSmall : (H : Type) → List (DataW H) → Bool := fun _ ds => decide (uptoBulkAll ds ≤ 1048576)
def OpenSpec.upto (s : _root_.Go.ChangeSpec) : _root_.Go.OpenSpec := { _root_.Go.OpenSpec.ofChange s with cond := some uptoSmall }

/-- 'squelchlaw07.LappedForward', WHERE WHAT IT READS IS OF BULK AT MOST 1048576: true; the input reads as it did. -/
def lappedForwardUptoRow : OpenClaim := { program := "ytclcahaflngjhaa", sum := "b195661cca8ac00a7c937268546ce6546e95f93f34fd69300b7f6fec64cc98d0", func := "squelch/squelchlaw07.LappedForward", spec := "lappedForward", unfollowed := true, recurses := true, apart := false, narrowed := true }
def LappedForwardUptoSaid : Prop := lappedForwardUptoRow.holds Try.pinned (OpenSpec.upto lappedForwardSpec)

/-- 'squelchlaw07.LappedInverse', WHERE WHAT IT READS IS OF BULK AT MOST 1048576: true; the input reads as it did. -/
def lappedInverseUptoRow : OpenClaim := { program := "ytclcahaflngjhaa", sum := "b195661cca8ac00a7c937268546ce6546e95f93f34fd69300b7f6fec64cc98d0", func := "squelch/squelchlaw07.LappedInverse", spec := "lappedInverse", unfollowed := true, recurses := true, apart := false, narrowed := true }
def LappedInverseUptoSaid : Prop := lappedInverseUptoRow.holds Try.pinned (OpenSpec.upto lappedInverseSpec)

/-- 'squelchlaw07.LappedLaps', WHERE WHAT IT READS IS OF BULK AT MOST 1048576: true; the input reads as it did. -/
def lappedLapsUptoRow : OpenClaim := { program := "ytclcahaflngjhaa", sum := "b195661cca8ac00a7c937268546ce6546e95f93f34fd69300b7f6fec64cc98d0", func := "squelch/squelchlaw07.LappedLaps", spec := "lappedLaps", unfollowed := true, recurses := true, apart := false, narrowed := true }
def LappedLapsUptoSaid : Prop := lappedLapsUptoRow.holds Try.pinned (OpenSpec.upto lappedLapsSpec)

/-- 'squelchlaw07.LappedSilence', WHERE WHAT IT READS IS OF BULK AT MOST 1048576: true; the input reads as it did. -/
def lappedSilenceUptoRow : OpenClaim := { program := "ytclcahaflngjhaa", sum := "b195661cca8ac00a7c937268546ce6546e95f93f34fd69300b7f6fec64cc98d0", func := "squelch/squelchlaw07.LappedSilence", spec := "lappedSilence", unfollowed := true, recurses := true, apart := false, narrowed := true }
def LappedSilenceUptoSaid : Prop := lappedSilenceUptoRow.holds Try.pinned (OpenSpec.upto lappedSilenceSpec)

/-- 'squelchlaw07.LappedTurned', WHERE WHAT IT READS IS OF BULK AT MOST 1048576: true; the input reads as it did. -/
def lappedTurnedUptoRow : OpenClaim := { program := "ytclcahaflngjhaa", sum := "b195661cca8ac00a7c937268546ce6546e95f93f34fd69300b7f6fec64cc98d0", func := "squelch/squelchlaw07.LappedTurned", spec := "lappedTurned", unfollowed := true, recurses := true, apart := false, narrowed := true }
def LappedTurnedUptoSaid : Prop := lappedTurnedUptoRow.holds Try.pinned (OpenSpec.upto lappedTurnedSpec)

end Rows
end Go.Proofs.Ytclcahaflngjhaa
