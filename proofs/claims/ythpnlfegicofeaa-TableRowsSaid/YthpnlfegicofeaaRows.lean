/-
  No cell of these rows narrows 'for every input' (looked for: loops, veiled, ifaces, maps, wideKeys, modest, calm, conditions, laid).
  DERIVED. THE GIVEN ROWS OF THIS SEAT. 5 by the template 'for every input the law returns true; each argument reads behind the call as it read before'; 0 by the template 'total and deterministic' (their statements: YthpnlfegicofeaaTotals.lean).
  GIVEN WITH THE SEED: the statements are not yours to turn. If you find one false, say at which input.
  Laid BY PROGRAM, IN A SANDBOX (cutbox-rows.mjs): the forced cells as the released guide's own fill.sh prints them over the translation a8d30487b22999f5… (all of the seat's roots in one cut). By AI agents, Wed Nov 11 2026. No macro, syntax, notation, axiom, sorry.
-/
import Derived.Test.YthpnlfegicofeaaChecked
import GoSem.Claim
import GoSem.ClaimJoined
import GoSem.ClaimMapViews
import Derived.JoinedTies
import Derived.KernelRfl
namespace Go.Proofs.Ythpnlfegicofeaa
/- THE CELL 'sum', in the pinned program and in every row, IS THE sha256 OF THE DUMP (.gsa) THAT YthpnlfegicofeaaProg.lean LOADS. Nothing in Lean hashes anything: it is a label: what it is worth is what the hold of that sum in a sandbox is worth. -/
noncomputable def Try.pinned : Pinned := { name := "ythpnlfegicofeaa", sum := "a8d30487b22999f5265465807931b915bda9f9b4cd99166d3e158efb968b43d3", checked := Try.checked }
namespace Rows
def none {H : Type} : Left H := { results := [], args := [] }

/-- 'squelchlaw06.TableTurns': WHATEVER THE INPUT: true; the input reads as it did. -/
def tableTurnsSpec : ChangeSpec := { name := "tableTurns", fn := fun _ => fun
  | [d1, d2] => { results := [.lit (.bool true)], args := [d1, d2] }
  | _ => none }
def tableTurnsRow : OpenClaim := { program := "ythpnlfegicofeaa", sum := "a8d30487b22999f5265465807931b915bda9f9b4cd99166d3e158efb968b43d3", func := "squelch/squelchlaw06.TableTurns", spec := "tableTurns", unfollowed := true, recurses := true, apart := false }
def TableTurnsSaid : Prop := tableTurnsRow.holds Try.pinned (OpenSpec.ofChange tableTurnsSpec)

/-- ITS FALSE NEIGHBOUR: 'it returns false'. Refute it at one input. -/
def tableTurnsWrong : ChangeSpec := { name := "tableTurns", fn := fun _ => fun
  | [d1, d2] => { results := [.lit (.bool false)], args := [d1, d2] }
  | _ => none }
def TableTurnsWrongFalsely : Prop := tableTurnsRow.holds Try.pinned (OpenSpec.ofChange tableTurnsWrong)

/-- 'squelchlaw06.TableFrames': WHATEVER THE INPUT: true; the input reads as it did. -/
def tableFramesSpec : ChangeSpec := { name := "tableFrames", fn := fun _ => fun
  | [d1, d2] => { results := [.lit (.bool true)], args := [d1, d2] }
  | _ => none }
def tableFramesRow : OpenClaim := { program := "ythpnlfegicofeaa", sum := "a8d30487b22999f5265465807931b915bda9f9b4cd99166d3e158efb968b43d3", func := "squelch/squelchlaw06.TableFrames", spec := "tableFrames", unfollowed := true, recurses := true, apart := false }
def TableFramesSaid : Prop := tableFramesRow.holds Try.pinned (OpenSpec.ofChange tableFramesSpec)

/-- ITS FALSE NEIGHBOUR: 'it returns false'. Refute it at one input. -/
def tableFramesWrong : ChangeSpec := { name := "tableFrames", fn := fun _ => fun
  | [d1, d2] => { results := [.lit (.bool false)], args := [d1, d2] }
  | _ => none }
def TableFramesWrongFalsely : Prop := tableFramesRow.holds Try.pinned (OpenSpec.ofChange tableFramesWrong)

/-- 'squelchlaw06.TableCircle': WHATEVER THE INPUT: true; the input reads as it did. -/
def tableCircleSpec : ChangeSpec := { name := "tableCircle", fn := fun _ => fun
  | [d1, d2] => { results := [.lit (.bool true)], args := [d1, d2] }
  | _ => none }
def tableCircleRow : OpenClaim := { program := "ythpnlfegicofeaa", sum := "a8d30487b22999f5265465807931b915bda9f9b4cd99166d3e158efb968b43d3", func := "squelch/squelchlaw06.TableCircle", spec := "tableCircle", unfollowed := true, recurses := true, apart := false }
def TableCircleSaid : Prop := tableCircleRow.holds Try.pinned (OpenSpec.ofChange tableCircleSpec)

/-- ITS FALSE NEIGHBOUR: 'it returns false'. Refute it at one input. -/
def tableCircleWrong : ChangeSpec := { name := "tableCircle", fn := fun _ => fun
  | [d1, d2] => { results := [.lit (.bool false)], args := [d1, d2] }
  | _ => none }
def TableCircleWrongFalsely : Prop := tableCircleRow.holds Try.pinned (OpenSpec.ofChange tableCircleWrong)

/-- 'squelchlaw06.TableOpposite': WHATEVER THE INPUT: true; the input reads as it did. -/
def tableOppositeSpec : ChangeSpec := { name := "tableOpposite", fn := fun _ => fun
  | [d] => { results := [.lit (.bool true)], args := [d] }
  | _ => none }
def tableOppositeRow : OpenClaim := { program := "ythpnlfegicofeaa", sum := "a8d30487b22999f5265465807931b915bda9f9b4cd99166d3e158efb968b43d3", func := "squelch/squelchlaw06.TableOpposite", spec := "tableOpposite", unfollowed := true, recurses := true, apart := false }
def TableOppositeSaid : Prop := tableOppositeRow.holds Try.pinned (OpenSpec.ofChange tableOppositeSpec)

/-- ITS FALSE NEIGHBOUR: 'it returns false'. Refute it at one input. -/
def tableOppositeWrong : ChangeSpec := { name := "tableOpposite", fn := fun _ => fun
  | [d] => { results := [.lit (.bool false)], args := [d] }
  | _ => none }
def TableOppositeWrongFalsely : Prop := tableOppositeRow.holds Try.pinned (OpenSpec.ofChange tableOppositeWrong)

/-- 'squelchlaw06.TableRows': WHATEVER THE INPUT: true; the input reads as it did. -/
def tableRowsSpec : ChangeSpec := { name := "tableRows", fn := fun _ => fun
  | [d1, d2] => { results := [.lit (.bool true)], args := [d1, d2] }
  | _ => none }
def tableRowsRow : OpenClaim := { program := "ythpnlfegicofeaa", sum := "a8d30487b22999f5265465807931b915bda9f9b4cd99166d3e158efb968b43d3", func := "squelch/squelchlaw06.TableRows", spec := "tableRows", unfollowed := true, recurses := true, apart := false }
def TableRowsSaid : Prop := tableRowsRow.holds Try.pinned (OpenSpec.ofChange tableRowsSpec)

/-- ITS FALSE NEIGHBOUR: 'it returns false'. Refute it at one input. -/
def tableRowsWrong : ChangeSpec := { name := "tableRows", fn := fun _ => fun
  | [d1, d2] => { results := [.lit (.bool false)], args := [d1, d2] }
  | _ => none }
def TableRowsWrongFalsely : Prop := tableRowsRow.holds Try.pinned (OpenSpec.ofChange tableRowsWrong)

/- THE SECOND FORM. 'bulk': how many values and letters a reading holds, each counted each time it is reached (what is shared counts as often as it is met; a slice's spare places count too). A statement '..UptoSaid' is the law's where the arguments, and the package variables that the reading takes, are together of bulk at most 1048576: NARROWER than '..Said'. Prove '..Said' where nothing that the law and all that it calls make is longer than what came in: it says more and counts as full. Else prove '..UptoSaid'. A law counts once. -/
mutual
def uptoBulk {H : Type} : DataW H → Nat
  | .lit (.string bytes) => bytes.length + 1
  | .lit _ => 1
  | .nil => 1
  | .ptr d => uptoBulk d + 1
  | .slice elems spare => uptoBulkAll elems + uptoBulkAll spare + 1
  | .agg parts => uptoBulkAll parts + 1
  | .iface _ d => uptoBulk d + 1
  | .map entries => uptoBulkEntries entries + 1
  | .held _ => 1
def uptoBulkAll {H : Type} : List (DataW H) → Nat
  | [] => 0
  | d :: r => uptoBulk d + uptoBulkAll r
def uptoBulkEntries {H : Type} : List (Lit × DataW H) → Nat
  | [] => 0
  | x :: r => uptoBulkEntry x + uptoBulkEntries r
def uptoBulkEntry {H : Type} : Lit × DataW H → Nat
  | (.string bytes, d) => bytes.length + uptoBulk d + 1
  | (_, d) => uptoBulk d + 1
 end
def uptoSmall : (H : Type) → List (DataW H) → Bool := fun _ ds => decide (uptoBulkAll ds ≤ 1048576)
def OpenSpec.upto (s : _root_.Go.ChangeSpec) : _root_.Go.OpenSpec := { _root_.Go.OpenSpec.ofChange s with cond := some uptoSmall }

/-- 'squelchlaw06.TableTurns', WHERE WHAT IT READS IS OF BULK AT MOST 1048576: true; the input reads as it did. -/
def tableTurnsUptoRow : OpenClaim := { program := "ythpnlfegicofeaa", sum := "a8d30487b22999f5265465807931b915bda9f9b4cd99166d3e158efb968b43d3", func := "squelch/squelchlaw06.TableTurns", spec := "tableTurns", unfollowed := true, recurses := true, apart := false, narrowed := true }
def TableTurnsUptoSaid : Prop := tableTurnsUptoRow.holds Try.pinned (OpenSpec.upto tableTurnsSpec)

/-- 'squelchlaw06.TableFrames', WHERE WHAT IT READS IS OF BULK AT MOST 1048576: true; the input reads as it did. -/
def tableFramesUptoRow : OpenClaim := { program := "ythpnlfegicofeaa", sum := "a8d30487b22999f5265465807931b915bda9f9b4cd99166d3e158efb968b43d3", func := "squelch/squelchlaw06.TableFrames", spec := "tableFrames", unfollowed := true, recurses := true, apart := false, narrowed := true }
def TableFramesUptoSaid : Prop := tableFramesUptoRow.holds Try.pinned (OpenSpec.upto tableFramesSpec)

/-- 'squelchlaw06.TableCircle', WHERE WHAT IT READS IS OF BULK AT MOST 1048576: true; the input reads as it did. -/
def tableCircleUptoRow : OpenClaim := { program := "ythpnlfegicofeaa", sum := "a8d30487b22999f5265465807931b915bda9f9b4cd99166d3e158efb968b43d3", func := "squelch/squelchlaw06.TableCircle", spec := "tableCircle", unfollowed := true, recurses := true, apart := false, narrowed := true }
def TableCircleUptoSaid : Prop := tableCircleUptoRow.holds Try.pinned (OpenSpec.upto tableCircleSpec)

/-- 'squelchlaw06.TableOpposite', WHERE WHAT IT READS IS OF BULK AT MOST 1048576: true; the input reads as it did. -/
def tableOppositeUptoRow : OpenClaim := { program := "ythpnlfegicofeaa", sum := "a8d30487b22999f5265465807931b915bda9f9b4cd99166d3e158efb968b43d3", func := "squelch/squelchlaw06.TableOpposite", spec := "tableOpposite", unfollowed := true, recurses := true, apart := false, narrowed := true }
def TableOppositeUptoSaid : Prop := tableOppositeUptoRow.holds Try.pinned (OpenSpec.upto tableOppositeSpec)

/-- 'squelchlaw06.TableRows', WHERE WHAT IT READS IS OF BULK AT MOST 1048576: true; the input reads as it did. -/
def tableRowsUptoRow : OpenClaim := { program := "ythpnlfegicofeaa", sum := "a8d30487b22999f5265465807931b915bda9f9b4cd99166d3e158efb968b43d3", func := "squelch/squelchlaw06.TableRows", spec := "tableRows", unfollowed := true, recurses := true, apart := false, narrowed := true }
def TableRowsUptoSaid : Prop := tableRowsUptoRow.holds Try.pinned (OpenSpec.upto tableRowsSpec)

end Rows
end Go.Proofs.Ythpnlfegicofeaa
