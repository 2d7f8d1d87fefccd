/-
  No cell of these rows narrows 'for every input' (looked for: loops, veiled, ifaces, maps, wideKeys, modest, calm, conditions, laid).
  DERIVED. THE GIVEN ROWS OF THIS SEAT. 7 by the template 'for every input the law returns true; each argument reads behind the call as it read before'; 0 by the template 'total and deterministic' (their statements: YtgelgbfnioagbaaTotals.lean).
  GIVEN WITH THE SEED: the statements are not yours to turn. If you find one false, say at which input.
  Laid BY PROGRAM, IN A SANDBOX (cutbox-rows.mjs): the forced cells as the released guide's own fill.sh prints them over the translation aaf8618a1c1361fc… (all of the seat's roots in one cut). By AI agents, Wed Nov 11 2026. No macro, syntax, notation, axiom, sorry.
-/
import Derived.Test.YtgelgbfnioagbaaChecked
import GoSem.Claim
import GoSem.ClaimJoined
import GoSem.ClaimMapViews
import Derived.JoinedTies
import Derived.KernelRfl
namespace Go.Proofs.Ytgelgbfnioagbaa
/- THE CELL 'sum', in the pinned program and in every row, IS THE sha256 OF THE DUMP (.gsa) THAT YtgelgbfnioagbaaProg.lean LOADS. Nothing in Lean hashes anything: it is a label: what it is worth is what the hold of that sum in a sandbox is worth. -/
noncomputable def Try.pinned : Pinned := { name := "ytgelgbfnioagbaa", sum := "aaf8618a1c1361fcab539a6568e1643c51b080d5022a937ffb9518b22e230c8b", checked := Try.checked }
namespace Rows
def none {H : Type} : Left H := { results := [], args := [] }

/-- 'squelchlaw04.CoderPuts': WHATEVER THE INPUT: true; the input reads as it did. -/
def coderPutsSpec : ChangeSpec := { name := "coderPuts", fn := fun _ => fun
  | [d1, d2, d3] => { results := [.lit (.bool true)], args := [d1, d2, d3] }
  | _ => none }
def coderPutsRow : OpenClaim := { program := "ytgelgbfnioagbaa", sum := "aaf8618a1c1361fcab539a6568e1643c51b080d5022a937ffb9518b22e230c8b", func := "squelch/squelchlaw04.CoderPuts", spec := "coderPuts", unfollowed := true, recurses := true, apart := false }
def CoderPutsSaid : Prop := coderPutsRow.holds Try.pinned (OpenSpec.ofChange coderPutsSpec)

/-- ITS FALSE NEIGHBOUR: 'it returns false'. Refute it at one input. -/
def coderPutsWrong : ChangeSpec := { name := "coderPuts", fn := fun _ => fun
  | [d1, d2, d3] => { results := [.lit (.bool false)], args := [d1, d2, d3] }
  | _ => none }
def CoderPutsWrongFalsely : Prop := coderPutsRow.holds Try.pinned (OpenSpec.ofChange coderPutsWrong)

/-- 'squelchlaw04.CoderNexts': WHATEVER THE INPUT: true; the input reads as it did. -/
def coderNextsSpec : ChangeSpec := { name := "coderNexts", fn := fun _ => fun
  | [d1, d2, d3] => { results := [.lit (.bool true)], args := [d1, d2, d3] }
  | _ => none }
def coderNextsRow : OpenClaim := { program := "ytgelgbfnioagbaa", sum := "aaf8618a1c1361fcab539a6568e1643c51b080d5022a937ffb9518b22e230c8b", func := "squelch/squelchlaw04.CoderNexts", spec := "coderNexts", unfollowed := true, recurses := true, apart := false }
def CoderNextsSaid : Prop := coderNextsRow.holds Try.pinned (OpenSpec.ofChange coderNextsSpec)

/-- ITS FALSE NEIGHBOUR: 'it returns false'. Refute it at one input. -/
def coderNextsWrong : ChangeSpec := { name := "coderNexts", fn := fun _ => fun
  | [d1, d2, d3] => { results := [.lit (.bool false)], args := [d1, d2, d3] }
  | _ => none }
def CoderNextsWrongFalsely : Prop := coderNextsRow.holds Try.pinned (OpenSpec.ofChange coderNextsWrong)

/-- 'squelchlaw04.CoderAll': WHATEVER THE INPUT: true; the input reads as it did. -/
def coderAllSpec : ChangeSpec := { name := "coderAll", fn := fun _ => fun
  | [d1, d2, d3] => { results := [.lit (.bool true)], args := [d1, d2, d3] }
  | _ => none }
def coderAllRow : OpenClaim := { program := "ytgelgbfnioagbaa", sum := "aaf8618a1c1361fcab539a6568e1643c51b080d5022a937ffb9518b22e230c8b", func := "squelch/squelchlaw04.CoderAll", spec := "coderAll", unfollowed := true, recurses := true, apart := false }
def CoderAllSaid : Prop := coderAllRow.holds Try.pinned (OpenSpec.ofChange coderAllSpec)

/-- ITS FALSE NEIGHBOUR: 'it returns false'. Refute it at one input. -/
def coderAllWrong : ChangeSpec := { name := "coderAll", fn := fun _ => fun
  | [d1, d2, d3] => { results := [.lit (.bool false)], args := [d1, d2, d3] }
  | _ => none }
def CoderAllWrongFalsely : Prop := coderAllRow.holds Try.pinned (OpenSpec.ofChange coderAllWrong)

/-- 'squelchlaw04.CoderBack': WHATEVER THE INPUT: true; the input reads as it did. -/
def coderBackSpec : ChangeSpec := { name := "coderBack", fn := fun _ => fun
  | [d1, d2, d3] => { results := [.lit (.bool true)], args := [d1, d2, d3] }
  | _ => none }
def coderBackRow : OpenClaim := { program := "ytgelgbfnioagbaa", sum := "aaf8618a1c1361fcab539a6568e1643c51b080d5022a937ffb9518b22e230c8b", func := "squelch/squelchlaw04.CoderBack", spec := "coderBack", unfollowed := true, recurses := true, apart := false }
def CoderBackSaid : Prop := coderBackRow.holds Try.pinned (OpenSpec.ofChange coderBackSpec)

/-- ITS FALSE NEIGHBOUR: 'it returns false'. Refute it at one input. -/
def coderBackWrong : ChangeSpec := { name := "coderBack", fn := fun _ => fun
  | [d1, d2, d3] => { results := [.lit (.bool false)], args := [d1, d2, d3] }
  | _ => none }
def CoderBackWrongFalsely : Prop := coderBackRow.holds Try.pinned (OpenSpec.ofChange coderBackWrong)

/-- 'squelchlaw04.CoderTotal': WHATEVER THE INPUT: true; the input reads as it did. -/
def coderTotalSpec : ChangeSpec := { name := "coderTotal", fn := fun _ => fun
  | [d1, d2, d3] => { results := [.lit (.bool true)], args := [d1, d2, d3] }
  | _ => none }
def coderTotalRow : OpenClaim := { program := "ytgelgbfnioagbaa", sum := "aaf8618a1c1361fcab539a6568e1643c51b080d5022a937ffb9518b22e230c8b", func := "squelch/squelchlaw04.CoderTotal", spec := "coderTotal", unfollowed := true, recurses := true, apart := false }
def CoderTotalSaid : Prop := coderTotalRow.holds Try.pinned (OpenSpec.ofChange coderTotalSpec)

/-- ITS FALSE NEIGHBOUR: 'it returns false'. Refute it at one input. -/
def coderTotalWrong : ChangeSpec := { name := "coderTotal", fn := fun _ => fun
  | [d1, d2, d3] => { results := [.lit (.bool false)], args := [d1, d2, d3] }
  | _ => none }
def CoderTotalWrongFalsely : Prop := coderTotalRow.holds Try.pinned (OpenSpec.ofChange coderTotalWrong)

/-- 'squelchlaw04.CoderLong': WHATEVER THE INPUT: true; the input reads as it did. -/
def coderLongSpec : ChangeSpec := { name := "coderLong", fn := fun _ => fun
  | [d1, d2] => { results := [.lit (.bool true)], args := [d1, d2] }
  | _ => none }
def coderLongRow : OpenClaim := { program := "ytgelgbfnioagbaa", sum := "aaf8618a1c1361fcab539a6568e1643c51b080d5022a937ffb9518b22e230c8b", func := "squelch/squelchlaw04.CoderLong", spec := "coderLong", unfollowed := true, recurses := true, apart := false }
def CoderLongSaid : Prop := coderLongRow.holds Try.pinned (OpenSpec.ofChange coderLongSpec)

/-- ITS FALSE NEIGHBOUR: 'it returns false'. Refute it at one input. -/
def coderLongWrong : ChangeSpec := { name := "coderLong", fn := fun _ => fun
  | [d1, d2] => { results := [.lit (.bool false)], args := [d1, d2] }
  | _ => none }
def CoderLongWrongFalsely : Prop := coderLongRow.holds Try.pinned (OpenSpec.ofChange coderLongWrong)

/-- 'squelchlaw04.CoderEven': WHATEVER THE INPUT: true; the input reads as it did. -/
def coderEvenSpec : ChangeSpec := { name := "coderEven", fn := fun _ => fun
  | [d] => { results := [.lit (.bool true)], args := [d] }
  | _ => none }
def coderEvenRow : OpenClaim := { program := "ytgelgbfnioagbaa", sum := "aaf8618a1c1361fcab539a6568e1643c51b080d5022a937ffb9518b22e230c8b", func := "squelch/squelchlaw04.CoderEven", spec := "coderEven", unfollowed := true, recurses := true, apart := false }
def CoderEvenSaid : Prop := coderEvenRow.holds Try.pinned (OpenSpec.ofChange coderEvenSpec)

/-- ITS FALSE NEIGHBOUR: 'it returns false'. Refute it at one input. -/
def coderEvenWrong : ChangeSpec := { name := "coderEven", fn := fun _ => fun
  | [d] => { results := [.lit (.bool false)], args := [d] }
  | _ => none }
def CoderEvenWrongFalsely : Prop := coderEvenRow.holds Try.pinned (OpenSpec.ofChange coderEvenWrong)

/- THE SECOND FORM. 'bulk': how many values and letters a reading holds, each counted each time it is reached (what is shared counts as often as it is met; a slice's spare places count too). A statement '..UptoSaid' is the law's where the arguments, and the package variables that the reading takes, are together of bulk at most 1048576: NARROWER than '..Said'. Prove '..Said' where nothing that the law and all that it calls make is longer than what came in: it says more and counts as full. Else prove '..UptoSaid'. A law counts once. -/
mutual
def uptoBulk {H : Type} : DataW H → Nat
  | .lit (.string bytes) => bytes.length + 1
  | .lit _ => 1
  | .nil => 1
  | .ptr d => uptoBulk d + 1
  | .slice elems spare => uptoBulkAll elems + uptoBulkAll spare + 1
  | .agg parts => uptoBulkAll parts + 1
  | .iface _ d => uptoBulk d + 1
  | .map entries => uptoBulkEntries entries + 1
  | .held _ => 1
def uptoBulkAll {H : Type} : List (DataW H) → Nat
  | [] => 0
  | d :: r => uptoBulk d + uptoBulkAll r
def uptoBulkEntries {H : Type} : List (Lit × DataW H) → Nat
  | [] => 0
  | x :: r => uptoBulkEntry x + uptoBulkEntries r
def uptoBulkEntry {H : Type} : Lit × DataW H → Nat
  | (.string bytes, d) => bytes.length + uptoBulk d + 1
  | (_, d) => uptoBulk d + 1
 end
def uptoSmall : (H : Type) → List (DataW H) → Bool := fun _ ds => decide (uptoBulkAll ds ≤ 1048576)
def OpenSpec.upto (s : _root_.Go.ChangeSpec) : _root_.Go.OpenSpec := { _root_.Go.OpenSpec.ofChange s with cond := some uptoSmall }

/-- 'squelchlaw04.CoderPuts', WHERE WHAT IT READS IS OF BULK AT MOST 1048576: true; the input reads as it did. -/
def coderPutsUptoRow : OpenClaim := { program := "ytgelgbfnioagbaa", sum := "aaf8618a1c1361fcab539a6568e1643c51b080d5022a937ffb9518b22e230c8b", func := "squelch/squelchlaw04.CoderPuts", spec := "coderPuts", unfollowed := true, recurses := true, apart := false, narrowed := true }
def CoderPutsUptoSaid : Prop := coderPutsUptoRow.holds Try.pinned (OpenSpec.upto coderPutsSpec)

/-- 'squelchlaw04.CoderNexts', WHERE WHAT IT READS IS OF BULK AT MOST 1048576: true; the input reads as it did. -/
def coderNextsUptoRow : OpenClaim := { program := "ytgelgbfnioagbaa", sum := "aaf8618a1c1361fcab539a6568e1643c51b080d5022a937ffb9518b22e230c8b", func := "squelch/squelchlaw04.CoderNexts", spec := "coderNexts", unfollowed := true, recurses := true, apart := false, narrowed := true }
def CoderNextsUptoSaid : Prop := coderNextsUptoRow.holds Try.pinned (OpenSpec.upto coderNextsSpec)

/-- 'squelchlaw04.CoderAll', WHERE WHAT IT READS IS OF BULK AT MOST 1048576: true; the input reads as it did. -/
def coderAllUptoRow : OpenClaim := { program := "ytgelgbfnioagbaa", sum := "aaf8618a1c1361fcab539a6568e1643c51b080d5022a937ffb9518b22e230c8b", func := "squelch/squelchlaw04.CoderAll", spec := "coderAll", unfollowed := true, recurses := true, apart := false, narrowed := true }
def CoderAllUptoSaid : Prop := coderAllUptoRow.holds Try.pinned (OpenSpec.upto coderAllSpec)

/-- 'squelchlaw04.CoderBack', WHERE WHAT IT READS IS OF BULK AT MOST 1048576: true; the input reads as it did. -/
def coderBackUptoRow : OpenClaim := { program := "ytgelgbfnioagbaa", sum := "aaf8618a1c1361fcab539a6568e1643c51b080d5022a937ffb9518b22e230c8b", func := "squelch/squelchlaw04.CoderBack", spec := "coderBack", unfollowed := true, recurses := true, apart := false, narrowed := true }
def CoderBackUptoSaid : Prop := coderBackUptoRow.holds Try.pinned (OpenSpec.upto coderBackSpec)

/-- 'squelchlaw04.CoderTotal', WHERE WHAT IT READS IS OF BULK AT MOST 1048576: true; the input reads as it did. -/
def coderTotalUptoRow : OpenClaim := { program := "ytgelgbfnioagbaa", sum := "aaf8618a1c1361fcab539a6568e1643c51b080d5022a937ffb9518b22e230c8b", func := "squelch/squelchlaw04.CoderTotal", spec := "coderTotal", unfollowed := true, recurses := true, apart := false, narrowed := true }
def CoderTotalUptoSaid : Prop := coderTotalUptoRow.holds Try.pinned (OpenSpec.upto coderTotalSpec)

/-- 'squelchlaw04.CoderLong', WHERE WHAT IT READS IS OF BULK AT MOST 1048576: true; the input reads as it did. -/
def coderLongUptoRow : OpenClaim := { program := "ytgelgbfnioagbaa", sum := "aaf8618a1c1361fcab539a6568e1643c51b080d5022a937ffb9518b22e230c8b", func := "squelch/squelchlaw04.CoderLong", spec := "coderLong", unfollowed := true, recurses := true, apart := false, narrowed := true }
def CoderLongUptoSaid : Prop := coderLongUptoRow.holds Try.pinned (OpenSpec.upto coderLongSpec)

/-- 'squelchlaw04.CoderEven', WHERE WHAT IT READS IS OF BULK AT MOST 1048576: true; the input reads as it did. -/
def coderEvenUptoRow : OpenClaim := { program := "ytgelgbfnioagbaa", sum := "aaf8618a1c1361fcab539a6568e1643c51b080d5022a937ffb9518b22e230c8b", func := "squelch/squelchlaw04.CoderEven", spec := "coderEven", unfollowed := true, recurses := true, apart := false, narrowed := true }
def CoderEvenUptoSaid : Prop := coderEvenUptoRow.holds Try.pinned (OpenSpec.upto coderEvenSpec)

end Rows
end Go.Proofs.Ytgelgbfnioagbaa
