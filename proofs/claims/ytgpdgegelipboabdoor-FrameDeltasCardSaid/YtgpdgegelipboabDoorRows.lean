/-
  NARROWER THAN 'FOR EVERY INPUT', by the rows' own cells (each row's printed sentence says how): FrameDeltas: laid.
  DERIVED. THE GIVEN ROWS OF THIS SEAT. 1 by the template 'for every input the law returns true; each argument reads behind the call as it read before'; 0 by the template 'total and deterministic' (their statements: YtgpdgegelipboabDoorTotals.lean).
  GIVEN WITH THE SEED: the statements are not yours to turn. If you find one false, say at which input.
  Laid BY PROGRAM, IN A SANDBOX (cutbox-rows.mjs): the forced cells as the released guide's own fill.sh prints them over the translation 503d6a97d8d9b243… (all of the seat's roots in one cut). By AI agents, Wed Nov 11 2026. No macro, syntax, notation, axiom, sorry.
-/
import Derived.Test.YtgpdgegelipboabDoorChecked
import GoSem.Claim
import GoSem.ClaimJoined
import GoSem.ClaimMapViews
import Derived.JoinedTies
import Derived.KernelRfl
namespace Go.Proofs.YtgpdgegelipboabDoor
/- THE CELL 'sum', in the pinned program and in every row, IS THE sha256 OF THE DUMP (.gsa) THAT YtgpdgegelipboabDoorProg.lean LOADS. Nothing in Lean hashes anything: it is a label: what it is worth is what the hold of that sum in a sandbox is worth. -/
noncomputable def Tryd.pinned : Pinned := { name := "ytgpdgegelipboabdoor", sum := "503d6a97d8d9b24325bc4d5c9ee3e6523e529eb8d3bc7c702c95d11858b7cb27", checked := Tryd.checked }
namespace Rows
def none {H : Type} : Left H := { results := [], args := [] }

/- WHAT THE LISTED PACKAGE-LEVEL VARIABLES READ AS WHEN THE CALL BEGINS. Each datum BY PROGRAM (the guide's laid-datum.mjs) off the statement by which the dump's own 'gosem.cut.vars' lays the variable. In a bare row this is a premise. The card (YtgpdgegelipboabDoorCards.lean) ties it to the program's text. -/
def laid_squelch_bands_edges {H : Type} : DataW H := .agg [.lit (.int .i64 0), .lit (.int .i64 1), .lit (.int .i64 2), .lit (.int .i64 4), .lit (.int .i64 6), .lit (.int .i64 10), .lit (.int .i64 16)]

/-- 'squelchlaw10.FrameDeltas': WHATEVER THE INPUT: true; the input reads as it did. -/
def frameDeltasSpec : ChangeSpec := { name := "frameDeltas", fn := fun _ => fun
  | [d1, d2, d3] => { results := [.lit (.bool true)], args := [d1, d2, d3] }
  | _ => none }
def frameDeltasRow : OpenClaim := { program := "ytgpdgegelipboabdoor", sum := "503d6a97d8d9b24325bc4d5c9ee3e6523e529eb8d3bc7c702c95d11858b7cb27", func := "squelch/squelchlaw10.FrameDeltas", spec := "frameDeltas", unfollowed := true, recurses := true, named := ["squelch/bands.edges"], apart := false, laid := [("squelch/bands.edges", laid_squelch_bands_edges)] }
def FrameDeltasSaid : Prop := frameDeltasRow.holds Tryd.pinned (OpenSpec.ofChange frameDeltasSpec)

/-- ITS FALSE NEIGHBOUR: 'it returns false'. Refute it at one input. -/
def frameDeltasWrong : ChangeSpec := { name := "frameDeltas", fn := fun _ => fun
  | [d1, d2, d3] => { results := [.lit (.bool false)], args := [d1, d2, d3] }
  | _ => none }
def FrameDeltasWrongFalsely : Prop := frameDeltasRow.holds Tryd.pinned (OpenSpec.ofChange frameDeltasWrong)

/- THE SECOND FORM. 'bulk': how many values and letters a reading holds, each counted each time it is reached (what is shared counts as often as it is met; a slice's spare places count too). A statement '..UptoSaid' is the law's where the arguments, and the package variables that the reading takes, are together of bulk at most 1048576: NARROWER than '..Said'. Prove '..Said' where nothing that the law and all that it calls make is longer than what came in: it says more and counts as full. Else prove '..UptoSaid'. A law counts once. -/
mutual
def uptoBulk {H : Type} : DataW H → Nat
  | .lit (.string bytes) => bytes.length + 1
  | .lit _ => 1
  | .nil => 1
  | .ptr d => uptoBulk d + 1
  | .slice elems spare => uptoBulkAll elems + uptoBulkAll spare + 1
  | .agg parts => uptoBulkAll parts + 1
  | .iface _ d => uptoBulk d + 1
  | .map entries => uptoBulkEntries entries + 1
  | .held _ => 1
def uptoBulkAll {H : Type} : List (DataW H) → Nat
  | [] => 0
  | d :: r => uptoBulk d + uptoBulkAll r
def uptoBulkEntries {H : Type} : List (Lit × DataW H) → Nat
  | [] => 0
  | x :: r => uptoBulkEntry x + uptoBulkEntries r
def uptoBulkEntry {H : Type} : Lit × DataW H → Nat
  | (.string bytes, d) => bytes.length + uptoBulk d + 1
  | (_, d) => uptoBulk d + 1
 end
def uptoSmall : (H : Type) → List (DataW H) → Bool := fun _ ds => decide (uptoBulkAll ds ≤ 1048576)
def OpenSpec.upto (s : _root_.Go.ChangeSpec) : _root_.Go.OpenSpec := { _root_.Go.OpenSpec.ofChange s with cond := some uptoSmall }

/-- 'squelchlaw10.FrameDeltas', WHERE WHAT IT READS IS OF BULK AT MOST 1048576: true; the input reads as it did. -/
def frameDeltasUptoRow : OpenClaim := { program := "ytgpdgegelipboabdoor", sum := "503d6a97d8d9b24325bc4d5c9ee3e6523e529eb8d3bc7c702c95d11858b7cb27", func := "squelch/squelchlaw10.FrameDeltas", spec := "frameDeltas", unfollowed := true, recurses := true, named := ["squelch/bands.edges"], apart := false, laid := [("squelch/bands.edges", laid_squelch_bands_edges)], narrowed := true }
def FrameDeltasUptoSaid : Prop := frameDeltasUptoRow.holds Tryd.pinned (OpenSpec.upto frameDeltasSpec)

end Rows
end Go.Proofs.YtgpdgegelipboabDoor
