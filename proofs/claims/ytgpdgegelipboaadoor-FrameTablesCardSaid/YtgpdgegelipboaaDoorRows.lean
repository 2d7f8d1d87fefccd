/-
  NARROWER THAN 'FOR EVERY INPUT', by the rows' own cells (each row's printed sentence says how): FrameBack: laid · FrameOne: laid · FrameApart: laid · FrameTables: laid.
  DERIVED. THE GIVEN ROWS OF THIS SEAT. 4 by the template 'for every input the law returns true; each argument reads behind the call as it read before'; 0 by the template 'total and deterministic' (their statements: YtgpdgegelipboaaDoorTotals.lean).
  GIVEN WITH THE SEED: the statements are not yours to turn. If you find one false, say at which input.
  Laid BY PROGRAM, IN A SANDBOX (cutbox-rows.mjs): the forced cells as the released guide's own fill.sh prints them over the translation 357012b901d7995c… (all of the seat's roots in one cut). By AI agents, Wed Nov 11 2026. No macro, syntax, notation, axiom, sorry.
-/
import Derived.Test.YtgpdgegelipboaaDoorChecked
import GoSem.Claim
import GoSem.ClaimJoined
import GoSem.ClaimMapViews
import Derived.JoinedTies
import Derived.KernelRfl
namespace Go.Proofs.YtgpdgegelipboaaDoor
/- THE CELL 'sum', in the pinned program and in every row, IS THE sha256 OF THE DUMP (.gsa) THAT YtgpdgegelipboaaDoorProg.lean LOADS. Nothing in Lean hashes anything: it is a label: what it is worth is what the hold of that sum in a sandbox is worth. -/
noncomputable def Tryd.pinned : Pinned := { name := "ytgpdgegelipboaadoor", sum := "357012b901d7995cb6c348cf8c93570f98169bb74804ee9fa7e2fc0b0d965ac9", checked := Tryd.checked }
namespace Rows
def none {H : Type} : Left H := { results := [], args := [] }

/- WHAT THE LISTED PACKAGE-LEVEL VARIABLES READ AS WHEN THE CALL BEGINS. Each datum BY PROGRAM (the guide's laid-datum.mjs) off the statement by which the dump's own 'gosem.cut.vars' lays the variable. In a bare row this is a premise. The card (YtgpdgegelipboaaDoorCards.lean) ties it to the program's text. -/
def laid_squelch_bands_edges {H : Type} : DataW H := .agg [.lit (.int .i64 0), .lit (.int .i64 1), .lit (.int .i64 2), .lit (.int .i64 4), .lit (.int .i64 6), .lit (.int .i64 10), .lit (.int .i64 16)]

/-- 'squelchlaw10.FrameBack': WHATEVER THE INPUT: true; the input reads as it did. -/
def frameBackSpec : ChangeSpec := { name := "frameBack", fn := fun _ => fun
  | [d1, d2, d3] => { results := [.lit (.bool true)], args := [d1, d2, d3] }
  | _ => none }
def frameBackRow : OpenClaim := { program := "ytgpdgegelipboaadoor", sum := "357012b901d7995cb6c348cf8c93570f98169bb74804ee9fa7e2fc0b0d965ac9", func := "squelch/squelchlaw10.FrameBack", spec := "frameBack", unfollowed := true, recurses := true, named := ["squelch/bands.edges"], apart := false, laid := [("squelch/bands.edges", laid_squelch_bands_edges)] }
def FrameBackSaid : Prop := frameBackRow.holds Tryd.pinned (OpenSpec.ofChange frameBackSpec)

/-- ITS FALSE NEIGHBOUR: 'it returns false'. Refute it at one input. -/
def frameBackWrong : ChangeSpec := { name := "frameBack", fn := fun _ => fun
  | [d1, d2, d3] => { results := [.lit (.bool false)], args := [d1, d2, d3] }
  | _ => none }
def FrameBackWrongFalsely : Prop := frameBackRow.holds Tryd.pinned (OpenSpec.ofChange frameBackWrong)

/-- 'squelchlaw10.FrameOne': WHATEVER THE INPUT: true; the input reads as it did. -/
def frameOneSpec : ChangeSpec := { name := "frameOne", fn := fun _ => fun
  | [d1, d2] => { results := [.lit (.bool true)], args := [d1, d2] }
  | _ => none }
def frameOneRow : OpenClaim := { program := "ytgpdgegelipboaadoor", sum := "357012b901d7995cb6c348cf8c93570f98169bb74804ee9fa7e2fc0b0d965ac9", func := "squelch/squelchlaw10.FrameOne", spec := "frameOne", unfollowed := true, recurses := true, named := ["squelch/bands.edges"], apart := false, laid := [("squelch/bands.edges", laid_squelch_bands_edges)] }
def FrameOneSaid : Prop := frameOneRow.holds Tryd.pinned (OpenSpec.ofChange frameOneSpec)

/-- ITS FALSE NEIGHBOUR: 'it returns false'. Refute it at one input. -/
def frameOneWrong : ChangeSpec := { name := "frameOne", fn := fun _ => fun
  | [d1, d2] => { results := [.lit (.bool false)], args := [d1, d2] }
  | _ => none }
def FrameOneWrongFalsely : Prop := frameOneRow.holds Tryd.pinned (OpenSpec.ofChange frameOneWrong)

/-- 'squelchlaw10.FrameApart': WHATEVER THE INPUT: true; the input reads as it did. -/
def frameApartSpec : ChangeSpec := { name := "frameApart", fn := fun _ => fun
  | [d1, d2, d3] => { results := [.lit (.bool true)], args := [d1, d2, d3] }
  | _ => none }
def frameApartRow : OpenClaim := { program := "ytgpdgegelipboaadoor", sum := "357012b901d7995cb6c348cf8c93570f98169bb74804ee9fa7e2fc0b0d965ac9", func := "squelch/squelchlaw10.FrameApart", spec := "frameApart", unfollowed := true, recurses := true, named := ["squelch/bands.edges"], apart := false, laid := [("squelch/bands.edges", laid_squelch_bands_edges)] }
def FrameApartSaid : Prop := frameApartRow.holds Tryd.pinned (OpenSpec.ofChange frameApartSpec)

/-- ITS FALSE NEIGHBOUR: 'it returns false'. Refute it at one input. -/
def frameApartWrong : ChangeSpec := { name := "frameApart", fn := fun _ => fun
  | [d1, d2, d3] => { results := [.lit (.bool false)], args := [d1, d2, d3] }
  | _ => none }
def FrameApartWrongFalsely : Prop := frameApartRow.holds Tryd.pinned (OpenSpec.ofChange frameApartWrong)

/-- 'squelchlaw10.FrameTables': WHATEVER THE INPUT: true; the input reads as it did. -/
def frameTablesSpec : ChangeSpec := { name := "frameTables", fn := fun _ => fun
  | [d] => { results := [.lit (.bool true)], args := [d] }
  | _ => none }
def frameTablesRow : OpenClaim := { program := "ytgpdgegelipboaadoor", sum := "357012b901d7995cb6c348cf8c93570f98169bb74804ee9fa7e2fc0b0d965ac9", func := "squelch/squelchlaw10.FrameTables", spec := "frameTables", unfollowed := true, recurses := true, named := ["squelch/bands.edges"], apart := false, laid := [("squelch/bands.edges", laid_squelch_bands_edges)] }
def FrameTablesSaid : Prop := frameTablesRow.holds Tryd.pinned (OpenSpec.ofChange frameTablesSpec)

/-- ITS FALSE NEIGHBOUR: 'it returns false'. Refute it at one input. -/
def frameTablesWrong : ChangeSpec := { name := "frameTables", fn := fun _ => fun
  | [d] => { results := [.lit (.bool false)], args := [d] }
  | _ => none }
def FrameTablesWrongFalsely : Prop := frameTablesRow.holds Tryd.pinned (OpenSpec.ofChange frameTablesWrong)

/- THE SECOND FORM. 'bulk': how many values and letters a reading holds, each counted each time it is reached (what is shared counts as often as it is met; a slice's spare places count too). A statement '..UptoSaid' is the law's where the arguments, and the package variables that the reading takes, are together of bulk at most 1048576: NARROWER than '..Said'. Prove '..Said' where nothing that the law and all that it calls make is longer than what came in: it says more and counts as full. Else prove '..UptoSaid'. A law counts once. -/
mutual
def uptoBulk {H : Type} : DataW H → Nat
  | .lit (.string bytes) => bytes.length + 1
  | .lit _ => 1
  | .nil => 1
  | .ptr d => uptoBulk d + 1
  | .slice elems spare => uptoBulkAll elems + uptoBulkAll spare + 1
  | .agg parts => uptoBulkAll parts + 1
  | .iface _ d => uptoBulk d + 1
  | .map entries => uptoBulkEntries entries + 1
  | .held _ => 1
def uptoBulkAll {H : Type} : List (DataW H) → Nat
  | [] => 0
  | d :: r => uptoBulk d + uptoBulkAll r
def uptoBulkEntries {H : Type} : List (Lit × DataW H) → Nat
  | [] => 0
  | x :: r => uptoBulkEntry x + uptoBulkEntries r
def uptoBulkEntry {H : Type} : Lit × DataW H → Nat
  | (.string bytes, d) => bytes.length + uptoBulk d + 1
  | (_, d) => uptoBulk d + 1
 end
def uptoSmall : (H : Type) → List (DataW H) → Bool := fun _ ds => decide (uptoBulkAll ds ≤ 1048576)
def OpenSpec.upto (s : _root_.Go.ChangeSpec) : _root_.Go.OpenSpec := { _root_.Go.OpenSpec.ofChange s with cond := some uptoSmall }

/-- 'squelchlaw10.FrameBack', WHERE WHAT IT READS IS OF BULK AT MOST 1048576: true; the input reads as it did. -/
def frameBackUptoRow : OpenClaim := { program := "ytgpdgegelipboaadoor", sum := "357012b901d7995cb6c348cf8c93570f98169bb74804ee9fa7e2fc0b0d965ac9", func := "squelch/squelchlaw10.FrameBack", spec := "frameBack", unfollowed := true, recurses := true, named := ["squelch/bands.edges"], apart := false, laid := [("squelch/bands.edges", laid_squelch_bands_edges)], narrowed := true }
def FrameBackUptoSaid : Prop := frameBackUptoRow.holds Tryd.pinned (OpenSpec.upto frameBackSpec)

/-- 'squelchlaw10.FrameOne', WHERE WHAT IT READS IS OF BULK AT MOST 1048576: true; the input reads as it did. -/
def frameOneUptoRow : OpenClaim := { program := "ytgpdgegelipboaadoor", sum := "357012b901d7995cb6c348cf8c93570f98169bb74804ee9fa7e2fc0b0d965ac9", func := "squelch/squelchlaw10.FrameOne", spec := "frameOne", unfollowed := true, recurses := true, named := ["squelch/bands.edges"], apart := false, laid := [("squelch/bands.edges", laid_squelch_bands_edges)], narrowed := true }
def FrameOneUptoSaid : Prop := frameOneUptoRow.holds Tryd.pinned (OpenSpec.upto frameOneSpec)

/-- 'squelchlaw10.FrameApart', WHERE WHAT IT READS IS OF BULK AT MOST 1048576: true; the input reads as it did. -/
def frameApartUptoRow : OpenClaim := { program := "ytgpdgegelipboaadoor", sum := "357012b901d7995cb6c348cf8c93570f98169bb74804ee9fa7e2fc0b0d965ac9", func := "squelch/squelchlaw10.FrameApart", spec := "frameApart", unfollowed := true, recurses := true, named := ["squelch/bands.edges"], apart := false, laid := [("squelch/bands.edges", laid_squelch_bands_edges)], narrowed := true }
def FrameApartUptoSaid : Prop := frameApartUptoRow.holds Tryd.pinned (OpenSpec.upto frameApartSpec)

/-- 'squelchlaw10.FrameTables', WHERE WHAT IT READS IS OF BULK AT MOST 1048576: true; the input reads as it did. -/
def frameTablesUptoRow : OpenClaim := { program := "ytgpdgegelipboaadoor", sum := "357012b901d7995cb6c348cf8c93570f98169bb74804ee9fa7e2fc0b0d965ac9", func := "squelch/squelchlaw10.FrameTables", spec := "frameTables", unfollowed := true, recurses := true, named := ["squelch/bands.edges"], apart := false, laid := [("squelch/bands.edges", laid_squelch_bands_edges)], narrowed := true }
def FrameTablesUptoSaid : Prop := frameTablesUptoRow.holds Tryd.pinned (OpenSpec.upto frameTablesSpec)

end Rows
end Go.Proofs.YtgpdgegelipboaaDoor
