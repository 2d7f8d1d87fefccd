/-
  NARROWER THAN 'FOR EVERY INPUT', by the rows' own cells (each row's printed sentence says how): BandsShares: laid · BandsFits: laid · BandsLevels: laid · BandsMasks: laid · BandsSigns: laid.
  DERIVED. THE GIVEN ROWS OF THIS SEAT. 5 by the template 'for every input the law returns true; each argument reads behind the call as it read before'; 0 by the template 'total and deterministic' (their statements: YtplfcncibmgllaaDoorTotals.lean).
  GIVEN WITH THE SEED: the statements are not yours to turn. If you find one false, say at which input.
  Laid BY PROGRAM, IN A SANDBOX (cutbox-rows.mjs): the forced cells as the released guide's own fill.sh prints them over the translation 979bfcde30b1b96a… (all of the seat's roots in one cut). By AI agents, Wed Nov 11 2026. No macro, syntax, notation, axiom, sorry.
-/
import Derived.Test.YtplfcncibmgllaaDoorChecked
import GoSem.Claim
import GoSem.ClaimJoined
import GoSem.ClaimMapViews
import Derived.JoinedTies
import Derived.KernelRfl
namespace Go.Proofs.YtplfcncibmgllaaDoor
/- THE CELL 'sum', in the pinned program and in every row, IS THE sha256 OF THE DUMP (.gsa) THAT YtplfcncibmgllaaDoorProg.lean LOADS. Nothing in Lean hashes anything: it is a label: what it is worth is what the hold of that sum in a sandbox is worth. -/
noncomputable def Tryd.pinned : Pinned := { name := "ytplfcncibmgllaadoor", sum := "979bfcde30b1b96a780acb6b1da97ce7a826de352662e5fc15a90f260600281a", checked := Tryd.checked }
namespace Rows
def none {H : Type} : Left H := { results := [], args := [] }

/- WHAT THE LISTED PACKAGE-LEVEL VARIABLES READ AS WHEN THE CALL BEGINS. Each datum BY PROGRAM (the guide's laid-datum.mjs) off the statement by which the dump's own 'gosem.cut.vars' lays the variable. In a bare row this is a premise. The card (YtplfcncibmgllaaDoorCards.lean) ties it to the program's text. -/
def laid_squelch_bands_edges {H : Type} : DataW H := .agg [.lit (.int .i64 0), .lit (.int .i64 1), .lit (.int .i64 2), .lit (.int .i64 4), .lit (.int .i64 6), .lit (.int .i64 10), .lit (.int .i64 16)]

/-- 'squelchlaw08.BandsShares': WHATEVER THE INPUT: true; the input reads as it did. -/
def bandsSharesSpec : ChangeSpec := { name := "bandsShares", fn := fun _ => fun
  | [d1, d2, d3] => { results := [.lit (.bool true)], args := [d1, d2, d3] }
  | _ => none }
def bandsSharesRow : OpenClaim := { program := "ytplfcncibmgllaadoor", sum := "979bfcde30b1b96a780acb6b1da97ce7a826de352662e5fc15a90f260600281a", func := "squelch/squelchlaw08.BandsShares", spec := "bandsShares", inPlace := ["math/bits.Add64"], unfollowed := true, recurses := true, named := ["squelch/bands.edges"], apart := false, laid := [("squelch/bands.edges", laid_squelch_bands_edges)] }
def BandsSharesSaid : Prop := bandsSharesRow.holds Tryd.pinned (OpenSpec.ofChange bandsSharesSpec)

/-- ITS FALSE NEIGHBOUR: 'it returns false'. Refute it at one input. -/
def bandsSharesWrong : ChangeSpec := { name := "bandsShares", fn := fun _ => fun
  | [d1, d2, d3] => { results := [.lit (.bool false)], args := [d1, d2, d3] }
  | _ => none }
def BandsSharesWrongFalsely : Prop := bandsSharesRow.holds Tryd.pinned (OpenSpec.ofChange bandsSharesWrong)

/-- 'squelchlaw08.BandsFits': WHATEVER THE INPUT: true; the input reads as it did. -/
def bandsFitsSpec : ChangeSpec := { name := "bandsFits", fn := fun _ => fun
  | [d1, d2, d3] => { results := [.lit (.bool true)], args := [d1, d2, d3] }
  | _ => none }
def bandsFitsRow : OpenClaim := { program := "ytplfcncibmgllaadoor", sum := "979bfcde30b1b96a780acb6b1da97ce7a826de352662e5fc15a90f260600281a", func := "squelch/squelchlaw08.BandsFits", spec := "bandsFits", inPlace := ["math/bits.Add64"], unfollowed := true, recurses := true, named := ["squelch/bands.edges"], apart := false, laid := [("squelch/bands.edges", laid_squelch_bands_edges)] }
def BandsFitsSaid : Prop := bandsFitsRow.holds Tryd.pinned (OpenSpec.ofChange bandsFitsSpec)

/-- ITS FALSE NEIGHBOUR: 'it returns false'. Refute it at one input. -/
def bandsFitsWrong : ChangeSpec := { name := "bandsFits", fn := fun _ => fun
  | [d1, d2, d3] => { results := [.lit (.bool false)], args := [d1, d2, d3] }
  | _ => none }
def BandsFitsWrongFalsely : Prop := bandsFitsRow.holds Tryd.pinned (OpenSpec.ofChange bandsFitsWrong)

/-- 'squelchlaw08.BandsLevels': WHATEVER THE INPUT: true; the input reads as it did. -/
def bandsLevelsSpec : ChangeSpec := { name := "bandsLevels", fn := fun _ => fun
  | [d1, d2, d3] => { results := [.lit (.bool true)], args := [d1, d2, d3] }
  | _ => none }
def bandsLevelsRow : OpenClaim := { program := "ytplfcncibmgllaadoor", sum := "979bfcde30b1b96a780acb6b1da97ce7a826de352662e5fc15a90f260600281a", func := "squelch/squelchlaw08.BandsLevels", spec := "bandsLevels", inPlace := ["math/bits.Add64"], unfollowed := true, recurses := true, named := ["squelch/bands.edges"], apart := false, laid := [("squelch/bands.edges", laid_squelch_bands_edges)] }
def BandsLevelsSaid : Prop := bandsLevelsRow.holds Tryd.pinned (OpenSpec.ofChange bandsLevelsSpec)

/-- ITS FALSE NEIGHBOUR: 'it returns false'. Refute it at one input. -/
def bandsLevelsWrong : ChangeSpec := { name := "bandsLevels", fn := fun _ => fun
  | [d1, d2, d3] => { results := [.lit (.bool false)], args := [d1, d2, d3] }
  | _ => none }
def BandsLevelsWrongFalsely : Prop := bandsLevelsRow.holds Tryd.pinned (OpenSpec.ofChange bandsLevelsWrong)

/-- 'squelchlaw08.BandsMasks': WHATEVER THE INPUT: true; the input reads as it did. -/
def bandsMasksSpec : ChangeSpec := { name := "bandsMasks", fn := fun _ => fun
  | [d1, d2, d3] => { results := [.lit (.bool true)], args := [d1, d2, d3] }
  | _ => none }
def bandsMasksRow : OpenClaim := { program := "ytplfcncibmgllaadoor", sum := "979bfcde30b1b96a780acb6b1da97ce7a826de352662e5fc15a90f260600281a", func := "squelch/squelchlaw08.BandsMasks", spec := "bandsMasks", inPlace := ["math/bits.Add64"], unfollowed := true, recurses := true, named := ["squelch/bands.edges"], apart := false, laid := [("squelch/bands.edges", laid_squelch_bands_edges)] }
def BandsMasksSaid : Prop := bandsMasksRow.holds Tryd.pinned (OpenSpec.ofChange bandsMasksSpec)

/-- ITS FALSE NEIGHBOUR: 'it returns false'. Refute it at one input. -/
def bandsMasksWrong : ChangeSpec := { name := "bandsMasks", fn := fun _ => fun
  | [d1, d2, d3] => { results := [.lit (.bool false)], args := [d1, d2, d3] }
  | _ => none }
def BandsMasksWrongFalsely : Prop := bandsMasksRow.holds Tryd.pinned (OpenSpec.ofChange bandsMasksWrong)

/-- 'squelchlaw08.BandsSigns': WHATEVER THE INPUT: true; the input reads as it did. -/
def bandsSignsSpec : ChangeSpec := { name := "bandsSigns", fn := fun _ => fun
  | [d1, d2, d3] => { results := [.lit (.bool true)], args := [d1, d2, d3] }
  | _ => none }
def bandsSignsRow : OpenClaim := { program := "ytplfcncibmgllaadoor", sum := "979bfcde30b1b96a780acb6b1da97ce7a826de352662e5fc15a90f260600281a", func := "squelch/squelchlaw08.BandsSigns", spec := "bandsSigns", inPlace := ["math/bits.Add64"], unfollowed := true, recurses := true, named := ["squelch/bands.edges"], apart := false, laid := [("squelch/bands.edges", laid_squelch_bands_edges)] }
def BandsSignsSaid : Prop := bandsSignsRow.holds Tryd.pinned (OpenSpec.ofChange bandsSignsSpec)

/-- ITS FALSE NEIGHBOUR: 'it returns false'. Refute it at one input. -/
def bandsSignsWrong : ChangeSpec := { name := "bandsSigns", fn := fun _ => fun
  | [d1, d2, d3] => { results := [.lit (.bool false)], args := [d1, d2, d3] }
  | _ => none }
def BandsSignsWrongFalsely : Prop := bandsSignsRow.holds Tryd.pinned (OpenSpec.ofChange bandsSignsWrong)

/- THE SECOND FORM. 'bulk': how many values and letters a reading holds, each counted each time it is reached (what is shared counts as often as it is met; a slice's spare places count too). A statement '..UptoSaid' is the law's where the arguments, and the package variables that the reading takes, are together of bulk at most 1048576: NARROWER than '..Said'. Prove '..Said' where nothing that the law and all that it calls make is longer than what came in: it says more and counts as full. Else prove '..UptoSaid'. A law counts once. -/
mutual
def uptoBulk {H : Type} : DataW H → Nat
  | .lit (.string bytes) => bytes.length + 1
  | .lit _ => 1
  | .nil => 1
  | .ptr d => uptoBulk d + 1
  | .slice elems spare => uptoBulkAll elems + uptoBulkAll spare + 1
  | .agg parts => uptoBulkAll parts + 1
  | .iface _ d => uptoBulk d + 1
  | .map entries => uptoBulkEntries entries + 1
  | .held _ => 1
def uptoBulkAll {H : Type} : List (DataW H) → Nat
  | [] => 0
  | d :: r => uptoBulk d + uptoBulkAll r
def uptoBulkEntries {H : Type} : List (Lit × DataW H) → Nat
  | [] => 0
  | x :: r => uptoBulkEntry x + uptoBulkEntries r
def uptoBulkEntry {H : Type} : Lit × DataW H → Nat
  | (.string bytes, d) => bytes.length + uptoBulk d + 1
  | (_, d) => uptoBulk d + 1
 end
def uptoSmall : (H : Type) → List (DataW H) → Bool := fun _ ds => decide (uptoBulkAll ds ≤ 1048576)
def OpenSpec.upto (s : _root_.Go.ChangeSpec) : _root_.Go.OpenSpec := { _root_.Go.OpenSpec.ofChange s with cond := some uptoSmall }

/-- 'squelchlaw08.BandsShares', WHERE WHAT IT READS IS OF BULK AT MOST 1048576: true; the input reads as it did. -/
def bandsSharesUptoRow : OpenClaim := { program := "ytplfcncibmgllaadoor", sum := "979bfcde30b1b96a780acb6b1da97ce7a826de352662e5fc15a90f260600281a", func := "squelch/squelchlaw08.BandsShares", spec := "bandsShares", inPlace := ["math/bits.Add64"], unfollowed := true, recurses := true, named := ["squelch/bands.edges"], apart := false, laid := [("squelch/bands.edges", laid_squelch_bands_edges)], narrowed := true }
def BandsSharesUptoSaid : Prop := bandsSharesUptoRow.holds Tryd.pinned (OpenSpec.upto bandsSharesSpec)

/-- 'squelchlaw08.BandsFits', WHERE WHAT IT READS IS OF BULK AT MOST 1048576: true; the input reads as it did. -/
def bandsFitsUptoRow : OpenClaim := { program := "ytplfcncibmgllaadoor", sum := "979bfcde30b1b96a780acb6b1da97ce7a826de352662e5fc15a90f260600281a", func := "squelch/squelchlaw08.BandsFits", spec := "bandsFits", inPlace := ["math/bits.Add64"], unfollowed := true, recurses := true, named := ["squelch/bands.edges"], apart := false, laid := [("squelch/bands.edges", laid_squelch_bands_edges)], narrowed := true }
def BandsFitsUptoSaid : Prop := bandsFitsUptoRow.holds Tryd.pinned (OpenSpec.upto bandsFitsSpec)

/-- 'squelchlaw08.BandsLevels', WHERE WHAT IT READS IS OF BULK AT MOST 1048576: true; the input reads as it did. -/
def bandsLevelsUptoRow : OpenClaim := { program := "ytplfcncibmgllaadoor", sum := "979bfcde30b1b96a780acb6b1da97ce7a826de352662e5fc15a90f260600281a", func := "squelch/squelchlaw08.BandsLevels", spec := "bandsLevels", inPlace := ["math/bits.Add64"], unfollowed := true, recurses := true, named := ["squelch/bands.edges"], apart := false, laid := [("squelch/bands.edges", laid_squelch_bands_edges)], narrowed := true }
def BandsLevelsUptoSaid : Prop := bandsLevelsUptoRow.holds Tryd.pinned (OpenSpec.upto bandsLevelsSpec)

/-- 'squelchlaw08.BandsMasks', WHERE WHAT IT READS IS OF BULK AT MOST 1048576: true; the input reads as it did. -/
def bandsMasksUptoRow : OpenClaim := { program := "ytplfcncibmgllaadoor", sum := "979bfcde30b1b96a780acb6b1da97ce7a826de352662e5fc15a90f260600281a", func := "squelch/squelchlaw08.BandsMasks", spec := "bandsMasks", inPlace := ["math/bits.Add64"], unfollowed := true, recurses := true, named := ["squelch/bands.edges"], apart := false, laid := [("squelch/bands.edges", laid_squelch_bands_edges)], narrowed := true }
def BandsMasksUptoSaid : Prop := bandsMasksUptoRow.holds Tryd.pinned (OpenSpec.upto bandsMasksSpec)

/-- 'squelchlaw08.BandsSigns', WHERE WHAT IT READS IS OF BULK AT MOST 1048576: true; the input reads as it did. -/
def bandsSignsUptoRow : OpenClaim := { program := "ytplfcncibmgllaadoor", sum := "979bfcde30b1b96a780acb6b1da97ce7a826de352662e5fc15a90f260600281a", func := "squelch/squelchlaw08.BandsSigns", spec := "bandsSigns", inPlace := ["math/bits.Add64"], unfollowed := true, recurses := true, named := ["squelch/bands.edges"], apart := false, laid := [("squelch/bands.edges", laid_squelch_bands_edges)], narrowed := true }
def BandsSignsUptoSaid : Prop := bandsSignsUptoRow.holds Tryd.pinned (OpenSpec.upto bandsSignsSpec)

end Rows
end Go.Proofs.YtplfcncibmgllaaDoor
