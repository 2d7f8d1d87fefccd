/-
  NARROWER THAN 'FOR EVERY INPUT', by the rows' own cells (each row's printed sentence says how): QuantSteps: laid · QuantMakes: laid · QuantNear: laid · QuantAgain: laid · QuantNoise: laid · QuantReach: laid.
  DERIVED. THE GIVEN ROWS OF THIS SEAT. 6 by the template 'for every input the law returns true; each argument reads behind the call as it read before'; 0 by the template 'total and deterministic' (their statements: YtcnckamocbaceaaDoorTotals.lean).
  GIVEN WITH THE SEED: the statements are not yours to turn. If you find one false, say at which input.
  Laid BY PROGRAM, IN A SANDBOX (cutbox-rows.mjs): the forced cells as the released guide's own fill.sh prints them over the translation 93cca7de098bf57e… (all of the seat's roots in one cut). By AI agents, Wed Nov 11 2026. No macro, syntax, notation, axiom, sorry.
-/
import Derived.Test.YtcnckamocbaceaaDoorChecked
import GoSem.Claim
import GoSem.ClaimJoined
import GoSem.ClaimMapViews
import Derived.JoinedTies
import Derived.KernelRfl
namespace Go.Proofs.YtcnckamocbaceaaDoor
/- THE CELL 'sum', in the pinned program and in every row, IS THE sha256 OF THE DUMP (.gsa) THAT YtcnckamocbaceaaDoorProg.lean LOADS. Nothing in Lean hashes anything: it is a label: what it is worth is what the hold of that sum in a sandbox is worth. -/
noncomputable def Tryd.pinned : Pinned := { name := "ytcnckamocbaceaadoor", sum := "93cca7de098bf57ee758b5f2707a48280e80e8f8585528c0afb14d9c6f56c30e", checked := Tryd.checked }
namespace Rows
def none {H : Type} : Left H := { results := [], args := [] }

/- WHAT THE LISTED PACKAGE-LEVEL VARIABLES READ AS WHEN THE CALL BEGINS. Each datum BY PROGRAM (the guide's laid-datum.mjs) off the statement by which the dump's own 'gosem.cut.vars' lays the variable. In a bare row this is a premise. The card (YtcnckamocbaceaaDoorCards.lean) ties it to the program's text. -/
def laid_squelch_bands_edges {H : Type} : DataW H := .agg [.lit (.int .i64 0), .lit (.int .i64 1), .lit (.int .i64 2), .lit (.int .i64 4), .lit (.int .i64 6), .lit (.int .i64 10), .lit (.int .i64 16)]

/-- 'squelchlaw09.QuantSteps': WHATEVER THE INPUT: true; the input reads as it did. -/
def quantStepsSpec : ChangeSpec := { name := "quantSteps", fn := fun _ => fun
  | [d1, d2] => { results := [.lit (.bool true)], args := [d1, d2] }
  | _ => none }
def quantStepsRow : OpenClaim := { program := "ytcnckamocbaceaadoor", sum := "93cca7de098bf57ee758b5f2707a48280e80e8f8585528c0afb14d9c6f56c30e", func := "squelch/squelchlaw09.QuantSteps", spec := "quantSteps", unfollowed := true, recurses := true, named := ["squelch/bands.edges"], apart := false, laid := [("squelch/bands.edges", laid_squelch_bands_edges)] }
def QuantStepsSaid : Prop := quantStepsRow.holds Tryd.pinned (OpenSpec.ofChange quantStepsSpec)

/-- ITS FALSE NEIGHBOUR: 'it returns false'. Refute it at one input. -/
def quantStepsWrong : ChangeSpec := { name := "quantSteps", fn := fun _ => fun
  | [d1, d2] => { results := [.lit (.bool false)], args := [d1, d2] }
  | _ => none }
def QuantStepsWrongFalsely : Prop := quantStepsRow.holds Tryd.pinned (OpenSpec.ofChange quantStepsWrong)

/-- 'squelchlaw09.QuantMakes': WHATEVER THE INPUT: true; the input reads as it did. -/
def quantMakesSpec : ChangeSpec := { name := "quantMakes", fn := fun _ => fun
  | [d1, d2, d3, d4] => { results := [.lit (.bool true)], args := [d1, d2, d3, d4] }
  | _ => none }
def quantMakesRow : OpenClaim := { program := "ytcnckamocbaceaadoor", sum := "93cca7de098bf57ee758b5f2707a48280e80e8f8585528c0afb14d9c6f56c30e", func := "squelch/squelchlaw09.QuantMakes", spec := "quantMakes", unfollowed := true, recurses := true, named := ["squelch/bands.edges"], apart := false, laid := [("squelch/bands.edges", laid_squelch_bands_edges)] }
def QuantMakesSaid : Prop := quantMakesRow.holds Tryd.pinned (OpenSpec.ofChange quantMakesSpec)

/-- ITS FALSE NEIGHBOUR: 'it returns false'. Refute it at one input. -/
def quantMakesWrong : ChangeSpec := { name := "quantMakes", fn := fun _ => fun
  | [d1, d2, d3, d4] => { results := [.lit (.bool false)], args := [d1, d2, d3, d4] }
  | _ => none }
def QuantMakesWrongFalsely : Prop := quantMakesRow.holds Tryd.pinned (OpenSpec.ofChange quantMakesWrong)

/-- 'squelchlaw09.QuantNear': WHATEVER THE INPUT: true; the input reads as it did. -/
def quantNearSpec : ChangeSpec := { name := "quantNear", fn := fun _ => fun
  | [d] => { results := [.lit (.bool true)], args := [d] }
  | _ => none }
def quantNearRow : OpenClaim := { program := "ytcnckamocbaceaadoor", sum := "93cca7de098bf57ee758b5f2707a48280e80e8f8585528c0afb14d9c6f56c30e", func := "squelch/squelchlaw09.QuantNear", spec := "quantNear", inPlace := ["math/bits.Add64"], unfollowed := true, recurses := true, named := ["squelch/bands.edges"], apart := false, laid := [("squelch/bands.edges", laid_squelch_bands_edges)] }
def QuantNearSaid : Prop := quantNearRow.holds Tryd.pinned (OpenSpec.ofChange quantNearSpec)

/-- ITS FALSE NEIGHBOUR: 'it returns false'. Refute it at one input. -/
def quantNearWrong : ChangeSpec := { name := "quantNear", fn := fun _ => fun
  | [d] => { results := [.lit (.bool false)], args := [d] }
  | _ => none }
def QuantNearWrongFalsely : Prop := quantNearRow.holds Tryd.pinned (OpenSpec.ofChange quantNearWrong)

/-- 'squelchlaw09.QuantAgain': WHATEVER THE INPUT: true; the input reads as it did. -/
def quantAgainSpec : ChangeSpec := { name := "quantAgain", fn := fun _ => fun
  | [d1, d2] => { results := [.lit (.bool true)], args := [d1, d2] }
  | _ => none }
def quantAgainRow : OpenClaim := { program := "ytcnckamocbaceaadoor", sum := "93cca7de098bf57ee758b5f2707a48280e80e8f8585528c0afb14d9c6f56c30e", func := "squelch/squelchlaw09.QuantAgain", spec := "quantAgain", unfollowed := true, recurses := true, named := ["squelch/bands.edges"], apart := false, laid := [("squelch/bands.edges", laid_squelch_bands_edges)] }
def QuantAgainSaid : Prop := quantAgainRow.holds Tryd.pinned (OpenSpec.ofChange quantAgainSpec)

/-- ITS FALSE NEIGHBOUR: 'it returns false'. Refute it at one input. -/
def quantAgainWrong : ChangeSpec := { name := "quantAgain", fn := fun _ => fun
  | [d1, d2] => { results := [.lit (.bool false)], args := [d1, d2] }
  | _ => none }
def QuantAgainWrongFalsely : Prop := quantAgainRow.holds Tryd.pinned (OpenSpec.ofChange quantAgainWrong)

/-- 'squelchlaw09.QuantNoise': WHATEVER THE INPUT: true; the input reads as it did. -/
def quantNoiseSpec : ChangeSpec := { name := "quantNoise", fn := fun _ => fun
  | [d1, d2] => { results := [.lit (.bool true)], args := [d1, d2] }
  | _ => none }
def quantNoiseRow : OpenClaim := { program := "ytcnckamocbaceaadoor", sum := "93cca7de098bf57ee758b5f2707a48280e80e8f8585528c0afb14d9c6f56c30e", func := "squelch/squelchlaw09.QuantNoise", spec := "quantNoise", unfollowed := true, recurses := true, named := ["squelch/bands.edges"], apart := false, laid := [("squelch/bands.edges", laid_squelch_bands_edges)] }
def QuantNoiseSaid : Prop := quantNoiseRow.holds Tryd.pinned (OpenSpec.ofChange quantNoiseSpec)

/-- ITS FALSE NEIGHBOUR: 'it returns false'. Refute it at one input. -/
def quantNoiseWrong : ChangeSpec := { name := "quantNoise", fn := fun _ => fun
  | [d1, d2] => { results := [.lit (.bool false)], args := [d1, d2] }
  | _ => none }
def QuantNoiseWrongFalsely : Prop := quantNoiseRow.holds Tryd.pinned (OpenSpec.ofChange quantNoiseWrong)

/-- 'squelchlaw09.QuantReach': WHATEVER THE INPUT: true; the input reads as it did. -/
def quantReachSpec : ChangeSpec := { name := "quantReach", fn := fun _ => fun
  | [d1, d2] => { results := [.lit (.bool true)], args := [d1, d2] }
  | _ => none }
def quantReachRow : OpenClaim := { program := "ytcnckamocbaceaadoor", sum := "93cca7de098bf57ee758b5f2707a48280e80e8f8585528c0afb14d9c6f56c30e", func := "squelch/squelchlaw09.QuantReach", spec := "quantReach", unfollowed := true, recurses := true, named := ["squelch/bands.edges"], apart := false, laid := [("squelch/bands.edges", laid_squelch_bands_edges)] }
def QuantReachSaid : Prop := quantReachRow.holds Tryd.pinned (OpenSpec.ofChange quantReachSpec)

/-- ITS FALSE NEIGHBOUR: 'it returns false'. Refute it at one input. -/
def quantReachWrong : ChangeSpec := { name := "quantReach", fn := fun _ => fun
  | [d1, d2] => { results := [.lit (.bool false)], args := [d1, d2] }
  | _ => none }
def QuantReachWrongFalsely : Prop := quantReachRow.holds Tryd.pinned (OpenSpec.ofChange quantReachWrong)

/- THE SECOND FORM. 'bulk': how many values and letters a reading holds, each counted each time it is reached (what is shared counts as often as it is met; a slice's spare places count too). A statement '..UptoSaid' is the law's where the arguments, and the package variables that the reading takes, are together of bulk at most 1048576: NARROWER than '..Said'. Prove '..Said' where nothing that the law and all that it calls make is longer than what came in: it says more and counts as full. Else prove '..UptoSaid'. A law counts once. -/
mutual
def uptoBulk {H : Type} : DataW H → Nat
  | .lit (.string bytes) => bytes.length + 1
  | .lit _ => 1
  | .nil => 1
  | .ptr d => uptoBulk d + 1
  | .slice elems spare => uptoBulkAll elems + uptoBulkAll spare + 1
  | .agg parts => uptoBulkAll parts + 1
  | .iface _ d => uptoBulk d + 1
  | .map entries => uptoBulkEntries entries + 1
  | .held _ => 1
def uptoBulkAll {H : Type} : List (DataW H) → Nat
  | [] => 0
  | d :: r => uptoBulk d + uptoBulkAll r
def uptoBulkEntries {H : Type} : List (Lit × DataW H) → Nat
  | [] => 0
  | x :: r => uptoBulkEntry x + uptoBulkEntries r
def uptoBulkEntry {H : Type} : Lit × DataW H → Nat
  | (.string bytes, d) => bytes.length + uptoBulk d + 1
  | (_, d) => uptoBulk d + 1
 end
def uptoSmall : (H : Type) → List (DataW H) → Bool := fun _ ds => decide (uptoBulkAll ds ≤ 1048576)
def OpenSpec.upto (s : _root_.Go.ChangeSpec) : _root_.Go.OpenSpec := { _root_.Go.OpenSpec.ofChange s with cond := some uptoSmall }

/-- 'squelchlaw09.QuantSteps', WHERE WHAT IT READS IS OF BULK AT MOST 1048576: true; the input reads as it did. -/
def quantStepsUptoRow : OpenClaim := { program := "ytcnckamocbaceaadoor", sum := "93cca7de098bf57ee758b5f2707a48280e80e8f8585528c0afb14d9c6f56c30e", func := "squelch/squelchlaw09.QuantSteps", spec := "quantSteps", unfollowed := true, recurses := true, named := ["squelch/bands.edges"], apart := false, laid := [("squelch/bands.edges", laid_squelch_bands_edges)], narrowed := true }
def QuantStepsUptoSaid : Prop := quantStepsUptoRow.holds Tryd.pinned (OpenSpec.upto quantStepsSpec)

/-- 'squelchlaw09.QuantMakes', WHERE WHAT IT READS IS OF BULK AT MOST 1048576: true; the input reads as it did. -/
def quantMakesUptoRow : OpenClaim := { program := "ytcnckamocbaceaadoor", sum := "93cca7de098bf57ee758b5f2707a48280e80e8f8585528c0afb14d9c6f56c30e", func := "squelch/squelchlaw09.QuantMakes", spec := "quantMakes", unfollowed := true, recurses := true, named := ["squelch/bands.edges"], apart := false, laid := [("squelch/bands.edges", laid_squelch_bands_edges)], narrowed := true }
def QuantMakesUptoSaid : Prop := quantMakesUptoRow.holds Tryd.pinned (OpenSpec.upto quantMakesSpec)

/-- 'squelchlaw09.QuantNear', WHERE WHAT IT READS IS OF BULK AT MOST 1048576: true; the input reads as it did. -/
def quantNearUptoRow : OpenClaim := { program := "ytcnckamocbaceaadoor", sum := "93cca7de098bf57ee758b5f2707a48280e80e8f8585528c0afb14d9c6f56c30e", func := "squelch/squelchlaw09.QuantNear", spec := "quantNear", inPlace := ["math/bits.Add64"], unfollowed := true, recurses := true, named := ["squelch/bands.edges"], apart := false, laid := [("squelch/bands.edges", laid_squelch_bands_edges)], narrowed := true }
def QuantNearUptoSaid : Prop := quantNearUptoRow.holds Tryd.pinned (OpenSpec.upto quantNearSpec)

/-- 'squelchlaw09.QuantAgain', WHERE WHAT IT READS IS OF BULK AT MOST 1048576: true; the input reads as it did. -/
def quantAgainUptoRow : OpenClaim := { program := "ytcnckamocbaceaadoor", sum := "93cca7de098bf57ee758b5f2707a48280e80e8f8585528c0afb14d9c6f56c30e", func := "squelch/squelchlaw09.QuantAgain", spec := "quantAgain", unfollowed := true, recurses := true, named := ["squelch/bands.edges"], apart := false, laid := [("squelch/bands.edges", laid_squelch_bands_edges)], narrowed := true }
def QuantAgainUptoSaid : Prop := quantAgainUptoRow.holds Tryd.pinned (OpenSpec.upto quantAgainSpec)

/-- 'squelchlaw09.QuantNoise', WHERE WHAT IT READS IS OF BULK AT MOST 1048576: true; the input reads as it did. -/
def quantNoiseUptoRow : OpenClaim := { program := "ytcnckamocbaceaadoor", sum := "93cca7de098bf57ee758b5f2707a48280e80e8f8585528c0afb14d9c6f56c30e", func := "squelch/squelchlaw09.QuantNoise", spec := "quantNoise", unfollowed := true, recurses := true, named := ["squelch/bands.edges"], apart := false, laid := [("squelch/bands.edges", laid_squelch_bands_edges)], narrowed := true }
def QuantNoiseUptoSaid : Prop := quantNoiseUptoRow.holds Tryd.pinned (OpenSpec.upto quantNoiseSpec)

/-- 'squelchlaw09.QuantReach', WHERE WHAT IT READS IS OF BULK AT MOST 1048576: true; the input reads as it did. -/
def quantReachUptoRow : OpenClaim := { program := "ytcnckamocbaceaadoor", sum := "93cca7de098bf57ee758b5f2707a48280e80e8f8585528c0afb14d9c6f56c30e", func := "squelch/squelchlaw09.QuantReach", spec := "quantReach", unfollowed := true, recurses := true, named := ["squelch/bands.edges"], apart := false, laid := [("squelch/bands.edges", laid_squelch_bands_edges)], narrowed := true }
def QuantReachUptoSaid : Prop := quantReachUptoRow.holds Tryd.pinned (OpenSpec.upto quantReachSpec)

end Rows
end Go.Proofs.YtcnckamocbaceaaDoor
