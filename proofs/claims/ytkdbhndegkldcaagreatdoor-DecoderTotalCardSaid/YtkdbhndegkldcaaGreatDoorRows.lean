/-
  NARROWER THAN 'FOR EVERY INPUT', by the rows' own cells (each row's printed sentence says how): DecoderTotal: laid · DecoderGoes: laid · DecoderRests: laid · EncoderLocal: laid · EncoderFresh: laid · EncoderQuiet: laid.
  DERIVED. THE GIVEN ROWS OF THIS SEAT. 6 by the template 'for every input the law returns true; each argument reads behind the call as it read before'; 0 by the template 'total and deterministic' (their statements: YtkdbhndegkldcaaGreatDoorTotals.lean).
  GIVEN WITH THE SEED: the statements are not yours to turn. If you find one false, say at which input.
  Laid BY PROGRAM, IN A SANDBOX (cutbox-rows.mjs): the forced cells as the released guide's own fill.sh prints them over the translation 53745d68cb6c4ac3… (all of the seat's roots in one cut). By AI agents, Wed Nov 11 2026. No macro, syntax, notation, axiom, sorry.
-/
import Derived.Test.YtkdbhndegkldcaaGreatDoorChecked
import GoSem.Claim
import GoSem.ClaimJoined
import GoSem.ClaimMapViews
import Derived.JoinedTies
import Derived.KernelRfl
namespace Go.Proofs.YtkdbhndegkldcaaGreatDoor
/- THE CELL 'sum', in the pinned program and in every row, IS THE sha256 OF THE DUMP (.gsa) THAT YtkdbhndegkldcaaGreatDoorProg.lean LOADS. Nothing in Lean hashes anything: it is a label: what it is worth is what the hold of that sum in a sandbox is worth. -/
noncomputable def Tryz.pinned : Pinned := { name := "ytkdbhndegkldcaagreatdoor", sum := "53745d68cb6c4ac395dd4b66cbc6ec6a8b038609d2841601adeecb8f7aad0d2e", checked := Tryz.checked }
namespace Rows
def none {H : Type} : Left H := { results := [], args := [] }

/- WHAT THE LISTED PACKAGE-LEVEL VARIABLES READ AS WHEN THE CALL BEGINS. Each datum BY PROGRAM (the guide's laid-datum.mjs) off the statement by which the dump's own 'gosem.cut.vars' lays the variable. In a bare row this is a premise. The card (YtkdbhndegkldcaaGreatDoorCards.lean) ties it to the program's text. -/
def laid_squelch_bands_edges {H : Type} : DataW H := .agg [.lit (.int .i64 0), .lit (.int .i64 1), .lit (.int .i64 2), .lit (.int .i64 4), .lit (.int .i64 6), .lit (.int .i64 10), .lit (.int .i64 16)]

/-- 'squelchlaw11.DecoderTotal': WHATEVER THE INPUT: true; the input reads as it did. -/
def decoderTotalSpec : ChangeSpec := { name := "decoderTotal", fn := fun _ => fun
  | [d1, d2] => { results := [.lit (.bool true)], args := [d1, d2] }
  | _ => none }
def decoderTotalRow : OpenClaim := { program := "ytkdbhndegkldcaagreatdoor", sum := "53745d68cb6c4ac395dd4b66cbc6ec6a8b038609d2841601adeecb8f7aad0d2e", func := "squelch/squelchlaw11.DecoderTotal", spec := "decoderTotal", unfollowed := true, recurses := true, named := ["squelch/bands.edges"], apart := false, laid := [("squelch/bands.edges", laid_squelch_bands_edges)] }
def DecoderTotalSaid : Prop := decoderTotalRow.holds Tryz.pinned (OpenSpec.ofChange decoderTotalSpec)

/-- ITS FALSE NEIGHBOUR: 'it returns false'. Refute it at one input. -/
def decoderTotalWrong : ChangeSpec := { name := "decoderTotal", fn := fun _ => fun
  | [d1, d2] => { results := [.lit (.bool false)], args := [d1, d2] }
  | _ => none }
def DecoderTotalWrongFalsely : Prop := decoderTotalRow.holds Tryz.pinned (OpenSpec.ofChange decoderTotalWrong)

/-- 'squelchlaw11.DecoderGoes': WHATEVER THE INPUT: true; the input reads as it did. -/
def decoderGoesSpec : ChangeSpec := { name := "decoderGoes", fn := fun _ => fun
  | [d1, d2] => { results := [.lit (.bool true)], args := [d1, d2] }
  | _ => none }
def decoderGoesRow : OpenClaim := { program := "ytkdbhndegkldcaagreatdoor", sum := "53745d68cb6c4ac395dd4b66cbc6ec6a8b038609d2841601adeecb8f7aad0d2e", func := "squelch/squelchlaw11.DecoderGoes", spec := "decoderGoes", unfollowed := true, recurses := true, named := ["squelch/bands.edges"], apart := false, laid := [("squelch/bands.edges", laid_squelch_bands_edges)] }
def DecoderGoesSaid : Prop := decoderGoesRow.holds Tryz.pinned (OpenSpec.ofChange decoderGoesSpec)

/-- ITS FALSE NEIGHBOUR: 'it returns false'. Refute it at one input. -/
def decoderGoesWrong : ChangeSpec := { name := "decoderGoes", fn := fun _ => fun
  | [d1, d2] => { results := [.lit (.bool false)], args := [d1, d2] }
  | _ => none }
def DecoderGoesWrongFalsely : Prop := decoderGoesRow.holds Tryz.pinned (OpenSpec.ofChange decoderGoesWrong)

/-- 'squelchlaw11.DecoderRests': WHATEVER THE INPUT: true; the input reads as it did. -/
def decoderRestsSpec : ChangeSpec := { name := "decoderRests", fn := fun _ => fun
  | [d1, d2] => { results := [.lit (.bool true)], args := [d1, d2] }
  | _ => none }
def decoderRestsRow : OpenClaim := { program := "ytkdbhndegkldcaagreatdoor", sum := "53745d68cb6c4ac395dd4b66cbc6ec6a8b038609d2841601adeecb8f7aad0d2e", func := "squelch/squelchlaw11.DecoderRests", spec := "decoderRests", unfollowed := true, recurses := true, named := ["squelch/bands.edges"], apart := false, laid := [("squelch/bands.edges", laid_squelch_bands_edges)] }
def DecoderRestsSaid : Prop := decoderRestsRow.holds Tryz.pinned (OpenSpec.ofChange decoderRestsSpec)

/-- ITS FALSE NEIGHBOUR: 'it returns false'. Refute it at one input. -/
def decoderRestsWrong : ChangeSpec := { name := "decoderRests", fn := fun _ => fun
  | [d1, d2] => { results := [.lit (.bool false)], args := [d1, d2] }
  | _ => none }
def DecoderRestsWrongFalsely : Prop := decoderRestsRow.holds Tryz.pinned (OpenSpec.ofChange decoderRestsWrong)

/-- 'squelchlaw12.EncoderLocal': WHATEVER THE INPUT: true; the input reads as it did. -/
def encoderLocalSpec : ChangeSpec := { name := "encoderLocal", fn := fun _ => fun
  | [d] => { results := [.lit (.bool true)], args := [d] }
  | _ => none }
def encoderLocalRow : OpenClaim := { program := "ytkdbhndegkldcaagreatdoor", sum := "53745d68cb6c4ac395dd4b66cbc6ec6a8b038609d2841601adeecb8f7aad0d2e", func := "squelch/squelchlaw12.EncoderLocal", spec := "encoderLocal", inPlace := ["math/bits.Add64"], unfollowed := true, recurses := true, named := ["squelch/bands.edges"], apart := false, laid := [("squelch/bands.edges", laid_squelch_bands_edges)] }
def EncoderLocalSaid : Prop := encoderLocalRow.holds Tryz.pinned (OpenSpec.ofChange encoderLocalSpec)

/-- ITS FALSE NEIGHBOUR: 'it returns false'. Refute it at one input. -/
def encoderLocalWrong : ChangeSpec := { name := "encoderLocal", fn := fun _ => fun
  | [d] => { results := [.lit (.bool false)], args := [d] }
  | _ => none }
def EncoderLocalWrongFalsely : Prop := encoderLocalRow.holds Tryz.pinned (OpenSpec.ofChange encoderLocalWrong)

/-- 'squelchlaw12.EncoderFresh': WHATEVER THE INPUT: true; the input reads as it did. -/
def encoderFreshSpec : ChangeSpec := { name := "encoderFresh", fn := fun _ => fun
  | [d] => { results := [.lit (.bool true)], args := [d] }
  | _ => none }
def encoderFreshRow : OpenClaim := { program := "ytkdbhndegkldcaagreatdoor", sum := "53745d68cb6c4ac395dd4b66cbc6ec6a8b038609d2841601adeecb8f7aad0d2e", func := "squelch/squelchlaw12.EncoderFresh", spec := "encoderFresh", inPlace := ["math/bits.Add64"], unfollowed := true, recurses := true, named := ["squelch/bands.edges"], apart := false, laid := [("squelch/bands.edges", laid_squelch_bands_edges)] }
def EncoderFreshSaid : Prop := encoderFreshRow.holds Tryz.pinned (OpenSpec.ofChange encoderFreshSpec)

/-- ITS FALSE NEIGHBOUR: 'it returns false'. Refute it at one input. -/
def encoderFreshWrong : ChangeSpec := { name := "encoderFresh", fn := fun _ => fun
  | [d] => { results := [.lit (.bool false)], args := [d] }
  | _ => none }
def EncoderFreshWrongFalsely : Prop := encoderFreshRow.holds Tryz.pinned (OpenSpec.ofChange encoderFreshWrong)

/-- 'squelchlaw12.EncoderQuiet': WHATEVER THE INPUT: true; the input reads as it did. -/
def encoderQuietSpec : ChangeSpec := { name := "encoderQuiet", fn := fun _ => fun
  | [d] => { results := [.lit (.bool true)], args := [d] }
  | _ => none }
def encoderQuietRow : OpenClaim := { program := "ytkdbhndegkldcaagreatdoor", sum := "53745d68cb6c4ac395dd4b66cbc6ec6a8b038609d2841601adeecb8f7aad0d2e", func := "squelch/squelchlaw12.EncoderQuiet", spec := "encoderQuiet", inPlace := ["math/bits.Add64"], unfollowed := true, recurses := true, named := ["squelch/bands.edges"], apart := false, laid := [("squelch/bands.edges", laid_squelch_bands_edges)] }
def EncoderQuietSaid : Prop := encoderQuietRow.holds Tryz.pinned (OpenSpec.ofChange encoderQuietSpec)

/-- ITS FALSE NEIGHBOUR: 'it returns false'. Refute it at one input. -/
def encoderQuietWrong : ChangeSpec := { name := "encoderQuiet", fn := fun _ => fun
  | [d] => { results := [.lit (.bool false)], args := [d] }
  | _ => none }
def EncoderQuietWrongFalsely : Prop := encoderQuietRow.holds Tryz.pinned (OpenSpec.ofChange encoderQuietWrong)

/- THE SECOND FORM. 'bulk': how many values and letters a reading holds, each counted each time it is reached (what is shared counts as often as it is met; a slice's spare places count too). A statement '..UptoSaid' is the law's where the arguments, and the package variables that the reading takes, are together of bulk at most 1048576: NARROWER than '..Said'. Prove '..Said' where nothing that the law and all that it calls make is longer than what came in: it says more and counts as full. Else prove '..UptoSaid'. A law counts once. -/
mutual
def uptoBulk {H : Type} : DataW H → Nat
  | .lit (.string bytes) => bytes.length + 1
  | .lit _ => 1
  | .nil => 1
  | .ptr d => uptoBulk d + 1
  | .slice elems spare => uptoBulkAll elems + uptoBulkAll spare + 1
  | .agg parts => uptoBulkAll parts + 1
  | .iface _ d => uptoBulk d + 1
  | .map entries => uptoBulkEntries entries + 1
  | .held _ => 1
def uptoBulkAll {H : Type} : List (DataW H) → Nat
  | [] => 0
  | d :: r => uptoBulk d + uptoBulkAll r
def uptoBulkEntries {H : Type} : List (Lit × DataW H) → Nat
  | [] => 0
  | x :: r => uptoBulkEntry x + uptoBulkEntries r
def uptoBulkEntry {H : Type} : Lit × DataW H → Nat
  | (.string bytes, d) => bytes.length + uptoBulk d + 1
  | (_, d) => uptoBulk d + 1
 end
def uptoSmall : (H : Type) → List (DataW H) → Bool := fun _ ds => decide (uptoBulkAll ds ≤ 1048576)
def OpenSpec.upto (s : _root_.Go.ChangeSpec) : _root_.Go.OpenSpec := { _root_.Go.OpenSpec.ofChange s with cond := some uptoSmall }

/-- 'squelchlaw11.DecoderTotal', WHERE WHAT IT READS IS OF BULK AT MOST 1048576: true; the input reads as it did. -/
def decoderTotalUptoRow : OpenClaim := { program := "ytkdbhndegkldcaagreatdoor", sum := "53745d68cb6c4ac395dd4b66cbc6ec6a8b038609d2841601adeecb8f7aad0d2e", func := "squelch/squelchlaw11.DecoderTotal", spec := "decoderTotal", unfollowed := true, recurses := true, named := ["squelch/bands.edges"], apart := false, laid := [("squelch/bands.edges", laid_squelch_bands_edges)], narrowed := true }
def DecoderTotalUptoSaid : Prop := decoderTotalUptoRow.holds Tryz.pinned (OpenSpec.upto decoderTotalSpec)

/-- 'squelchlaw11.DecoderGoes', WHERE WHAT IT READS IS OF BULK AT MOST 1048576: true; the input reads as it did. -/
def decoderGoesUptoRow : OpenClaim := { program := "ytkdbhndegkldcaagreatdoor", sum := "53745d68cb6c4ac395dd4b66cbc6ec6a8b038609d2841601adeecb8f7aad0d2e", func := "squelch/squelchlaw11.DecoderGoes", spec := "decoderGoes", unfollowed := true, recurses := true, named := ["squelch/bands.edges"], apart := false, laid := [("squelch/bands.edges", laid_squelch_bands_edges)], narrowed := true }
def DecoderGoesUptoSaid : Prop := decoderGoesUptoRow.holds Tryz.pinned (OpenSpec.upto decoderGoesSpec)

/-- 'squelchlaw11.DecoderRests', WHERE WHAT IT READS IS OF BULK AT MOST 1048576: true; the input reads as it did. -/
def decoderRestsUptoRow : OpenClaim := { program := "ytkdbhndegkldcaagreatdoor", sum := "53745d68cb6c4ac395dd4b66cbc6ec6a8b038609d2841601adeecb8f7aad0d2e", func := "squelch/squelchlaw11.DecoderRests", spec := "decoderRests", unfollowed := true, recurses := true, named := ["squelch/bands.edges"], apart := false, laid := [("squelch/bands.edges", laid_squelch_bands_edges)], narrowed := true }
def DecoderRestsUptoSaid : Prop := decoderRestsUptoRow.holds Tryz.pinned (OpenSpec.upto decoderRestsSpec)

/-- 'squelchlaw12.EncoderLocal', WHERE WHAT IT READS IS OF BULK AT MOST 1048576: true; the input reads as it did. -/
def encoderLocalUptoRow : OpenClaim := { program := "ytkdbhndegkldcaagreatdoor", sum := "53745d68cb6c4ac395dd4b66cbc6ec6a8b038609d2841601adeecb8f7aad0d2e", func := "squelch/squelchlaw12.EncoderLocal", spec := "encoderLocal", inPlace := ["math/bits.Add64"], unfollowed := true, recurses := true, named := ["squelch/bands.edges"], apart := false, laid := [("squelch/bands.edges", laid_squelch_bands_edges)], narrowed := true }
def EncoderLocalUptoSaid : Prop := encoderLocalUptoRow.holds Tryz.pinned (OpenSpec.upto encoderLocalSpec)

/-- 'squelchlaw12.EncoderFresh', WHERE WHAT IT READS IS OF BULK AT MOST 1048576: true; the input reads as it did. -/
def encoderFreshUptoRow : OpenClaim := { program := "ytkdbhndegkldcaagreatdoor", sum := "53745d68cb6c4ac395dd4b66cbc6ec6a8b038609d2841601adeecb8f7aad0d2e", func := "squelch/squelchlaw12.EncoderFresh", spec := "encoderFresh", inPlace := ["math/bits.Add64"], unfollowed := true, recurses := true, named := ["squelch/bands.edges"], apart := false, laid := [("squelch/bands.edges", laid_squelch_bands_edges)], narrowed := true }
def EncoderFreshUptoSaid : Prop := encoderFreshUptoRow.holds Tryz.pinned (OpenSpec.upto encoderFreshSpec)

/-- 'squelchlaw12.EncoderQuiet', WHERE WHAT IT READS IS OF BULK AT MOST 1048576: true; the input reads as it did. -/
def encoderQuietUptoRow : OpenClaim := { program := "ytkdbhndegkldcaagreatdoor", sum := "53745d68cb6c4ac395dd4b66cbc6ec6a8b038609d2841601adeecb8f7aad0d2e", func := "squelch/squelchlaw12.EncoderQuiet", spec := "encoderQuiet", inPlace := ["math/bits.Add64"], unfollowed := true, recurses := true, named := ["squelch/bands.edges"], apart := false, laid := [("squelch/bands.edges", laid_squelch_bands_edges)], narrowed := true }
def EncoderQuietUptoSaid : Prop := encoderQuietUptoRow.holds Tryz.pinned (OpenSpec.upto encoderQuietSpec)

end Rows
end Go.Proofs.YtkdbhndegkldcaaGreatDoor
