/-
  No cell of these rows narrows 'for every input' (looked for: loops, veiled, ifaces, maps, wideKeys, modest, calm, conditions, laid).
  DERIVED. THE GIVEN ROWS OF THIS SEAT. 7 by the template 'for every input the law returns true; each argument reads behind the call as it read before'; 0 by the template 'total and deterministic' (their statements: YtcddfmeehehjgaaTotals.lean).
  GIVEN WITH THE SEED: the statements are not yours to turn. If you find one false, say at which input.
  Laid BY PROGRAM, IN A SANDBOX (cutbox-rows.mjs): the forced cells as the released guide's own fill.sh prints them over the translation b93e1aaebddd93c3… (all of the seat's roots in one cut). By AI agents, Wed Nov 11 2026. No macro, syntax, notation, axiom, sorry.
-/
import Derived.Test.YtcddfmeehehjgaaChecked
import GoSem.Claim
import GoSem.ClaimJoined
import GoSem.ClaimMapViews
import Derived.JoinedTies
import Derived.KernelRfl
namespace Go.Proofs.Ytcddfmeehehjgaa
/- THE CELL 'sum', in the pinned program and in every row, IS THE sha256 OF THE DUMP (.gsa) THAT YtcddfmeehehjgaaProg.lean LOADS. Nothing in Lean hashes anything: it is a label: what it is worth is what the hold of that sum in a sandbox is worth. -/
noncomputable def Try.pinned : Pinned := { name := "ytcddfmeehehjgaa", sum := "b93e1aaebddd93c34cbb6863d1e466d2efca25996452d856232fba7c158dd0c9", checked := Try.checked }
namespace Rows
def none {H : Type} : Left H := { results := [], args := [] }

/-- 'squelchlaw05.FixedSats': WHATEVER THE INPUT: true; the input reads as it did. -/
def fixedSatsSpec : ChangeSpec := { name := "fixedSats", fn := fun _ => fun
  | [d1, d2, d3] => { results := [.lit (.bool true)], args := [d1, d2, d3] }
  | _ => none }
def fixedSatsRow : OpenClaim := { program := "ytcddfmeehehjgaa", sum := "b93e1aaebddd93c34cbb6863d1e466d2efca25996452d856232fba7c158dd0c9", func := "squelch/squelchlaw05.FixedSats", spec := "fixedSats", inPlace := ["math/bits.Add64"], apart := false }
def FixedSatsSaid : Prop := fixedSatsRow.holds Try.pinned (OpenSpec.ofChange fixedSatsSpec)

/-- ITS FALSE NEIGHBOUR: 'it returns false'. Refute it at one input. -/
def fixedSatsWrong : ChangeSpec := { name := "fixedSats", fn := fun _ => fun
  | [d1, d2, d3] => { results := [.lit (.bool false)], args := [d1, d2, d3] }
  | _ => none }
def FixedSatsWrongFalsely : Prop := fixedSatsRow.holds Try.pinned (OpenSpec.ofChange fixedSatsWrong)

/-- 'squelchlaw05.FixedRounds': WHATEVER THE INPUT: true; the input reads as it did. -/
def fixedRoundsSpec : ChangeSpec := { name := "fixedRounds", fn := fun _ => fun
  | [d1, d2, d3, d4] => { results := [.lit (.bool true)], args := [d1, d2, d3, d4] }
  | _ => none }
def fixedRoundsRow : OpenClaim := { program := "ytcddfmeehehjgaa", sum := "b93e1aaebddd93c34cbb6863d1e466d2efca25996452d856232fba7c158dd0c9", func := "squelch/squelchlaw05.FixedRounds", spec := "fixedRounds", inPlace := ["math/bits.Add64"], apart := false }
def FixedRoundsSaid : Prop := fixedRoundsRow.holds Try.pinned (OpenSpec.ofChange fixedRoundsSpec)

/-- ITS FALSE NEIGHBOUR: 'it returns false'. Refute it at one input. -/
def fixedRoundsWrong : ChangeSpec := { name := "fixedRounds", fn := fun _ => fun
  | [d1, d2, d3, d4] => { results := [.lit (.bool false)], args := [d1, d2, d3, d4] }
  | _ => none }
def FixedRoundsWrongFalsely : Prop := fixedRoundsRow.holds Try.pinned (OpenSpec.ofChange fixedRoundsWrong)

/-- 'squelchlaw05.FixedRoots': WHATEVER THE INPUT: true; the input reads as it did. -/
def fixedRootsSpec : ChangeSpec := { name := "fixedRoots", fn := fun _ => fun
  | [d] => { results := [.lit (.bool true)], args := [d] }
  | _ => none }
def fixedRootsRow : OpenClaim := { program := "ytcddfmeehehjgaa", sum := "b93e1aaebddd93c34cbb6863d1e466d2efca25996452d856232fba7c158dd0c9", func := "squelch/squelchlaw05.FixedRoots", spec := "fixedRoots", inPlace := ["math/bits.Add64"], apart := false }
def FixedRootsSaid : Prop := fixedRootsRow.holds Try.pinned (OpenSpec.ofChange fixedRootsSpec)

/-- ITS FALSE NEIGHBOUR: 'it returns false'. Refute it at one input. -/
def fixedRootsWrong : ChangeSpec := { name := "fixedRoots", fn := fun _ => fun
  | [d] => { results := [.lit (.bool false)], args := [d] }
  | _ => none }
def FixedRootsWrongFalsely : Prop := fixedRootsRow.holds Try.pinned (OpenSpec.ofChange fixedRootsWrong)

/-- 'squelchlaw05.FixedHolds': WHATEVER THE INPUT: true; the input reads as it did. -/
def fixedHoldsSpec : ChangeSpec := { name := "fixedHolds", fn := fun _ => fun
  | [d1, d2, d3, d4, d5] => { results := [.lit (.bool true)], args := [d1, d2, d3, d4, d5] }
  | _ => none }
def fixedHoldsRow : OpenClaim := { program := "ytcddfmeehehjgaa", sum := "b93e1aaebddd93c34cbb6863d1e466d2efca25996452d856232fba7c158dd0c9", func := "squelch/squelchlaw05.FixedHolds", spec := "fixedHolds", inPlace := ["math/bits.Add64"], apart := false }
def FixedHoldsSaid : Prop := fixedHoldsRow.holds Try.pinned (OpenSpec.ofChange fixedHoldsSpec)

/-- ITS FALSE NEIGHBOUR: 'it returns false'. Refute it at one input. -/
def fixedHoldsWrong : ChangeSpec := { name := "fixedHolds", fn := fun _ => fun
  | [d1, d2, d3, d4, d5] => { results := [.lit (.bool false)], args := [d1, d2, d3, d4, d5] }
  | _ => none }
def FixedHoldsWrongFalsely : Prop := fixedHoldsRow.holds Try.pinned (OpenSpec.ofChange fixedHoldsWrong)

/-- 'squelchlaw05.FixedNear': WHATEVER THE INPUT: true; the input reads as it did. -/
def fixedNearSpec : ChangeSpec := { name := "fixedNear", fn := fun _ => fun
  | [d1, d2, d3] => { results := [.lit (.bool true)], args := [d1, d2, d3] }
  | _ => none }
def fixedNearRow : OpenClaim := { program := "ytcddfmeehehjgaa", sum := "b93e1aaebddd93c34cbb6863d1e466d2efca25996452d856232fba7c158dd0c9", func := "squelch/squelchlaw05.FixedNear", spec := "fixedNear", inPlace := ["math/bits.Add64"], apart := false }
def FixedNearSaid : Prop := fixedNearRow.holds Try.pinned (OpenSpec.ofChange fixedNearSpec)

/-- ITS FALSE NEIGHBOUR: 'it returns false'. Refute it at one input. -/
def fixedNearWrong : ChangeSpec := { name := "fixedNear", fn := fun _ => fun
  | [d1, d2, d3] => { results := [.lit (.bool false)], args := [d1, d2, d3] }
  | _ => none }
def FixedNearWrongFalsely : Prop := fixedNearRow.holds Try.pinned (OpenSpec.ofChange fixedNearWrong)

/-- 'squelchlaw05.FixedSquares': WHATEVER THE INPUT: true; the input reads as it did. -/
def fixedSquaresSpec : ChangeSpec := { name := "fixedSquares", fn := fun _ => fun
  | [d] => { results := [.lit (.bool true)], args := [d] }
  | _ => none }
def fixedSquaresRow : OpenClaim := { program := "ytcddfmeehehjgaa", sum := "b93e1aaebddd93c34cbb6863d1e466d2efca25996452d856232fba7c158dd0c9", func := "squelch/squelchlaw05.FixedSquares", spec := "fixedSquares", inPlace := ["math/bits.Add64"], apart := false }
def FixedSquaresSaid : Prop := fixedSquaresRow.holds Try.pinned (OpenSpec.ofChange fixedSquaresSpec)

/-- ITS FALSE NEIGHBOUR: 'it returns false'. Refute it at one input. -/
def fixedSquaresWrong : ChangeSpec := { name := "fixedSquares", fn := fun _ => fun
  | [d] => { results := [.lit (.bool false)], args := [d] }
  | _ => none }
def FixedSquaresWrongFalsely : Prop := fixedSquaresRow.holds Try.pinned (OpenSpec.ofChange fixedSquaresWrong)

/-- 'squelchlaw05.FixedSigns': WHATEVER THE INPUT: true; the input reads as it did. -/
def fixedSignsSpec : ChangeSpec := { name := "fixedSigns", fn := fun _ => fun
  | [d1, d2, d3, d4] => { results := [.lit (.bool true)], args := [d1, d2, d3, d4] }
  | _ => none }
def fixedSignsRow : OpenClaim := { program := "ytcddfmeehehjgaa", sum := "b93e1aaebddd93c34cbb6863d1e466d2efca25996452d856232fba7c158dd0c9", func := "squelch/squelchlaw05.FixedSigns", spec := "fixedSigns", inPlace := ["math/bits.Add64"], apart := false }
def FixedSignsSaid : Prop := fixedSignsRow.holds Try.pinned (OpenSpec.ofChange fixedSignsSpec)

/-- ITS FALSE NEIGHBOUR: 'it returns false'. Refute it at one input. -/
def fixedSignsWrong : ChangeSpec := { name := "fixedSigns", fn := fun _ => fun
  | [d1, d2, d3, d4] => { results := [.lit (.bool false)], args := [d1, d2, d3, d4] }
  | _ => none }
def FixedSignsWrongFalsely : Prop := fixedSignsRow.holds Try.pinned (OpenSpec.ofChange fixedSignsWrong)

/- THE SECOND FORM. 'bulk': how many values and letters a reading holds, each counted each time it is reached (what is shared counts as often as it is met; a slice's spare places count too). A statement '..UptoSaid' is the law's where the arguments, and the package variables that the reading takes, are together of bulk at most 1048576: NARROWER than '..Said'. Prove '..Said' where nothing that the law and all that it calls make is longer than what came in: it says more and counts as full. Else prove '..UptoSaid'. A law counts once. -/
mutual
def uptoBulk {H : Type} : DataW H → Nat
  | .lit (.string bytes) => bytes.length + 1
  | .lit _ => 1
  | .nil => 1
  | .ptr d => uptoBulk d + 1
  | .slice elems spare => uptoBulkAll elems + uptoBulkAll spare + 1
  | .agg parts => uptoBulkAll parts + 1
  | .iface _ d => uptoBulk d + 1
  | .map entries => uptoBulkEntries entries + 1
  | .held _ => 1
def uptoBulkAll {H : Type} : List (DataW H) → Nat
  | [] => 0
  | d :: r => uptoBulk d + uptoBulkAll r
def uptoBulkEntries {H : Type} : List (Lit × DataW H) → Nat
  | [] => 0
  | x :: r => uptoBulkEntry x + uptoBulkEntries r
def uptoBulkEntry {H : Type} : Lit × DataW H → Nat
  | (.string bytes, d) => bytes.length + uptoBulk d + 1
  | (_, d) => uptoBulk d + 1
 end
def uptoSmall : (H : Type) → List (DataW H) → Bool := fun _ ds => decide (uptoBulkAll ds ≤ 1048576)
def OpenSpec.upto (s : _root_.Go.ChangeSpec) : _root_.Go.OpenSpec := { _root_.Go.OpenSpec.ofChange s with cond := some uptoSmall }

/-- 'squelchlaw05.FixedSats', WHERE WHAT IT READS IS OF BULK AT MOST 1048576: true; the input reads as it did. -/
def fixedSatsUptoRow : OpenClaim := { program := "ytcddfmeehehjgaa", sum := "b93e1aaebddd93c34cbb6863d1e466d2efca25996452d856232fba7c158dd0c9", func := "squelch/squelchlaw05.FixedSats", spec := "fixedSats", inPlace := ["math/bits.Add64"], apart := false, narrowed := true }
def FixedSatsUptoSaid : Prop := fixedSatsUptoRow.holds Try.pinned (OpenSpec.upto fixedSatsSpec)

/-- 'squelchlaw05.FixedRounds', WHERE WHAT IT READS IS OF BULK AT MOST 1048576: true; the input reads as it did. -/
def fixedRoundsUptoRow : OpenClaim := { program := "ytcddfmeehehjgaa", sum := "b93e1aaebddd93c34cbb6863d1e466d2efca25996452d856232fba7c158dd0c9", func := "squelch/squelchlaw05.FixedRounds", spec := "fixedRounds", inPlace := ["math/bits.Add64"], apart := false, narrowed := true }
def FixedRoundsUptoSaid : Prop := fixedRoundsUptoRow.holds Try.pinned (OpenSpec.upto fixedRoundsSpec)

/-- 'squelchlaw05.FixedRoots', WHERE WHAT IT READS IS OF BULK AT MOST 1048576: true; the input reads as it did. -/
def fixedRootsUptoRow : OpenClaim := { program := "ytcddfmeehehjgaa", sum := "b93e1aaebddd93c34cbb6863d1e466d2efca25996452d856232fba7c158dd0c9", func := "squelch/squelchlaw05.FixedRoots", spec := "fixedRoots", inPlace := ["math/bits.Add64"], apart := false, narrowed := true }
def FixedRootsUptoSaid : Prop := fixedRootsUptoRow.holds Try.pinned (OpenSpec.upto fixedRootsSpec)

/-- 'squelchlaw05.FixedHolds', WHERE WHAT IT READS IS OF BULK AT MOST 1048576: true; the input reads as it did. -/
def fixedHoldsUptoRow : OpenClaim := { program := "ytcddfmeehehjgaa", sum := "b93e1aaebddd93c34cbb6863d1e466d2efca25996452d856232fba7c158dd0c9", func := "squelch/squelchlaw05.FixedHolds", spec := "fixedHolds", inPlace := ["math/bits.Add64"], apart := false, narrowed := true }
def FixedHoldsUptoSaid : Prop := fixedHoldsUptoRow.holds Try.pinned (OpenSpec.upto fixedHoldsSpec)

/-- 'squelchlaw05.FixedNear', WHERE WHAT IT READS IS OF BULK AT MOST 1048576: true; the input reads as it did. -/
def fixedNearUptoRow : OpenClaim := { program := "ytcddfmeehehjgaa", sum := "b93e1aaebddd93c34cbb6863d1e466d2efca25996452d856232fba7c158dd0c9", func := "squelch/squelchlaw05.FixedNear", spec := "fixedNear", inPlace := ["math/bits.Add64"], apart := false, narrowed := true }
def FixedNearUptoSaid : Prop := fixedNearUptoRow.holds Try.pinned (OpenSpec.upto fixedNearSpec)

/-- 'squelchlaw05.FixedSquares', WHERE WHAT IT READS IS OF BULK AT MOST 1048576: true; the input reads as it did. -/
def fixedSquaresUptoRow : OpenClaim := { program := "ytcddfmeehehjgaa", sum := "b93e1aaebddd93c34cbb6863d1e466d2efca25996452d856232fba7c158dd0c9", func := "squelch/squelchlaw05.FixedSquares", spec := "fixedSquares", inPlace := ["math/bits.Add64"], apart := false, narrowed := true }
def FixedSquaresUptoSaid : Prop := fixedSquaresUptoRow.holds Try.pinned (OpenSpec.upto fixedSquaresSpec)

/-- 'squelchlaw05.FixedSigns', WHERE WHAT IT READS IS OF BULK AT MOST 1048576: true; the input reads as it did. -/
def fixedSignsUptoRow : OpenClaim := { program := "ytcddfmeehehjgaa", sum := "b93e1aaebddd93c34cbb6863d1e466d2efca25996452d856232fba7c158dd0c9", func := "squelch/squelchlaw05.FixedSigns", spec := "fixedSigns", inPlace := ["math/bits.Add64"], apart := false, narrowed := true }
def FixedSignsUptoSaid : Prop := fixedSignsUptoRow.holds Try.pinned (OpenSpec.upto fixedSignsSpec)

end Rows
end Go.Proofs.Ytcddfmeehehjgaa
