/-
  No cell of these rows narrows 'for every input' (looked for: loops, veiled, ifaces, maps, wideKeys, modest, calm, conditions, laid).
  DERIVED. THE GIVEN ROWS OF THIS SEAT. 5 by the template 'for every input the law returns true; each argument reads behind the call as it read before'; 0 by the template 'total and deterministic' (their statements: YtffapinabidkiaaTotals.lean).
  GIVEN WITH THE SEED: the statements are not yours to turn. If you find one false, say at which input.
  Laid BY PROGRAM, IN A SANDBOX (cutbox-rows.mjs): the forced cells as the released guide's own fill.sh prints them over the translation 1c2818f9cc5c81dc… (all of the seat's roots in one cut). By AI agents, Wed Nov 11 2026. No macro, syntax, notation, axiom, sorry.
-/
import Derived.Test.YtffapinabidkiaaChecked
import GoSem.Claim
import GoSem.ClaimJoined
import GoSem.ClaimMapViews
import Derived.JoinedTies
import Derived.KernelRfl
namespace Go.Proofs.Ytffapinabidkiaa
/- THE CELL 'sum', in the pinned program and in every row, IS THE sha256 OF THE DUMP (.gsa) THAT YtffapinabidkiaaProg.lean LOADS. Nothing in Lean hashes anything: it is a label: what it is worth is what the hold of that sum in a sandbox is worth. -/
noncomputable def Try.pinned : Pinned := { name := "ytffapinabidkiaa", sum := "1c2818f9cc5c81dc3b0aed03b358ab09cd46d7df48f93cb24a3c9c99b45a2fd7", checked := Try.checked }
namespace Rows
def none {H : Type} : Left H := { results := [], args := [] }

/-- 'squelchlaw13.JitterDoes': WHATEVER THE INPUT: true; the input reads as it did. -/
def jitterDoesSpec : ChangeSpec := { name := "jitterDoes", fn := fun _ => fun
  | [d1, d2, d3, d4] => { results := [.lit (.bool true)], args := [d1, d2, d3, d4] }
  | _ => none }
def jitterDoesRow : OpenClaim := { program := "ytffapinabidkiaa", sum := "1c2818f9cc5c81dc3b0aed03b358ab09cd46d7df48f93cb24a3c9c99b45a2fd7", func := "squelch/squelchlaw13.JitterDoes", spec := "jitterDoes", inPlace := ["slices.overlaps[squelch/api.Packet]"], unfollowed := true, recurses := true, apart := false }
def JitterDoesSaid : Prop := jitterDoesRow.holds Try.pinned (OpenSpec.ofChange jitterDoesSpec)

/-- ITS FALSE NEIGHBOUR: 'it returns false'. Refute it at one input. -/
def jitterDoesWrong : ChangeSpec := { name := "jitterDoes", fn := fun _ => fun
  | [d1, d2, d3, d4] => { results := [.lit (.bool false)], args := [d1, d2, d3, d4] }
  | _ => none }
def JitterDoesWrongFalsely : Prop := jitterDoesRow.holds Try.pinned (OpenSpec.ofChange jitterDoesWrong)

/-- 'squelchlaw13.JitterOrder': WHATEVER THE INPUT: true; the input reads as it did. -/
def jitterOrderSpec : ChangeSpec := { name := "jitterOrder", fn := fun _ => fun
  | [d1, d2, d3] => { results := [.lit (.bool true)], args := [d1, d2, d3] }
  | _ => none }
def jitterOrderRow : OpenClaim := { program := "ytffapinabidkiaa", sum := "1c2818f9cc5c81dc3b0aed03b358ab09cd46d7df48f93cb24a3c9c99b45a2fd7", func := "squelch/squelchlaw13.JitterOrder", spec := "jitterOrder", inPlace := ["slices.overlaps[squelch/api.Packet]"], unfollowed := true, recurses := true, apart := false }
def JitterOrderSaid : Prop := jitterOrderRow.holds Try.pinned (OpenSpec.ofChange jitterOrderSpec)

/-- ITS FALSE NEIGHBOUR: 'it returns false'. Refute it at one input. -/
def jitterOrderWrong : ChangeSpec := { name := "jitterOrder", fn := fun _ => fun
  | [d1, d2, d3] => { results := [.lit (.bool false)], args := [d1, d2, d3] }
  | _ => none }
def JitterOrderWrongFalsely : Prop := jitterOrderRow.holds Try.pinned (OpenSpec.ofChange jitterOrderWrong)

/-- 'squelchlaw13.JitterOnce': WHATEVER THE INPUT: true; the input reads as it did. -/
def jitterOnceSpec : ChangeSpec := { name := "jitterOnce", fn := fun _ => fun
  | [d1, d2] => { results := [.lit (.bool true)], args := [d1, d2] }
  | _ => none }
def jitterOnceRow : OpenClaim := { program := "ytffapinabidkiaa", sum := "1c2818f9cc5c81dc3b0aed03b358ab09cd46d7df48f93cb24a3c9c99b45a2fd7", func := "squelch/squelchlaw13.JitterOnce", spec := "jitterOnce", inPlace := ["slices.overlaps[squelch/api.Packet]"], unfollowed := true, recurses := true, apart := false }
def JitterOnceSaid : Prop := jitterOnceRow.holds Try.pinned (OpenSpec.ofChange jitterOnceSpec)

/-- ITS FALSE NEIGHBOUR: 'it returns false'. Refute it at one input. -/
def jitterOnceWrong : ChangeSpec := { name := "jitterOnce", fn := fun _ => fun
  | [d1, d2] => { results := [.lit (.bool false)], args := [d1, d2] }
  | _ => none }
def JitterOnceWrongFalsely : Prop := jitterOnceRow.holds Try.pinned (OpenSpec.ofChange jitterOnceWrong)

/-- 'squelchlaw13.JitterAll': WHATEVER THE INPUT: true; the input reads as it did. -/
def jitterAllSpec : ChangeSpec := { name := "jitterAll", fn := fun _ => fun
  | [d1, d2, d3] => { results := [.lit (.bool true)], args := [d1, d2, d3] }
  | _ => none }
def jitterAllRow : OpenClaim := { program := "ytffapinabidkiaa", sum := "1c2818f9cc5c81dc3b0aed03b358ab09cd46d7df48f93cb24a3c9c99b45a2fd7", func := "squelch/squelchlaw13.JitterAll", spec := "jitterAll", inPlace := ["slices.overlaps[squelch/api.Packet]"], unfollowed := true, recurses := true, apart := false }
def JitterAllSaid : Prop := jitterAllRow.holds Try.pinned (OpenSpec.ofChange jitterAllSpec)

/-- ITS FALSE NEIGHBOUR: 'it returns false'. Refute it at one input. -/
def jitterAllWrong : ChangeSpec := { name := "jitterAll", fn := fun _ => fun
  | [d1, d2, d3] => { results := [.lit (.bool false)], args := [d1, d2, d3] }
  | _ => none }
def JitterAllWrongFalsely : Prop := jitterAllRow.holds Try.pinned (OpenSpec.ofChange jitterAllWrong)

/-- 'squelchlaw13.JitterGaps': WHATEVER THE INPUT: true; the input reads as it did. -/
def jitterGapsSpec : ChangeSpec := { name := "jitterGaps", fn := fun _ => fun
  | [d1, d2] => { results := [.lit (.bool true)], args := [d1, d2] }
  | _ => none }
def jitterGapsRow : OpenClaim := { program := "ytffapinabidkiaa", sum := "1c2818f9cc5c81dc3b0aed03b358ab09cd46d7df48f93cb24a3c9c99b45a2fd7", func := "squelch/squelchlaw13.JitterGaps", spec := "jitterGaps", inPlace := ["slices.overlaps[squelch/api.Packet]"], unfollowed := true, recurses := true, apart := false }
def JitterGapsSaid : Prop := jitterGapsRow.holds Try.pinned (OpenSpec.ofChange jitterGapsSpec)

/-- ITS FALSE NEIGHBOUR: 'it returns false'. Refute it at one input. -/
def jitterGapsWrong : ChangeSpec := { name := "jitterGaps", fn := fun _ => fun
  | [d1, d2] => { results := [.lit (.bool false)], args := [d1, d2] }
  | _ => none }
def JitterGapsWrongFalsely : Prop := jitterGapsRow.holds Try.pinned (OpenSpec.ofChange jitterGapsWrong)

/- THE SECOND FORM. 'bulk': how many values and letters a reading holds, each counted each time it is reached (what is shared counts as often as it is met; a slice's spare places count too). A statement '..UptoSaid' is the law's where the arguments, and the package variables that the reading takes, are together of bulk at most 1048576: NARROWER than '..Said'. Prove '..Said' where nothing that the law and all that it calls make is longer than what came in: it says more and counts as full. Else prove '..UptoSaid'. A law counts once. -/
mutual
def uptoBulk {H : Type} : DataW H → Nat
  | .lit (.string bytes) => bytes.length + 1
  | .lit _ => 1
  | .nil => 1
  | .ptr d => uptoBulk d + 1
  | .slice elems spare => uptoBulkAll elems + uptoBulkAll spare + 1
  | .agg parts => uptoBulkAll parts + 1
  | .iface _ d => uptoBulk d + 1
  | .map entries => uptoBulkEntries entries + 1
  | .held _ => 1
def uptoBulkAll {H : Type} : List (DataW H) → Nat
  | [] => 0
  | d :: r => uptoBulk d + uptoBulkAll r
def uptoBulkEntries {H : Type} : List (Lit × DataW H) → Nat
  | [] => 0
  | x :: r => uptoBulkEntry x + uptoBulkEntries r
def uptoBulkEntry {H : Type} : Lit × DataW H → Nat
  | (.string bytes, d) => bytes.length + uptoBulk d + 1
  | (_, d) => uptoBulk d + 1
 end
def uptoSmall : (H : Type) → List (DataW H) → Bool := fun _ ds => decide (uptoBulkAll ds ≤ 1048576)
def OpenSpec.upto (s : _root_.Go.ChangeSpec) : _root_.Go.OpenSpec := { _root_.Go.OpenSpec.ofChange s with cond := some uptoSmall }

/-- 'squelchlaw13.JitterDoes', WHERE WHAT IT READS IS OF BULK AT MOST 1048576: true; the input reads as it did. -/
def jitterDoesUptoRow : OpenClaim := { program := "ytffapinabidkiaa", sum := "1c2818f9cc5c81dc3b0aed03b358ab09cd46d7df48f93cb24a3c9c99b45a2fd7", func := "squelch/squelchlaw13.JitterDoes", spec := "jitterDoes", inPlace := ["slices.overlaps[squelch/api.Packet]"], unfollowed := true, recurses := true, apart := false, narrowed := true }
def JitterDoesUptoSaid : Prop := jitterDoesUptoRow.holds Try.pinned (OpenSpec.upto jitterDoesSpec)

/-- 'squelchlaw13.JitterOrder', WHERE WHAT IT READS IS OF BULK AT MOST 1048576: true; the input reads as it did. -/
def jitterOrderUptoRow : OpenClaim := { program := "ytffapinabidkiaa", sum := "1c2818f9cc5c81dc3b0aed03b358ab09cd46d7df48f93cb24a3c9c99b45a2fd7", func := "squelch/squelchlaw13.JitterOrder", spec := "jitterOrder", inPlace := ["slices.overlaps[squelch/api.Packet]"], unfollowed := true, recurses := true, apart := false, narrowed := true }
def JitterOrderUptoSaid : Prop := jitterOrderUptoRow.holds Try.pinned (OpenSpec.upto jitterOrderSpec)

/-- 'squelchlaw13.JitterOnce', WHERE WHAT IT READS IS OF BULK AT MOST 1048576: true; the input reads as it did. -/
def jitterOnceUptoRow : OpenClaim := { program := "ytffapinabidkiaa", sum := "1c2818f9cc5c81dc3b0aed03b358ab09cd46d7df48f93cb24a3c9c99b45a2fd7", func := "squelch/squelchlaw13.JitterOnce", spec := "jitterOnce", inPlace := ["slices.overlaps[squelch/api.Packet]"], unfollowed := true, recurses := true, apart := false, narrowed := true }
def JitterOnceUptoSaid : Prop := jitterOnceUptoRow.holds Try.pinned (OpenSpec.upto jitterOnceSpec)

/-- 'squelchlaw13.JitterAll', WHERE WHAT IT READS IS OF BULK AT MOST 1048576: true; the input reads as it did. -/
def jitterAllUptoRow : OpenClaim := { program := "ytffapinabidkiaa", sum := "1c2818f9cc5c81dc3b0aed03b358ab09cd46d7df48f93cb24a3c9c99b45a2fd7", func := "squelch/squelchlaw13.JitterAll", spec := "jitterAll", inPlace := ["slices.overlaps[squelch/api.Packet]"], unfollowed := true, recurses := true, apart := false, narrowed := true }
def JitterAllUptoSaid : Prop := jitterAllUptoRow.holds Try.pinned (OpenSpec.upto jitterAllSpec)

/-- 'squelchlaw13.JitterGaps', WHERE WHAT IT READS IS OF BULK AT MOST 1048576: true; the input reads as it did. -/
def jitterGapsUptoRow : OpenClaim := { program := "ytffapinabidkiaa", sum := "1c2818f9cc5c81dc3b0aed03b358ab09cd46d7df48f93cb24a3c9c99b45a2fd7", func := "squelch/squelchlaw13.JitterGaps", spec := "jitterGaps", inPlace := ["slices.overlaps[squelch/api.Packet]"], unfollowed := true, recurses := true, apart := false, narrowed := true }
def JitterGapsUptoSaid : Prop := jitterGapsUptoRow.holds Try.pinned (OpenSpec.upto jitterGapsSpec)

end Rows
end Go.Proofs.Ytffapinabidkiaa
