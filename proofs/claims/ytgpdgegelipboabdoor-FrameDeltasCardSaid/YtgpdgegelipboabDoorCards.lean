/-
  DERIVED. GIVEN WITH THE SEED: THE CARDS: each row of YtgpdgegelipboabDoorRows.lean that lists a variable, with what it lists TIED to the program's text (the seventh form; the later family's looks); each row that meets fmt, with fmt's text TOLD by the authors' own Lean function (tested against real Go, not proved from fmt's source: count such statements apart). THE CARD IS WHAT COUNTS. Prove the row's statement (the work); the ties are given (YtgpdgegelipboabDoorTie.lean); close each card by the builder's one call (the guide's Derived/Test/ToyasCard.lean, 'card_holds'). Laid BY PROGRAM, IN A SANDBOX (cutbox-door.mjs). By AI agents, Wed Nov 11 2026. No macro, syntax, notation, axiom, sorry.
-/
import Derived.Test.YtgpdgegelipboabDoorRows
import GoSem.ClaimSeven
namespace Go.Proofs.YtgpdgegelipboabDoor
namespace Rows

/-- THE TIED CARD OF 'squelchlaw10.FrameDeltas'. -/
def frameDeltasCard : Claim7 := { stood := { row := frameDeltasRow, standIns := [], harness := (true, "b8b187a8063822f1cee884ef4cb564e42e65db1c0bd5ab15c6b9ff4aa3aa29d5"), looks := false }, kinds := [], alts := [], laidByText := true, laidKinds := [.data], laidTests := true, laidLooks := .later }
def FrameDeltasCardSaid : Prop := Claim7.holds Tryd.pinned (.plain (OpenSpec.ofChange frameDeltasSpec)) frameDeltasCard

/-- THE SECOND FORM's CARD OF 'squelchlaw10.FrameDeltas'. -/
def frameDeltasUptoCard : Claim7 := { stood := { row := frameDeltasUptoRow, standIns := [], harness := (true, "b8b187a8063822f1cee884ef4cb564e42e65db1c0bd5ab15c6b9ff4aa3aa29d5"), looks := false }, kinds := [], alts := [], laidByText := true, laidKinds := [.data], laidTests := true, laidLooks := .later }
def FrameDeltasUptoCardSaid : Prop := Claim7.holds Tryd.pinned (.plain (OpenSpec.upto frameDeltasSpec)) frameDeltasUptoCard
end Rows
end Go.Proofs.YtgpdgegelipboabDoor
