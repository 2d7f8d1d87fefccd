/-
  DERIVED. GIVEN WITH THE SEED: THE CARDS: each row of YtkcoboamejefiaaGreatDoorRows.lean that lists a variable, with what it lists TIED to the program's text (the seventh form; the later family's looks); each row that meets fmt, with fmt's text TOLD by the authors' own Lean function (tested against real Go, not proved from fmt's source: count such statements apart). THE CARD IS WHAT COUNTS. Prove the row's statement (the work); the ties are given (YtkcoboamejefiaaGreatDoorTie.lean); close each card by the builder's one call (the guide's Derived/Test/ToyasCard.lean, 'card_holds'). Laid BY PROGRAM, IN A SANDBOX (cutbox-door.mjs). By AI agents, Wed Nov 11 2026. No macro, syntax, notation, axiom, sorry.
-/
import Derived.Test.YtkcoboamejefiaaGreatDoorRows
import GoSem.ClaimSeven
namespace Go.Proofs.YtkcoboamejefiaaGreatDoor
namespace Rows

/-- THE TIED CARD OF 'squelchlaw11.DecoderAll'. -/
def decoderAllCard : Claim7 := { stood := { row := decoderAllRow, standIns := [], harness := (true, "ebb13ba3b4446340f80337a4f97598c8a5489f87bd4eb9d6d80f3c0fd2d12667"), looks := true }, kinds := [], alts := [], laidByText := true, laidKinds := [.data], laidTests := true, laidLooks := .later }
def DecoderAllCardSaid : Prop := Claim7.holds Tryz.pinned (.plain (OpenSpec.ofChange decoderAllSpec)) decoderAllCard

/-- THE TIED CARD OF 'squelchlaw11.DecoderTotal'. -/
def decoderTotalCard : Claim7 := { stood := { row := decoderTotalRow, standIns := [], harness := (true, "ebb13ba3b4446340f80337a4f97598c8a5489f87bd4eb9d6d80f3c0fd2d12667"), looks := true }, kinds := [], alts := [], laidByText := true, laidKinds := [.data], laidTests := true, laidLooks := .later }
def DecoderTotalCardSaid : Prop := Claim7.holds Tryz.pinned (.plain (OpenSpec.ofChange decoderTotalSpec)) decoderTotalCard

/-- THE TIED CARD OF 'squelchlaw11.DecoderFresh'. -/
def decoderFreshCard : Claim7 := { stood := { row := decoderFreshRow, standIns := [], harness := (true, "ebb13ba3b4446340f80337a4f97598c8a5489f87bd4eb9d6d80f3c0fd2d12667"), looks := true }, kinds := [], alts := [], laidByText := true, laidKinds := [.data], laidTests := true, laidLooks := .later }
def DecoderFreshCardSaid : Prop := Claim7.holds Tryz.pinned (.plain (OpenSpec.ofChange decoderFreshSpec)) decoderFreshCard

/-- THE TIED CARD OF 'squelchlaw11.DecoderFades'. -/
def decoderFadesCard : Claim7 := { stood := { row := decoderFadesRow, standIns := [], harness := (true, "ebb13ba3b4446340f80337a4f97598c8a5489f87bd4eb9d6d80f3c0fd2d12667"), looks := true }, kinds := [], alts := [], laidByText := true, laidKinds := [.data], laidTests := true, laidLooks := .later }
def DecoderFadesCardSaid : Prop := Claim7.holds Tryz.pinned (.plain (OpenSpec.ofChange decoderFadesSpec)) decoderFadesCard

/-- THE TIED CARD OF 'squelchlaw11.DecoderGoes'. -/
def decoderGoesCard : Claim7 := { stood := { row := decoderGoesRow, standIns := [], harness := (true, "ebb13ba3b4446340f80337a4f97598c8a5489f87bd4eb9d6d80f3c0fd2d12667"), looks := true }, kinds := [], alts := [], laidByText := true, laidKinds := [.data], laidTests := true, laidLooks := .later }
def DecoderGoesCardSaid : Prop := Claim7.holds Tryz.pinned (.plain (OpenSpec.ofChange decoderGoesSpec)) decoderGoesCard

/-- THE TIED CARD OF 'squelchlaw11.DecoderRests'. -/
def decoderRestsCard : Claim7 := { stood := { row := decoderRestsRow, standIns := [], harness := (true, "ebb13ba3b4446340f80337a4f97598c8a5489f87bd4eb9d6d80f3c0fd2d12667"), looks := true }, kinds := [], alts := [], laidByText := true, laidKinds := [.data], laidTests := true, laidLooks := .later }
def DecoderRestsCardSaid : Prop := Claim7.holds Tryz.pinned (.plain (OpenSpec.ofChange decoderRestsSpec)) decoderRestsCard

/-- THE SECOND FORM's CARD OF 'squelchlaw11.DecoderAll'. -/
def decoderAllUptoCard : Claim7 := { stood := { row := decoderAllUptoRow, standIns := [], harness := (true, "ebb13ba3b4446340f80337a4f97598c8a5489f87bd4eb9d6d80f3c0fd2d12667"), looks := true }, kinds := [], alts := [], laidByText := true, laidKinds := [.data], laidTests := true, laidLooks := .later }
def DecoderAllUptoCardSaid : Prop := Claim7.holds Tryz.pinned (.plain (OpenSpec.upto decoderAllSpec)) decoderAllUptoCard

/-- THE SECOND FORM's CARD OF 'squelchlaw11.DecoderTotal'. -/
def decoderTotalUptoCard : Claim7 := { stood := { row := decoderTotalUptoRow, standIns := [], harness := (true, "ebb13ba3b4446340f80337a4f97598c8a5489f87bd4eb9d6d80f3c0fd2d12667"), looks := true }, kinds := [], alts := [], laidByText := true, laidKinds := [.data], laidTests := true, laidLooks := .later }
def DecoderTotalUptoCardSaid : Prop := Claim7.holds Tryz.pinned (.plain (OpenSpec.upto decoderTotalSpec)) decoderTotalUptoCard

/-- THE SECOND FORM's CARD OF 'squelchlaw11.DecoderFresh'. -/
def decoderFreshUptoCard : Claim7 := { stood := { row := decoderFreshUptoRow, standIns := [], harness := (true, "ebb13ba3b4446340f80337a4f97598c8a5489f87bd4eb9d6d80f3c0fd2d12667"), looks := true }, kinds := [], alts := [], laidByText := true, laidKinds := [.data], laidTests := true, laidLooks := .later }
def DecoderFreshUptoCardSaid : Prop := Claim7.holds Tryz.pinned (.plain (OpenSpec.upto decoderFreshSpec)) decoderFreshUptoCard

/-- THE SECOND FORM's CARD OF 'squelchlaw11.DecoderFades'. -/
def decoderFadesUptoCard : Claim7 := { stood := { row := decoderFadesUptoRow, standIns := [], harness := (true, "ebb13ba3b4446340f80337a4f97598c8a5489f87bd4eb9d6d80f3c0fd2d12667"), looks := true }, kinds := [], alts := [], laidByText := true, laidKinds := [.data], laidTests := true, laidLooks := .later }
def DecoderFadesUptoCardSaid : Prop := Claim7.holds Tryz.pinned (.plain (OpenSpec.upto decoderFadesSpec)) decoderFadesUptoCard

/-- THE SECOND FORM's CARD OF 'squelchlaw11.DecoderGoes'. -/
def decoderGoesUptoCard : Claim7 := { stood := { row := decoderGoesUptoRow, standIns := [], harness := (true, "ebb13ba3b4446340f80337a4f97598c8a5489f87bd4eb9d6d80f3c0fd2d12667"), looks := true }, kinds := [], alts := [], laidByText := true, laidKinds := [.data], laidTests := true, laidLooks := .later }
def DecoderGoesUptoCardSaid : Prop := Claim7.holds Tryz.pinned (.plain (OpenSpec.upto decoderGoesSpec)) decoderGoesUptoCard

/-- THE SECOND FORM's CARD OF 'squelchlaw11.DecoderRests'. -/
def decoderRestsUptoCard : Claim7 := { stood := { row := decoderRestsUptoRow, standIns := [], harness := (true, "ebb13ba3b4446340f80337a4f97598c8a5489f87bd4eb9d6d80f3c0fd2d12667"), looks := true }, kinds := [], alts := [], laidByText := true, laidKinds := [.data], laidTests := true, laidLooks := .later }
def DecoderRestsUptoCardSaid : Prop := Claim7.holds Tryz.pinned (.plain (OpenSpec.upto decoderRestsSpec)) decoderRestsUptoCard
end Rows
end Go.Proofs.YtkcoboamejefiaaGreatDoor
