/-
  DERIVED. GIVEN WITH THE SEED: THE CARDS: each row of YtkdbhndegkldcaaGreatDoorRows.lean that lists a variable, with what it lists TIED to the program's text (the seventh form; the later family's looks); each row that meets fmt, with fmt's text TOLD by the authors' own Lean function (tested against real Go, not proved from fmt's source: count such statements apart). THE CARD IS WHAT COUNTS. Prove the row's statement (the work); the ties are given (YtkdbhndegkldcaaGreatDoorTie.lean); close each card by the builder's one call (the guide's Derived/Test/ToyasCard.lean, 'card_holds'). Laid BY PROGRAM, IN A SANDBOX (cutbox-door.mjs). By AI agents, Wed Nov 11 2026. No macro, syntax, notation, axiom, sorry.
-/
import Derived.Test.YtkdbhndegkldcaaGreatDoorRows
import GoSem.ClaimSeven
namespace Go.Proofs.YtkdbhndegkldcaaGreatDoor
namespace Rows

/-- THE TIED CARD OF 'squelchlaw11.DecoderTotal'. -/
def decoderTotalCard : Claim7 := { stood := { row := decoderTotalRow, standIns := [], harness := (true, "a8db93bfd1b5baa9d375b14087576c1c26dcfc51be0e7bf1e94c8cd0a90fd519"), looks := true }, kinds := [], alts := [], laidByText := true, laidKinds := [.data], laidTests := true, laidLooks := .later }
def DecoderTotalCardSaid : Prop := Claim7.holds Tryz.pinned (.plain (OpenSpec.ofChange decoderTotalSpec)) decoderTotalCard

/-- THE TIED CARD OF 'squelchlaw11.DecoderGoes'. -/
def decoderGoesCard : Claim7 := { stood := { row := decoderGoesRow, standIns := [], harness := (true, "a8db93bfd1b5baa9d375b14087576c1c26dcfc51be0e7bf1e94c8cd0a90fd519"), looks := true }, kinds := [], alts := [], laidByText := true, laidKinds := [.data], laidTests := true, laidLooks := .later }
def DecoderGoesCardSaid : Prop := Claim7.holds Tryz.pinned (.plain (OpenSpec.ofChange decoderGoesSpec)) decoderGoesCard

/-- THE TIED CARD OF 'squelchlaw11.DecoderRests'. -/
def decoderRestsCard : Claim7 := { stood := { row := decoderRestsRow, standIns := [], harness := (true, "a8db93bfd1b5baa9d375b14087576c1c26dcfc51be0e7bf1e94c8cd0a90fd519"), looks := true }, kinds := [], alts := [], laidByText := true, laidKinds := [.data], laidTests := true, laidLooks := .later }
def DecoderRestsCardSaid : Prop := Claim7.holds Tryz.pinned (.plain (OpenSpec.ofChange decoderRestsSpec)) decoderRestsCard

/-- THE TIED CARD OF 'squelchlaw12.EncoderLocal'. -/
def encoderLocalCard : Claim7 := { stood := { row := encoderLocalRow, standIns := [], harness := (true, "a8db93bfd1b5baa9d375b14087576c1c26dcfc51be0e7bf1e94c8cd0a90fd519"), looks := true }, kinds := [], alts := [], laidByText := true, laidKinds := [.data], laidTests := true, laidLooks := .later }
def EncoderLocalCardSaid : Prop := Claim7.holds Tryz.pinned (.plain (OpenSpec.ofChange encoderLocalSpec)) encoderLocalCard

/-- THE TIED CARD OF 'squelchlaw12.EncoderFresh'. -/
def encoderFreshCard : Claim7 := { stood := { row := encoderFreshRow, standIns := [], harness := (true, "a8db93bfd1b5baa9d375b14087576c1c26dcfc51be0e7bf1e94c8cd0a90fd519"), looks := true }, kinds := [], alts := [], laidByText := true, laidKinds := [.data], laidTests := true, laidLooks := .later }
def EncoderFreshCardSaid : Prop := Claim7.holds Tryz.pinned (.plain (OpenSpec.ofChange encoderFreshSpec)) encoderFreshCard

/-- THE TIED CARD OF 'squelchlaw12.EncoderQuiet'. -/
def encoderQuietCard : Claim7 := { stood := { row := encoderQuietRow, standIns := [], harness := (true, "a8db93bfd1b5baa9d375b14087576c1c26dcfc51be0e7bf1e94c8cd0a90fd519"), looks := true }, kinds := [], alts := [], laidByText := true, laidKinds := [.data], laidTests := true, laidLooks := .later }
def EncoderQuietCardSaid : Prop := Claim7.holds Tryz.pinned (.plain (OpenSpec.ofChange encoderQuietSpec)) encoderQuietCard

/-- THE SECOND FORM's CARD OF 'squelchlaw11.DecoderTotal'. -/
def decoderTotalUptoCard : Claim7 := { stood := { row := decoderTotalUptoRow, standIns := [], harness := (true, "a8db93bfd1b5baa9d375b14087576c1c26dcfc51be0e7bf1e94c8cd0a90fd519"), looks := true }, kinds := [], alts := [], laidByText := true, laidKinds := [.data], laidTests := true, laidLooks := .later }
def DecoderTotalUptoCardSaid : Prop := Claim7.holds Tryz.pinned (.plain (OpenSpec.upto decoderTotalSpec)) decoderTotalUptoCard

/-- THE SECOND FORM's CARD OF 'squelchlaw11.DecoderGoes'. -/
def decoderGoesUptoCard : Claim7 := { stood := { row := decoderGoesUptoRow, standIns := [], harness := (true, "a8db93bfd1b5baa9d375b14087576c1c26dcfc51be0e7bf1e94c8cd0a90fd519"), looks := true }, kinds := [], alts := [], laidByText := true, laidKinds := [.data], laidTests := true, laidLooks := .later }
def DecoderGoesUptoCardSaid : Prop := Claim7.holds Tryz.pinned (.plain (OpenSpec.upto decoderGoesSpec)) decoderGoesUptoCard

/-- THE SECOND FORM's CARD OF 'squelchlaw11.DecoderRests'. -/
def decoderRestsUptoCard : Claim7 := { stood := { row := decoderRestsUptoRow, standIns := [], harness := (true, "a8db93bfd1b5baa9d375b14087576c1c26dcfc51be0e7bf1e94c8cd0a90fd519"), looks := true }, kinds := [], alts := [], laidByText := true, laidKinds := [.data], laidTests := true, laidLooks := .later }
def DecoderRestsUptoCardSaid : Prop := Claim7.holds Tryz.pinned (.plain (OpenSpec.upto decoderRestsSpec)) decoderRestsUptoCard

/-- THE SECOND FORM's CARD OF 'squelchlaw12.EncoderLocal'. -/
def encoderLocalUptoCard : Claim7 := { stood := { row := encoderLocalUptoRow, standIns := [], harness := (true, "a8db93bfd1b5baa9d375b14087576c1c26dcfc51be0e7bf1e94c8cd0a90fd519"), looks := true }, kinds := [], alts := [], laidByText := true, laidKinds := [.data], laidTests := true, laidLooks := .later }
def EncoderLocalUptoCardSaid : Prop := Claim7.holds Tryz.pinned (.plain (OpenSpec.upto encoderLocalSpec)) encoderLocalUptoCard

/-- THE SECOND FORM's CARD OF 'squelchlaw12.EncoderFresh'. -/
def encoderFreshUptoCard : Claim7 := { stood := { row := encoderFreshUptoRow, standIns := [], harness := (true, "a8db93bfd1b5baa9d375b14087576c1c26dcfc51be0e7bf1e94c8cd0a90fd519"), looks := true }, kinds := [], alts := [], laidByText := true, laidKinds := [.data], laidTests := true, laidLooks := .later }
def EncoderFreshUptoCardSaid : Prop := Claim7.holds Tryz.pinned (.plain (OpenSpec.upto encoderFreshSpec)) encoderFreshUptoCard

/-- THE SECOND FORM's CARD OF 'squelchlaw12.EncoderQuiet'. -/
def encoderQuietUptoCard : Claim7 := { stood := { row := encoderQuietUptoRow, standIns := [], harness := (true, "a8db93bfd1b5baa9d375b14087576c1c26dcfc51be0e7bf1e94c8cd0a90fd519"), looks := true }, kinds := [], alts := [], laidByText := true, laidKinds := [.data], laidTests := true, laidLooks := .later }
def EncoderQuietUptoCardSaid : Prop := Claim7.holds Tryz.pinned (.plain (OpenSpec.upto encoderQuietSpec)) encoderQuietUptoCard
end Rows
end Go.Proofs.YtkdbhndegkldcaaGreatDoor
