/-
  DERIVED. GIVEN WITH THE SEED: THE CARDS: each row of YtplfcncibmgllaaDoorRows.lean that lists a variable, with what it lists TIED to the program's text (the seventh form; the later family's looks); each row that meets fmt, with fmt's text TOLD by the authors' own Lean function (tested against real Go, not proved from fmt's source: count such statements apart). THE CARD IS WHAT COUNTS. Prove the row's statement (the work); the ties are given (YtplfcncibmgllaaDoorTie.lean); close each card by the builder's one call (the guide's Derived/Test/ToyasCard.lean, 'card_holds'). Laid BY PROGRAM, IN A SANDBOX (cutbox-door.mjs). By AI agents, Wed Nov 11 2026. No macro, syntax, notation, axiom, sorry.
-/
import Derived.Test.YtplfcncibmgllaaDoorRows
import GoSem.ClaimSeven
namespace Go.Proofs.YtplfcncibmgllaaDoor
namespace Rows

/-- THE TIED CARD OF 'squelchlaw08.BandsShares'. -/
def bandsSharesCard : Claim7 := { stood := { row := bandsSharesRow, standIns := [], harness := (true, "b056ddde881ed2e9a916e0dc386ad0c1459fc7b4c71e1eea92d9c54e2229f88d"), looks := false }, kinds := [], alts := [], laidByText := true, laidKinds := [.data], laidTests := true, laidLooks := .later }
def BandsSharesCardSaid : Prop := Claim7.holds Tryd.pinned (.plain (OpenSpec.ofChange bandsSharesSpec)) bandsSharesCard

/-- THE TIED CARD OF 'squelchlaw08.BandsFits'. -/
def bandsFitsCard : Claim7 := { stood := { row := bandsFitsRow, standIns := [], harness := (true, "b056ddde881ed2e9a916e0dc386ad0c1459fc7b4c71e1eea92d9c54e2229f88d"), looks := false }, kinds := [], alts := [], laidByText := true, laidKinds := [.data], laidTests := true, laidLooks := .later }
def BandsFitsCardSaid : Prop := Claim7.holds Tryd.pinned (.plain (OpenSpec.ofChange bandsFitsSpec)) bandsFitsCard

/-- THE TIED CARD OF 'squelchlaw08.BandsLevels'. -/
def bandsLevelsCard : Claim7 := { stood := { row := bandsLevelsRow, standIns := [], harness := (true, "b056ddde881ed2e9a916e0dc386ad0c1459fc7b4c71e1eea92d9c54e2229f88d"), looks := false }, kinds := [], alts := [], laidByText := true, laidKinds := [.data], laidTests := true, laidLooks := .later }
def BandsLevelsCardSaid : Prop := Claim7.holds Tryd.pinned (.plain (OpenSpec.ofChange bandsLevelsSpec)) bandsLevelsCard

/-- THE TIED CARD OF 'squelchlaw08.BandsMasks'. -/
def bandsMasksCard : Claim7 := { stood := { row := bandsMasksRow, standIns := [], harness := (true, "b056ddde881ed2e9a916e0dc386ad0c1459fc7b4c71e1eea92d9c54e2229f88d"), looks := false }, kinds := [], alts := [], laidByText := true, laidKinds := [.data], laidTests := true, laidLooks := .later }
def BandsMasksCardSaid : Prop := Claim7.holds Tryd.pinned (.plain (OpenSpec.ofChange bandsMasksSpec)) bandsMasksCard

/-- THE TIED CARD OF 'squelchlaw08.BandsSigns'. -/
def bandsSignsCard : Claim7 := { stood := { row := bandsSignsRow, standIns := [], harness := (true, "b056ddde881ed2e9a916e0dc386ad0c1459fc7b4c71e1eea92d9c54e2229f88d"), looks := false }, kinds := [], alts := [], laidByText := true, laidKinds := [.data], laidTests := true, laidLooks := .later }
def BandsSignsCardSaid : Prop := Claim7.holds Tryd.pinned (.plain (OpenSpec.ofChange bandsSignsSpec)) bandsSignsCard

/-- THE SECOND FORM's CARD OF 'squelchlaw08.BandsShares'. -/
def bandsSharesUptoCard : Claim7 := { stood := { row := bandsSharesUptoRow, standIns := [], harness := (true, "b056ddde881ed2e9a916e0dc386ad0c1459fc7b4c71e1eea92d9c54e2229f88d"), looks := false }, kinds := [], alts := [], laidByText := true, laidKinds := [.data], laidTests := true, laidLooks := .later }
def BandsSharesUptoCardSaid : Prop := Claim7.holds Tryd.pinned (.plain (OpenSpec.upto bandsSharesSpec)) bandsSharesUptoCard

/-- THE SECOND FORM's CARD OF 'squelchlaw08.BandsFits'. -/
def bandsFitsUptoCard : Claim7 := { stood := { row := bandsFitsUptoRow, standIns := [], harness := (true, "b056ddde881ed2e9a916e0dc386ad0c1459fc7b4c71e1eea92d9c54e2229f88d"), looks := false }, kinds := [], alts := [], laidByText := true, laidKinds := [.data], laidTests := true, laidLooks := .later }
def BandsFitsUptoCardSaid : Prop := Claim7.holds Tryd.pinned (.plain (OpenSpec.upto bandsFitsSpec)) bandsFitsUptoCard

/-- THE SECOND FORM's CARD OF 'squelchlaw08.BandsLevels'. -/
def bandsLevelsUptoCard : Claim7 := { stood := { row := bandsLevelsUptoRow, standIns := [], harness := (true, "b056ddde881ed2e9a916e0dc386ad0c1459fc7b4c71e1eea92d9c54e2229f88d"), looks := false }, kinds := [], alts := [], laidByText := true, laidKinds := [.data], laidTests := true, laidLooks := .later }
def BandsLevelsUptoCardSaid : Prop := Claim7.holds Tryd.pinned (.plain (OpenSpec.upto bandsLevelsSpec)) bandsLevelsUptoCard

/-- THE SECOND FORM's CARD OF 'squelchlaw08.BandsMasks'. -/
def bandsMasksUptoCard : Claim7 := { stood := { row := bandsMasksUptoRow, standIns := [], harness := (true, "b056ddde881ed2e9a916e0dc386ad0c1459fc7b4c71e1eea92d9c54e2229f88d"), looks := false }, kinds := [], alts := [], laidByText := true, laidKinds := [.data], laidTests := true, laidLooks := .later }
def BandsMasksUptoCardSaid : Prop := Claim7.holds Tryd.pinned (.plain (OpenSpec.upto bandsMasksSpec)) bandsMasksUptoCard

/-- THE SECOND FORM's CARD OF 'squelchlaw08.BandsSigns'. -/
def bandsSignsUptoCard : Claim7 := { stood := { row := bandsSignsUptoRow, standIns := [], harness := (true, "b056ddde881ed2e9a916e0dc386ad0c1459fc7b4c71e1eea92d9c54e2229f88d"), looks := false }, kinds := [], alts := [], laidByText := true, laidKinds := [.data], laidTests := true, laidLooks := .later }
def BandsSignsUptoCardSaid : Prop := Claim7.holds Tryd.pinned (.plain (OpenSpec.upto bandsSignsSpec)) bandsSignsUptoCard
end Rows
end Go.Proofs.YtplfcncibmgllaaDoor
