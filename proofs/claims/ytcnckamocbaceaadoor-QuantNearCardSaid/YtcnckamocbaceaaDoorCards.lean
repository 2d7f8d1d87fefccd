/-
  DERIVED. GIVEN WITH THE SEED: THE CARDS: each row of YtcnckamocbaceaaDoorRows.lean that lists a variable, with what it lists TIED to the program's text (the seventh form; the later family's looks); each row that meets fmt, with fmt's text TOLD by the authors' own Lean function (tested against real Go, not proved from fmt's source: count such statements apart). THE CARD IS WHAT COUNTS. Prove the row's statement (the work); the ties are given (YtcnckamocbaceaaDoorTie.lean); close each card by the builder's one call (the guide's Derived/Test/ToyasCard.lean, 'card_holds'). Laid BY PROGRAM, IN A SANDBOX (cutbox-door.mjs). By AI agents, Wed Nov 11 2026. No macro, syntax, notation, axiom, sorry.
-/
import Derived.Test.YtcnckamocbaceaaDoorRows
import GoSem.ClaimSeven
namespace Go.Proofs.YtcnckamocbaceaaDoor
namespace Rows

/-- THE TIED CARD OF 'squelchlaw09.QuantSteps'. -/
def quantStepsCard : Claim7 := { stood := { row := quantStepsRow, standIns := [], harness := (true, "89befefb703a80694f738f7544f2c562e3a4cb729a8651fc64d8633108b51c82"), looks := false }, kinds := [], alts := [], laidByText := true, laidKinds := [.data], laidTests := true, laidLooks := .later }
def QuantStepsCardSaid : Prop := Claim7.holds Tryd.pinned (.plain (OpenSpec.ofChange quantStepsSpec)) quantStepsCard

/-- THE TIED CARD OF 'squelchlaw09.QuantMakes'. -/
def quantMakesCard : Claim7 := { stood := { row := quantMakesRow, standIns := [], harness := (true, "89befefb703a80694f738f7544f2c562e3a4cb729a8651fc64d8633108b51c82"), looks := false }, kinds := [], alts := [], laidByText := true, laidKinds := [.data], laidTests := true, laidLooks := .later }
def QuantMakesCardSaid : Prop := Claim7.holds Tryd.pinned (.plain (OpenSpec.ofChange quantMakesSpec)) quantMakesCard

/-- THE TIED CARD OF 'squelchlaw09.QuantNear'. -/
def quantNearCard : Claim7 := { stood := { row := quantNearRow, standIns := [], harness := (true, "89befefb703a80694f738f7544f2c562e3a4cb729a8651fc64d8633108b51c82"), looks := false }, kinds := [], alts := [], laidByText := true, laidKinds := [.data], laidTests := true, laidLooks := .later }
def QuantNearCardSaid : Prop := Claim7.holds Tryd.pinned (.plain (OpenSpec.ofChange quantNearSpec)) quantNearCard

/-- THE TIED CARD OF 'squelchlaw09.QuantAgain'. -/
def quantAgainCard : Claim7 := { stood := { row := quantAgainRow, standIns := [], harness := (true, "89befefb703a80694f738f7544f2c562e3a4cb729a8651fc64d8633108b51c82"), looks := false }, kinds := [], alts := [], laidByText := true, laidKinds := [.data], laidTests := true, laidLooks := .later }
def QuantAgainCardSaid : Prop := Claim7.holds Tryd.pinned (.plain (OpenSpec.ofChange quantAgainSpec)) quantAgainCard

/-- THE TIED CARD OF 'squelchlaw09.QuantNoise'. -/
def quantNoiseCard : Claim7 := { stood := { row := quantNoiseRow, standIns := [], harness := (true, "89befefb703a80694f738f7544f2c562e3a4cb729a8651fc64d8633108b51c82"), looks := false }, kinds := [], alts := [], laidByText := true, laidKinds := [.data], laidTests := true, laidLooks := .later }
def QuantNoiseCardSaid : Prop := Claim7.holds Tryd.pinned (.plain (OpenSpec.ofChange quantNoiseSpec)) quantNoiseCard

/-- THE TIED CARD OF 'squelchlaw09.QuantReach'. -/
def quantReachCard : Claim7 := { stood := { row := quantReachRow, standIns := [], harness := (true, "89befefb703a80694f738f7544f2c562e3a4cb729a8651fc64d8633108b51c82"), looks := false }, kinds := [], alts := [], laidByText := true, laidKinds := [.data], laidTests := true, laidLooks := .later }
def QuantReachCardSaid : Prop := Claim7.holds Tryd.pinned (.plain (OpenSpec.ofChange quantReachSpec)) quantReachCard

/-- THE SECOND FORM's CARD OF 'squelchlaw09.QuantSteps'. -/
def quantStepsUptoCard : Claim7 := { stood := { row := quantStepsUptoRow, standIns := [], harness := (true, "89befefb703a80694f738f7544f2c562e3a4cb729a8651fc64d8633108b51c82"), looks := false }, kinds := [], alts := [], laidByText := true, laidKinds := [.data], laidTests := true, laidLooks := .later }
def QuantStepsUptoCardSaid : Prop := Claim7.holds Tryd.pinned (.plain (OpenSpec.upto quantStepsSpec)) quantStepsUptoCard

/-- THE SECOND FORM's CARD OF 'squelchlaw09.QuantMakes'. -/
def quantMakesUptoCard : Claim7 := { stood := { row := quantMakesUptoRow, standIns := [], harness := (true, "89befefb703a80694f738f7544f2c562e3a4cb729a8651fc64d8633108b51c82"), looks := false }, kinds := [], alts := [], laidByText := true, laidKinds := [.data], laidTests := true, laidLooks := .later }
def QuantMakesUptoCardSaid : Prop := Claim7.holds Tryd.pinned (.plain (OpenSpec.upto quantMakesSpec)) quantMakesUptoCard

/-- THE SECOND FORM's CARD OF 'squelchlaw09.QuantNear'. -/
def quantNearUptoCard : Claim7 := { stood := { row := quantNearUptoRow, standIns := [], harness := (true, "89befefb703a80694f738f7544f2c562e3a4cb729a8651fc64d8633108b51c82"), looks := false }, kinds := [], alts := [], laidByText := true, laidKinds := [.data], laidTests := true, laidLooks := .later }
def QuantNearUptoCardSaid : Prop := Claim7.holds Tryd.pinned (.plain (OpenSpec.upto quantNearSpec)) quantNearUptoCard

/-- THE SECOND FORM's CARD OF 'squelchlaw09.QuantAgain'. -/
def quantAgainUptoCard : Claim7 := { stood := { row := quantAgainUptoRow, standIns := [], harness := (true, "89befefb703a80694f738f7544f2c562e3a4cb729a8651fc64d8633108b51c82"), looks := false }, kinds := [], alts := [], laidByText := true, laidKinds := [.data], laidTests := true, laidLooks := .later }
def QuantAgainUptoCardSaid : Prop := Claim7.holds Tryd.pinned (.plain (OpenSpec.upto quantAgainSpec)) quantAgainUptoCard

/-- THE SECOND FORM's CARD OF 'squelchlaw09.QuantNoise'. -/
def quantNoiseUptoCard : Claim7 := { stood := { row := quantNoiseUptoRow, standIns := [], harness := (true, "89befefb703a80694f738f7544f2c562e3a4cb729a8651fc64d8633108b51c82"), looks := false }, kinds := [], alts := [], laidByText := true, laidKinds := [.data], laidTests := true, laidLooks := .later }
def QuantNoiseUptoCardSaid : Prop := Claim7.holds Tryd.pinned (.plain (OpenSpec.upto quantNoiseSpec)) quantNoiseUptoCard

/-- THE SECOND FORM's CARD OF 'squelchlaw09.QuantReach'. -/
def quantReachUptoCard : Claim7 := { stood := { row := quantReachUptoRow, standIns := [], harness := (true, "89befefb703a80694f738f7544f2c562e3a4cb729a8651fc64d8633108b51c82"), looks := false }, kinds := [], alts := [], laidByText := true, laidKinds := [.data], laidTests := true, laidLooks := .later }
def QuantReachUptoCardSaid : Prop := Claim7.holds Tryd.pinned (.plain (OpenSpec.upto quantReachSpec)) quantReachUptoCard
end Rows
end Go.Proofs.YtcnckamocbaceaaDoor
