/-
  DERIVED. GIVEN WITH THE SEED: THE CARDS: each row of YtnihhbfgbilimaaGreatDoorRows.lean that lists a variable, with what it lists TIED to the program's text (the seventh form; the later family's looks); each row that meets fmt, with fmt's text TOLD by the authors' own Lean function (tested against real Go, not proved from fmt's source: count such statements apart). THE CARD IS WHAT COUNTS. Prove the row's statement (the work); the ties are given (YtnihhbfgbilimaaGreatDoorTie.lean); close each card by the builder's one call (the guide's Derived/Test/ToyasCard.lean, 'card_holds'). Laid BY PROGRAM, IN A SANDBOX (cutbox-door.mjs). By AI agents, Wed Nov 11 2026. No macro, syntax, notation, axiom, sorry.
-/
import Derived.Test.YtnihhbfgbilimaaGreatDoorRows
import GoSem.ClaimSeven
namespace Go.Proofs.YtnihhbfgbilimaaGreatDoor
namespace Rows

/-- THE TIED CARD OF 'laws.FnRunRounds'. -/
def fnRunRoundsCard : Claim7 := { stood := { row := fnRunRoundsRow, standIns := [], harness := (true, "33db32af554c01014c5811439cd3c447b9c81a388ba4da58afe78103ca0122b8"), looks := true }, kinds := [], alts := [], laidByText := true, laidKinds := [.data], laidTests := true, laidLooks := .later }
def FnRunRoundsCardSaid : Prop := Claim7.holds Tryz.pinned (.plain (OpenSpec.ofChange fnRunRoundsSpec)) fnRunRoundsCard

/-- THE TIED CARD OF 'laws.FnExactAskAll'. -/
def fnExactAskAllCard : Claim7 := { stood := { row := fnExactAskAllRow, standIns := [], harness := (true, "33db32af554c01014c5811439cd3c447b9c81a388ba4da58afe78103ca0122b8"), looks := true }, kinds := [], alts := [], laidByText := true, laidKinds := [.data], laidTests := true, laidLooks := .later }
def FnExactAskAllCardSaid : Prop := Claim7.holds Tryz.pinned (.plain (OpenSpec.ofChange fnExactAskAllSpec)) fnExactAskAllCard

/-- THE TIED CARD OF 'laws.FnExactAskOne'. -/
def fnExactAskOneCard : Claim7 := { stood := { row := fnExactAskOneRow, standIns := [], harness := (true, "33db32af554c01014c5811439cd3c447b9c81a388ba4da58afe78103ca0122b8"), looks := true }, kinds := [], alts := [], laidByText := true, laidKinds := [.data], laidTests := true, laidLooks := .later }
def FnExactAskOneCardSaid : Prop := Claim7.holds Tryz.pinned (.plain (OpenSpec.ofChange fnExactAskOneSpec)) fnExactAskOneCard

/-- THE TIED CARD OF 'laws.FnExactAskSteps'. -/
def fnExactAskStepsCard : Claim7 := { stood := { row := fnExactAskStepsRow, standIns := [], harness := (true, "33db32af554c01014c5811439cd3c447b9c81a388ba4da58afe78103ca0122b8"), looks := true }, kinds := [], alts := [], laidByText := true, laidKinds := [.data], laidTests := true, laidLooks := .later }
def FnExactAskStepsCardSaid : Prop := Claim7.holds Tryz.pinned (.plain (OpenSpec.ofChange fnExactAskStepsSpec)) fnExactAskStepsCard

/-- THE TIED CARD OF 'laws.FnExactClockOpen'. -/
def fnExactClockOpenCard : Claim7 := { stood := { row := fnExactClockOpenRow, standIns := [], harness := (true, "33db32af554c01014c5811439cd3c447b9c81a388ba4da58afe78103ca0122b8"), looks := true }, kinds := [], alts := [], laidByText := true, laidKinds := [.data], laidTests := true, laidLooks := .later }
def FnExactClockOpenCardSaid : Prop := Claim7.holds Tryz.pinned (.plain (OpenSpec.ofChange fnExactClockOpenSpec)) fnExactClockOpenCard

/-- THE TIED CARD OF 'laws.FnExactClockRound'. -/
def fnExactClockRoundCard : Claim7 := { stood := { row := fnExactClockRoundRow, standIns := [], harness := (true, "33db32af554c01014c5811439cd3c447b9c81a388ba4da58afe78103ca0122b8"), looks := true }, kinds := [], alts := [], laidByText := true, laidKinds := [.data], laidTests := true, laidLooks := .later }
def FnExactClockRoundCardSaid : Prop := Claim7.holds Tryz.pinned (.plain (OpenSpec.ofChange fnExactClockRoundSpec)) fnExactClockRoundCard

/-- THE TIED CARD OF 'laws.FnExactClockRun'. -/
def fnExactClockRunCard : Claim7 := { stood := { row := fnExactClockRunRow, standIns := [], harness := (true, "33db32af554c01014c5811439cd3c447b9c81a388ba4da58afe78103ca0122b8"), looks := true }, kinds := [], alts := [], laidByText := true, laidKinds := [.data], laidTests := true, laidLooks := .later }
def FnExactClockRunCardSaid : Prop := Claim7.holds Tryz.pinned (.plain (OpenSpec.ofChange fnExactClockRunSpec)) fnExactClockRunCard

/-- THE SECOND FORM's CARD OF 'laws.FnRunRounds'. -/
def fnRunRoundsUptoCard : Claim7 := { stood := { row := fnRunRoundsUptoRow, standIns := [], harness := (true, "33db32af554c01014c5811439cd3c447b9c81a388ba4da58afe78103ca0122b8"), looks := true }, kinds := [], alts := [], laidByText := true, laidKinds := [.data], laidTests := true, laidLooks := .later }
def FnRunRoundsUptoCardSaid : Prop := Claim7.holds Tryz.pinned (.plain (OpenSpec.upto fnRunRoundsSpec)) fnRunRoundsUptoCard

/-- THE SECOND FORM's CARD OF 'laws.FnExactAskAll'. -/
def fnExactAskAllUptoCard : Claim7 := { stood := { row := fnExactAskAllUptoRow, standIns := [], harness := (true, "33db32af554c01014c5811439cd3c447b9c81a388ba4da58afe78103ca0122b8"), looks := true }, kinds := [], alts := [], laidByText := true, laidKinds := [.data], laidTests := true, laidLooks := .later }
def FnExactAskAllUptoCardSaid : Prop := Claim7.holds Tryz.pinned (.plain (OpenSpec.upto fnExactAskAllSpec)) fnExactAskAllUptoCard

/-- THE SECOND FORM's CARD OF 'laws.FnExactAskOne'. -/
def fnExactAskOneUptoCard : Claim7 := { stood := { row := fnExactAskOneUptoRow, standIns := [], harness := (true, "33db32af554c01014c5811439cd3c447b9c81a388ba4da58afe78103ca0122b8"), looks := true }, kinds := [], alts := [], laidByText := true, laidKinds := [.data], laidTests := true, laidLooks := .later }
def FnExactAskOneUptoCardSaid : Prop := Claim7.holds Tryz.pinned (.plain (OpenSpec.upto fnExactAskOneSpec)) fnExactAskOneUptoCard

/-- THE SECOND FORM's CARD OF 'laws.FnExactAskSteps'. -/
def fnExactAskStepsUptoCard : Claim7 := { stood := { row := fnExactAskStepsUptoRow, standIns := [], harness := (true, "33db32af554c01014c5811439cd3c447b9c81a388ba4da58afe78103ca0122b8"), looks := true }, kinds := [], alts := [], laidByText := true, laidKinds := [.data], laidTests := true, laidLooks := .later }
def FnExactAskStepsUptoCardSaid : Prop := Claim7.holds Tryz.pinned (.plain (OpenSpec.upto fnExactAskStepsSpec)) fnExactAskStepsUptoCard

/-- THE SECOND FORM's CARD OF 'laws.FnExactClockOpen'. -/
def fnExactClockOpenUptoCard : Claim7 := { stood := { row := fnExactClockOpenUptoRow, standIns := [], harness := (true, "33db32af554c01014c5811439cd3c447b9c81a388ba4da58afe78103ca0122b8"), looks := true }, kinds := [], alts := [], laidByText := true, laidKinds := [.data], laidTests := true, laidLooks := .later }
def FnExactClockOpenUptoCardSaid : Prop := Claim7.holds Tryz.pinned (.plain (OpenSpec.upto fnExactClockOpenSpec)) fnExactClockOpenUptoCard

/-- THE SECOND FORM's CARD OF 'laws.FnExactClockRound'. -/
def fnExactClockRoundUptoCard : Claim7 := { stood := { row := fnExactClockRoundUptoRow, standIns := [], harness := (true, "33db32af554c01014c5811439cd3c447b9c81a388ba4da58afe78103ca0122b8"), looks := true }, kinds := [], alts := [], laidByText := true, laidKinds := [.data], laidTests := true, laidLooks := .later }
def FnExactClockRoundUptoCardSaid : Prop := Claim7.holds Tryz.pinned (.plain (OpenSpec.upto fnExactClockRoundSpec)) fnExactClockRoundUptoCard

/-- THE SECOND FORM's CARD OF 'laws.FnExactClockRun'. -/
def fnExactClockRunUptoCard : Claim7 := { stood := { row := fnExactClockRunUptoRow, standIns := [], harness := (true, "33db32af554c01014c5811439cd3c447b9c81a388ba4da58afe78103ca0122b8"), looks := true }, kinds := [], alts := [], laidByText := true, laidKinds := [.data], laidTests := true, laidLooks := .later }
def FnExactClockRunUptoCardSaid : Prop := Claim7.holds Tryz.pinned (.plain (OpenSpec.upto fnExactClockRunSpec)) fnExactClockRunUptoCard
end Rows
end Go.Proofs.YtnihhbfgbilimaaGreatDoor
