/-
  DERIVED. GIVEN WITH THE SEED: THE CARDS: each row of YtanoklpffenljaaGreatDoorRows.lean that lists a variable, with what it lists TIED to the program's text (the seventh form; the later family's looks); each row that meets fmt, with fmt's text TOLD by the authors' own Lean function (tested against real Go, not proved from fmt's source: count such statements apart). THE CARD IS WHAT COUNTS. Prove the row's statement (the work); the ties are given (YtanoklpffenljaaGreatDoorTie.lean); close each card by the builder's one call (the guide's Derived/Test/ToyasCard.lean, 'card_holds'). Laid BY PROGRAM, IN A SANDBOX (cutbox-door.mjs). By AI agents, Wed Nov 11 2026. No macro, syntax, notation, axiom, sorry.
-/
import Derived.Test.YtanoklpffenljaaGreatDoorRows
import GoSem.ClaimSeven
namespace Go.Proofs.YtanoklpffenljaaGreatDoor
namespace Rows

/-- THE TIED CARD OF 'laws.FnExactBidsText'. -/
def fnExactBidsTextCard : Claim7 := { stood := { row := fnExactBidsTextRow, standIns := [], harness := (true, "80300201b6b8b33aee651ba48be12389bc25f273491303c5c45a57b5e2ab56da"), looks := true }, kinds := [], alts := [], laidByText := true, laidKinds := [.data, .data, .data], laidTests := true, laidLooks := .later }
def FnExactBidsTextCardSaid : Prop := Claim7.holds Tryz.pinned (.plain (OpenSpec.ofChange fnExactBidsTextSpec)) fnExactBidsTextCard

/-- THE TIED CARD OF 'laws.FnExactPaysText'. -/
def fnExactPaysTextCard : Claim7 := { stood := { row := fnExactPaysTextRow, standIns := [], harness := (true, "80300201b6b8b33aee651ba48be12389bc25f273491303c5c45a57b5e2ab56da"), looks := true }, kinds := [], alts := [], laidByText := true, laidKinds := [.data, .data, .data], laidTests := true, laidLooks := .later }
def FnExactPaysTextCardSaid : Prop := Claim7.holds Tryz.pinned (.plain (OpenSpec.ofChange fnExactPaysTextSpec)) fnExactPaysTextCard

/-- THE TIED CARD OF 'laws.FnExactStageText'. -/
def fnExactStageTextCard : Claim7 := { stood := { row := fnExactStageTextRow, standIns := [], harness := (true, "80300201b6b8b33aee651ba48be12389bc25f273491303c5c45a57b5e2ab56da"), looks := true }, kinds := [], alts := [], laidByText := true, laidKinds := [.data, .data, .data], laidTests := true, laidLooks := .later }
def FnExactStageTextCardSaid : Prop := Claim7.holds Tryz.pinned (.plain (OpenSpec.ofChange fnExactStageTextSpec)) fnExactStageTextCard

/-- THE SECOND FORM's CARD OF 'laws.FnExactBidsText'. -/
def fnExactBidsTextUptoCard : Claim7 := { stood := { row := fnExactBidsTextUptoRow, standIns := [], harness := (true, "80300201b6b8b33aee651ba48be12389bc25f273491303c5c45a57b5e2ab56da"), looks := true }, kinds := [], alts := [], laidByText := true, laidKinds := [.data, .data, .data], laidTests := true, laidLooks := .later }
def FnExactBidsTextUptoCardSaid : Prop := Claim7.holds Tryz.pinned (.plain (OpenSpec.upto fnExactBidsTextSpec)) fnExactBidsTextUptoCard

/-- THE SECOND FORM's CARD OF 'laws.FnExactPaysText'. -/
def fnExactPaysTextUptoCard : Claim7 := { stood := { row := fnExactPaysTextUptoRow, standIns := [], harness := (true, "80300201b6b8b33aee651ba48be12389bc25f273491303c5c45a57b5e2ab56da"), looks := true }, kinds := [], alts := [], laidByText := true, laidKinds := [.data, .data, .data], laidTests := true, laidLooks := .later }
def FnExactPaysTextUptoCardSaid : Prop := Claim7.holds Tryz.pinned (.plain (OpenSpec.upto fnExactPaysTextSpec)) fnExactPaysTextUptoCard

/-- THE SECOND FORM's CARD OF 'laws.FnExactStageText'. -/
def fnExactStageTextUptoCard : Claim7 := { stood := { row := fnExactStageTextUptoRow, standIns := [], harness := (true, "80300201b6b8b33aee651ba48be12389bc25f273491303c5c45a57b5e2ab56da"), looks := true }, kinds := [], alts := [], laidByText := true, laidKinds := [.data, .data, .data], laidTests := true, laidLooks := .later }
def FnExactStageTextUptoCardSaid : Prop := Claim7.holds Tryz.pinned (.plain (OpenSpec.upto fnExactStageTextSpec)) fnExactStageTextUptoCard
end Rows
end Go.Proofs.YtanoklpffenljaaGreatDoor
