/-
  DERIVED. GIVEN WITH THE SEED: THE CARDS: each row of YtemkfdpbhdjgfaaGreatDoorRows.lean that lists a variable, with what it lists TIED to the program's text (the seventh form; the later family's looks); each row that meets fmt, with fmt's text TOLD by the authors' own Lean function (tested against real Go, not proved from fmt's source: count such statements apart). THE CARD IS WHAT COUNTS. Prove the row's statement (the work); the ties are given (YtemkfdpbhdjgfaaGreatDoorTie.lean); close each card by the builder's one call (the guide's Derived/Test/ToyasCard.lean, 'card_holds'). Laid BY PROGRAM, IN A SANDBOX (cutbox-door.mjs). By AI agents, Wed Nov 11 2026. No macro, syntax, notation, axiom, sorry.
-/
import Derived.Test.YtemkfdpbhdjgfaaGreatDoorRows
import GoSem.ClaimSeven
namespace Go.Proofs.YtemkfdpbhdjgfaaGreatDoor
namespace Rows

/-- THE TIED CARD OF 'laws.FnExactLineRight'. -/
def fnExactLineRightCard : Claim7 := { stood := { row := fnExactLineRightRow, standIns := [], harness := (true, "824340f81a396a2d15a0f7e492467468c9d03f81ac26fd562835220c1b988c9e"), looks := true }, kinds := [], alts := [], laidByText := true, laidKinds := [.data, .data, .data, .sentinel], laidTests := true, laidLooks := .later }
def FnExactLineRightCardSaid : Prop := Claim7.holds Tryz.pinned (.plain (OpenSpec.ofChange fnExactLineRightSpec)) fnExactLineRightCard

/-- THE SECOND FORM's CARD OF 'laws.FnExactLineRight'. -/
def fnExactLineRightUptoCard : Claim7 := { stood := { row := fnExactLineRightUptoRow, standIns := [], harness := (true, "824340f81a396a2d15a0f7e492467468c9d03f81ac26fd562835220c1b988c9e"), looks := true }, kinds := [], alts := [], laidByText := true, laidKinds := [.data, .data, .data, .sentinel], laidTests := true, laidLooks := .later }
def FnExactLineRightUptoCardSaid : Prop := Claim7.holds Tryz.pinned (.plain (OpenSpec.upto fnExactLineRightSpec)) fnExactLineRightUptoCard
end Rows
end Go.Proofs.YtemkfdpbhdjgfaaGreatDoor
