/-
  DERIVED. GIVEN WITH THE SEED: THE CARDS: each row of YtoncpiaboceefaaDoorRows.lean that lists a variable, with what it lists TIED to the program's text (the seventh form; the later family's looks); each row that meets fmt, with fmt's text TOLD by the authors' own Lean function (tested against real Go, not proved from fmt's source: count such statements apart). THE CARD IS WHAT COUNTS. Prove the row's statement (the work); the ties are given (YtoncpiaboceefaaDoorTie.lean); close each card by the builder's one call (the guide's Derived/Test/ToyasCard.lean, 'card_holds'). Laid BY PROGRAM, IN A SANDBOX (cutbox-door.mjs). By AI agents, Wed Nov 11 2026. No macro, syntax, notation, axiom, sorry.
-/
import Derived.Test.YtoncpiaboceefaaDoorRows
import GoSem.ClaimSeven
namespace Go.Proofs.YtoncpiaboceefaaDoor
namespace Rows

/-- THE TIED CARD OF 'laws.FnLemmasText'. -/
def fnLemmasTextCard : Claim7 := { stood := { row := fnLemmasTextRow, standIns := [], harness := (true, "92b4b6b444c8e0505bc5d8453fc0b52570b7bd21169380295c9dfd7a3878b196"), looks := true }, kinds := [], alts := [], laidByText := true, laidKinds := [.data, .data, .data, .handle], laidTests := true, laidLooks := .later }
def FnLemmasTextCardSaid : Prop := Claim7.holds Tryd.pinned (.plain (OpenSpec.ofChange fnLemmasTextSpec)) fnLemmasTextCard

/-- THE TIED CARD OF 'laws.FnExactTableText'. -/
def fnExactTableTextCard : Claim7 := { stood := { row := fnExactTableTextRow, standIns := [], harness := (true, "92b4b6b444c8e0505bc5d8453fc0b52570b7bd21169380295c9dfd7a3878b196"), looks := true }, kinds := [], alts := [], laidByText := true, laidKinds := [.data, .data, .data], laidTests := true, laidLooks := .later }
def FnExactTableTextCardSaid : Prop := Claim7.holds Tryd.pinned (.plain (OpenSpec.ofChange fnExactTableTextSpec)) fnExactTableTextCard

/-- THE TIED CARD OF 'laws.FnExactTableRead'. -/
def fnExactTableReadCard : Claim7 := { stood := { row := fnExactTableReadRow, standIns := [], harness := (true, "92b4b6b444c8e0505bc5d8453fc0b52570b7bd21169380295c9dfd7a3878b196"), looks := true }, kinds := [], alts := [], laidByText := true, laidKinds := [.data, .data, .data, .data, .pinned], laidTests := true, laidLooks := .later }
def FnExactTableReadCardSaid : Prop := Claim7.holds Tryd.pinned (.plain (OpenSpec.ofChange fnExactTableReadSpec)) fnExactTableReadCard

/-- THE TIED CARD OF 'laws.FnExactCnfText'. -/
def fnExactCnfTextCard : Claim7 := { stood := { row := fnExactCnfTextRow, standIns := [], harness := (true, "92b4b6b444c8e0505bc5d8453fc0b52570b7bd21169380295c9dfd7a3878b196"), looks := true }, kinds := [], alts := [], laidByText := true, laidKinds := [.data, .data, .data], laidTests := true, laidLooks := .later }
def FnExactCnfTextCardSaid : Prop := Claim7.holds Tryd.pinned (.plain (OpenSpec.ofChange fnExactCnfTextSpec)) fnExactCnfTextCard

/-- THE TIED CARD OF 'laws.FnExactCnfRead'. -/
def fnExactCnfReadCard : Claim7 := { stood := { row := fnExactCnfReadRow, standIns := [], harness := (true, "92b4b6b444c8e0505bc5d8453fc0b52570b7bd21169380295c9dfd7a3878b196"), looks := true }, kinds := [], alts := [], laidByText := true, laidKinds := [.handle], laidTests := true, laidLooks := .later }
def FnExactCnfReadCardSaid : Prop := Claim7.holds Tryd.pinned (.plain (OpenSpec.ofChange fnExactCnfReadSpec)) fnExactCnfReadCard

/-- THE TIED CARD OF 'laws.FnExactLemmasText'. -/
def fnExactLemmasTextCard : Claim7 := { stood := { row := fnExactLemmasTextRow, standIns := [], harness := (true, "92b4b6b444c8e0505bc5d8453fc0b52570b7bd21169380295c9dfd7a3878b196"), looks := true }, kinds := [], alts := [], laidByText := true, laidKinds := [.data, .data, .data], laidTests := true, laidLooks := .later }
def FnExactLemmasTextCardSaid : Prop := Claim7.holds Tryd.pinned (.plain (OpenSpec.ofChange fnExactLemmasTextSpec)) fnExactLemmasTextCard

/-- THE TIED CARD OF 'laws.FnExactLemmasRead'. -/
def fnExactLemmasReadCard : Claim7 := { stood := { row := fnExactLemmasReadRow, standIns := [], harness := (true, "92b4b6b444c8e0505bc5d8453fc0b52570b7bd21169380295c9dfd7a3878b196"), looks := true }, kinds := [], alts := [], laidByText := true, laidKinds := [.handle], laidTests := true, laidLooks := .later }
def FnExactLemmasReadCardSaid : Prop := Claim7.holds Tryd.pinned (.plain (OpenSpec.ofChange fnExactLemmasReadSpec)) fnExactLemmasReadCard

/-- THE SECOND FORM's CARD OF 'laws.FnLemmasText'. -/
def fnLemmasTextUptoCard : Claim7 := { stood := { row := fnLemmasTextUptoRow, standIns := [], harness := (true, "92b4b6b444c8e0505bc5d8453fc0b52570b7bd21169380295c9dfd7a3878b196"), looks := true }, kinds := [], alts := [], laidByText := true, laidKinds := [.data, .data, .data, .handle], laidTests := true, laidLooks := .later }
def FnLemmasTextUptoCardSaid : Prop := Claim7.holds Tryd.pinned (.plain (OpenSpec.upto fnLemmasTextSpec)) fnLemmasTextUptoCard

/-- THE SECOND FORM's CARD OF 'laws.FnExactTableText'. -/
def fnExactTableTextUptoCard : Claim7 := { stood := { row := fnExactTableTextUptoRow, standIns := [], harness := (true, "92b4b6b444c8e0505bc5d8453fc0b52570b7bd21169380295c9dfd7a3878b196"), looks := true }, kinds := [], alts := [], laidByText := true, laidKinds := [.data, .data, .data], laidTests := true, laidLooks := .later }
def FnExactTableTextUptoCardSaid : Prop := Claim7.holds Tryd.pinned (.plain (OpenSpec.upto fnExactTableTextSpec)) fnExactTableTextUptoCard

/-- THE SECOND FORM's CARD OF 'laws.FnExactTableRead'. -/
def fnExactTableReadUptoCard : Claim7 := { stood := { row := fnExactTableReadUptoRow, standIns := [], harness := (true, "92b4b6b444c8e0505bc5d8453fc0b52570b7bd21169380295c9dfd7a3878b196"), looks := true }, kinds := [], alts := [], laidByText := true, laidKinds := [.data, .data, .data, .data, .pinned], laidTests := true, laidLooks := .later }
def FnExactTableReadUptoCardSaid : Prop := Claim7.holds Tryd.pinned (.plain (OpenSpec.upto fnExactTableReadSpec)) fnExactTableReadUptoCard

/-- THE SECOND FORM's CARD OF 'laws.FnExactCnfText'. -/
def fnExactCnfTextUptoCard : Claim7 := { stood := { row := fnExactCnfTextUptoRow, standIns := [], harness := (true, "92b4b6b444c8e0505bc5d8453fc0b52570b7bd21169380295c9dfd7a3878b196"), looks := true }, kinds := [], alts := [], laidByText := true, laidKinds := [.data, .data, .data], laidTests := true, laidLooks := .later }
def FnExactCnfTextUptoCardSaid : Prop := Claim7.holds Tryd.pinned (.plain (OpenSpec.upto fnExactCnfTextSpec)) fnExactCnfTextUptoCard

/-- THE SECOND FORM's CARD OF 'laws.FnExactCnfRead'. -/
def fnExactCnfReadUptoCard : Claim7 := { stood := { row := fnExactCnfReadUptoRow, standIns := [], harness := (true, "92b4b6b444c8e0505bc5d8453fc0b52570b7bd21169380295c9dfd7a3878b196"), looks := true }, kinds := [], alts := [], laidByText := true, laidKinds := [.handle], laidTests := true, laidLooks := .later }
def FnExactCnfReadUptoCardSaid : Prop := Claim7.holds Tryd.pinned (.plain (OpenSpec.upto fnExactCnfReadSpec)) fnExactCnfReadUptoCard

/-- THE SECOND FORM's CARD OF 'laws.FnExactLemmasText'. -/
def fnExactLemmasTextUptoCard : Claim7 := { stood := { row := fnExactLemmasTextUptoRow, standIns := [], harness := (true, "92b4b6b444c8e0505bc5d8453fc0b52570b7bd21169380295c9dfd7a3878b196"), looks := true }, kinds := [], alts := [], laidByText := true, laidKinds := [.data, .data, .data], laidTests := true, laidLooks := .later }
def FnExactLemmasTextUptoCardSaid : Prop := Claim7.holds Tryd.pinned (.plain (OpenSpec.upto fnExactLemmasTextSpec)) fnExactLemmasTextUptoCard

/-- THE SECOND FORM's CARD OF 'laws.FnExactLemmasRead'. -/
def fnExactLemmasReadUptoCard : Claim7 := { stood := { row := fnExactLemmasReadUptoRow, standIns := [], harness := (true, "92b4b6b444c8e0505bc5d8453fc0b52570b7bd21169380295c9dfd7a3878b196"), looks := true }, kinds := [], alts := [], laidByText := true, laidKinds := [.handle], laidTests := true, laidLooks := .later }
def FnExactLemmasReadUptoCardSaid : Prop := Claim7.holds Tryd.pinned (.plain (OpenSpec.upto fnExactLemmasReadSpec)) fnExactLemmasReadUptoCard
end Rows
end Go.Proofs.YtoncpiaboceefaaDoor
