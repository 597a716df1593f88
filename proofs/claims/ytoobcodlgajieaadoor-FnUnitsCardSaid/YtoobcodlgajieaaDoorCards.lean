/-
  DERIVED. GIVEN WITH THE SEED: THE CARDS: each row of YtoobcodlgajieaaDoorRows.lean that lists a variable, with what it lists TIED to the program's text (the seventh form; the later family's looks); each row that meets fmt, with fmt's text TOLD by the authors' own Lean function (tested against real Go, not proved from fmt's source: count such statements apart). THE CARD IS WHAT COUNTS. Prove the row's statement (the work); the ties are given (YtoobcodlgajieaaDoorTie.lean); close each card by the builder's one call (the guide's Derived/Test/ToyasCard.lean, 'card_holds'). Laid BY PROGRAM, IN A SANDBOX (cutbox-door.mjs). By AI agents, Wed Nov 11 2026. No macro, syntax, notation, axiom, sorry.
-/
import Derived.Test.YtoobcodlgajieaaDoorRows
import GoSem.ClaimSeven
namespace Go.Proofs.YtoobcodlgajieaaDoor
namespace Rows

/-- THE TIED CARD OF 'laws.FnUnits'. -/
def fnUnitsCard : Claim7 := { stood := { row := fnUnitsRow, standIns := [], harness := (true, "0b191c0665b9c11da3113d90f22aa8da6dde20dd158a7972845023676366a5b8"), looks := false }, kinds := [], alts := [], laidByText := true, laidKinds := [.data], laidTests := true, laidLooks := .later }
def FnUnitsCardSaid : Prop := Claim7.holds Tryd.pinned (.plain (OpenSpec.ofChange fnUnitsSpec)) fnUnitsCard

/-- THE TIED CARD OF 'laws.FnBudget'. -/
def fnBudgetCard : Claim7 := { stood := { row := fnBudgetRow, standIns := [], harness := (true, "0b191c0665b9c11da3113d90f22aa8da6dde20dd158a7972845023676366a5b8"), looks := false }, kinds := [], alts := [], laidByText := true, laidKinds := [.data], laidTests := true, laidLooks := .later }
def FnBudgetCardSaid : Prop := Claim7.holds Tryd.pinned (.plain (OpenSpec.ofChange fnBudgetSpec)) fnBudgetCard

/-- THE TIED CARD OF 'laws.FnExactUnitRun'. -/
def fnExactUnitRunCard : Claim7 := { stood := { row := fnExactUnitRunRow, standIns := [], harness := (true, "0b191c0665b9c11da3113d90f22aa8da6dde20dd158a7972845023676366a5b8"), looks := false }, kinds := [], alts := [], laidByText := true, laidKinds := [.data], laidTests := true, laidLooks := .later }
def FnExactUnitRunCardSaid : Prop := Claim7.holds Tryd.pinned (.plain (OpenSpec.ofChange fnExactUnitRunSpec)) fnExactUnitRunCard

/-- THE TIED CARD OF 'laws.FnExactSolve'. -/
def fnExactSolveCard : Claim7 := { stood := { row := fnExactSolveRow, standIns := [], harness := (true, "0b191c0665b9c11da3113d90f22aa8da6dde20dd158a7972845023676366a5b8"), looks := false }, kinds := [], alts := [], laidByText := true, laidKinds := [.data], laidTests := true, laidLooks := .later }
def FnExactSolveCardSaid : Prop := Claim7.holds Tryd.pinned (.plain (OpenSpec.ofChange fnExactSolveSpec)) fnExactSolveCard

/-- THE TIED CARD OF 'laws.FnExactSolveCount'. -/
def fnExactSolveCountCard : Claim7 := { stood := { row := fnExactSolveCountRow, standIns := [], harness := (true, "0b191c0665b9c11da3113d90f22aa8da6dde20dd158a7972845023676366a5b8"), looks := false }, kinds := [], alts := [], laidByText := true, laidKinds := [.data], laidTests := true, laidLooks := .later }
def FnExactSolveCountCardSaid : Prop := Claim7.holds Tryd.pinned (.plain (OpenSpec.ofChange fnExactSolveCountSpec)) fnExactSolveCountCard

/-- THE TIED CARD OF 'laws.FnExactLemmaRight'. -/
def fnExactLemmaRightCard : Claim7 := { stood := { row := fnExactLemmaRightRow, standIns := [], harness := (true, "0b191c0665b9c11da3113d90f22aa8da6dde20dd158a7972845023676366a5b8"), looks := false }, kinds := [], alts := [], laidByText := true, laidKinds := [.data], laidTests := true, laidLooks := .later }
def FnExactLemmaRightCardSaid : Prop := Claim7.holds Tryd.pinned (.plain (OpenSpec.ofChange fnExactLemmaRightSpec)) fnExactLemmaRightCard

/-- THE SECOND FORM's CARD OF 'laws.FnUnits'. -/
def fnUnitsUptoCard : Claim7 := { stood := { row := fnUnitsUptoRow, standIns := [], harness := (true, "0b191c0665b9c11da3113d90f22aa8da6dde20dd158a7972845023676366a5b8"), looks := false }, kinds := [], alts := [], laidByText := true, laidKinds := [.data], laidTests := true, laidLooks := .later }
def FnUnitsUptoCardSaid : Prop := Claim7.holds Tryd.pinned (.plain (OpenSpec.upto fnUnitsSpec)) fnUnitsUptoCard

/-- THE SECOND FORM's CARD OF 'laws.FnBudget'. -/
def fnBudgetUptoCard : Claim7 := { stood := { row := fnBudgetUptoRow, standIns := [], harness := (true, "0b191c0665b9c11da3113d90f22aa8da6dde20dd158a7972845023676366a5b8"), looks := false }, kinds := [], alts := [], laidByText := true, laidKinds := [.data], laidTests := true, laidLooks := .later }
def FnBudgetUptoCardSaid : Prop := Claim7.holds Tryd.pinned (.plain (OpenSpec.upto fnBudgetSpec)) fnBudgetUptoCard

/-- THE SECOND FORM's CARD OF 'laws.FnExactUnitRun'. -/
def fnExactUnitRunUptoCard : Claim7 := { stood := { row := fnExactUnitRunUptoRow, standIns := [], harness := (true, "0b191c0665b9c11da3113d90f22aa8da6dde20dd158a7972845023676366a5b8"), looks := false }, kinds := [], alts := [], laidByText := true, laidKinds := [.data], laidTests := true, laidLooks := .later }
def FnExactUnitRunUptoCardSaid : Prop := Claim7.holds Tryd.pinned (.plain (OpenSpec.upto fnExactUnitRunSpec)) fnExactUnitRunUptoCard

/-- THE SECOND FORM's CARD OF 'laws.FnExactSolve'. -/
def fnExactSolveUptoCard : Claim7 := { stood := { row := fnExactSolveUptoRow, standIns := [], harness := (true, "0b191c0665b9c11da3113d90f22aa8da6dde20dd158a7972845023676366a5b8"), looks := false }, kinds := [], alts := [], laidByText := true, laidKinds := [.data], laidTests := true, laidLooks := .later }
def FnExactSolveUptoCardSaid : Prop := Claim7.holds Tryd.pinned (.plain (OpenSpec.upto fnExactSolveSpec)) fnExactSolveUptoCard

/-- THE SECOND FORM's CARD OF 'laws.FnExactSolveCount'. -/
def fnExactSolveCountUptoCard : Claim7 := { stood := { row := fnExactSolveCountUptoRow, standIns := [], harness := (true, "0b191c0665b9c11da3113d90f22aa8da6dde20dd158a7972845023676366a5b8"), looks := false }, kinds := [], alts := [], laidByText := true, laidKinds := [.data], laidTests := true, laidLooks := .later }
def FnExactSolveCountUptoCardSaid : Prop := Claim7.holds Tryd.pinned (.plain (OpenSpec.upto fnExactSolveCountSpec)) fnExactSolveCountUptoCard

/-- THE SECOND FORM's CARD OF 'laws.FnExactLemmaRight'. -/
def fnExactLemmaRightUptoCard : Claim7 := { stood := { row := fnExactLemmaRightUptoRow, standIns := [], harness := (true, "0b191c0665b9c11da3113d90f22aa8da6dde20dd158a7972845023676366a5b8"), looks := false }, kinds := [], alts := [], laidByText := true, laidKinds := [.data], laidTests := true, laidLooks := .later }
def FnExactLemmaRightUptoCardSaid : Prop := Claim7.holds Tryd.pinned (.plain (OpenSpec.upto fnExactLemmaRightSpec)) fnExactLemmaRightUptoCard
end Rows
end Go.Proofs.YtoobcodlgajieaaDoor
