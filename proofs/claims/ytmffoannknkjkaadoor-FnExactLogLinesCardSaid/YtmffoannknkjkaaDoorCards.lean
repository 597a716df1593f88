/-
  DERIVED. GIVEN WITH THE SEED: THE CARDS: each row of YtmffoannknkjkaaDoorRows.lean that lists a variable, with what it lists TIED to the program's text (the seventh form; the later family's looks); each row that meets fmt, with fmt's text TOLD by the authors' own Lean function (tested against real Go, not proved from fmt's source: count such statements apart). THE CARD IS WHAT COUNTS. Prove the row's statement (the work); the ties are given (YtmffoannknkjkaaDoorTie.lean); close each card by the builder's one call (the guide's Derived/Test/ToyasCard.lean, 'card_holds'). Laid BY PROGRAM, IN A SANDBOX (cutbox-door.mjs). By AI agents, Wed Nov 11 2026. No macro, syntax, notation, axiom, sorry.
-/
import Derived.Test.YtmffoannknkjkaaDoorRows
import GoSem.ClaimSeven
namespace Go.Proofs.YtmffoannknkjkaaDoor
namespace Rows

/-- THE TIED CARD OF 'laws.FnExactLogLines'. -/
def fnExactLogLinesCard : Claim7 := { stood := { row := fnExactLogLinesRow, standIns := [], harness := (true, "9b60d673cc4c2655be1b3b3766a90e72f1b4156b4a9c0be798c2373bd55ede77"), looks := false }, kinds := [], alts := [], laidByText := true, laidKinds := [.data, .pinned], laidTests := true, laidLooks := .later }
def FnExactLogLinesCardSaid : Prop := Claim7.holds Tryd.pinned (.plain (OpenSpec.ofChange fnExactLogLinesSpec)) fnExactLogLinesCard

/-- THE TIED CARD OF 'laws.FnExactLogOpen'. -/
def fnExactLogOpenCard : Claim7 := { stood := { row := fnExactLogOpenRow, standIns := [], harness := (true, "9b60d673cc4c2655be1b3b3766a90e72f1b4156b4a9c0be798c2373bd55ede77"), looks := false }, kinds := [], alts := [], laidByText := true, laidKinds := [.data, .pinned], laidTests := true, laidLooks := .later }
def FnExactLogOpenCardSaid : Prop := Claim7.holds Tryd.pinned (.plain (OpenSpec.ofChange fnExactLogOpenSpec)) fnExactLogOpenCard

/-- THE SECOND FORM's CARD OF 'laws.FnExactLogLines'. -/
def fnExactLogLinesUptoCard : Claim7 := { stood := { row := fnExactLogLinesUptoRow, standIns := [], harness := (true, "9b60d673cc4c2655be1b3b3766a90e72f1b4156b4a9c0be798c2373bd55ede77"), looks := false }, kinds := [], alts := [], laidByText := true, laidKinds := [.data, .pinned], laidTests := true, laidLooks := .later }
def FnExactLogLinesUptoCardSaid : Prop := Claim7.holds Tryd.pinned (.plain (OpenSpec.upto fnExactLogLinesSpec)) fnExactLogLinesUptoCard

/-- THE SECOND FORM's CARD OF 'laws.FnExactLogOpen'. -/
def fnExactLogOpenUptoCard : Claim7 := { stood := { row := fnExactLogOpenUptoRow, standIns := [], harness := (true, "9b60d673cc4c2655be1b3b3766a90e72f1b4156b4a9c0be798c2373bd55ede77"), looks := false }, kinds := [], alts := [], laidByText := true, laidKinds := [.data, .pinned], laidTests := true, laidLooks := .later }
def FnExactLogOpenUptoCardSaid : Prop := Claim7.holds Tryd.pinned (.plain (OpenSpec.upto fnExactLogOpenSpec)) fnExactLogOpenUptoCard
end Rows
end Go.Proofs.YtmffoannknkjkaaDoor
