/-
  DERIVED. GIVEN WITH THE SEED: THE CARDS: each row of YtdndhhkpbcpalaaDoorRows.lean that lists a variable, with what it lists TIED to the program's text (the seventh form; the later family's looks); each row that meets fmt, with fmt's text TOLD by the authors' own Lean function (tested against real Go, not proved from fmt's source: count such statements apart). THE CARD IS WHAT COUNTS. Prove the row's statement (the work); the ties are given (YtdndhhkpbcpalaaDoorTie.lean); close each card by the builder's one call (the guide's Derived/Test/ToyasCard.lean, 'card_holds'). Laid BY PROGRAM, IN A SANDBOX (cutbox-door.mjs). By AI agents, Wed Nov 11 2026. No macro, syntax, notation, axiom, sorry.
-/
import Derived.Test.YtdndhhkpbcpalaaDoorRows
import GoSem.ClaimSeven
namespace Go.Proofs.YtdndhhkpbcpalaaDoor
namespace Rows

/-- THE TIED CARD OF 'laws.FnExactTableRead'. -/
def fnExactTableReadCard : Claim7 := { stood := { row := fnExactTableReadRow, standIns := [], harness := (true, "45e1ebbc0590b26a37c6f330b515a8908ad5839f5c5dd02e92a3ab488db28d95"), looks := false }, kinds := [], alts := [], laidByText := true, laidKinds := [.data, .data, .data, .data, .pinned], laidTests := true, laidLooks := .later }
def FnExactTableReadCardSaid : Prop := Claim7.holds Tryd.pinned (.plain (OpenSpec.ofChange fnExactTableReadSpec)) fnExactTableReadCard

/-- THE SECOND FORM's CARD OF 'laws.FnExactTableRead'. -/
def fnExactTableReadUptoCard : Claim7 := { stood := { row := fnExactTableReadUptoRow, standIns := [], harness := (true, "45e1ebbc0590b26a37c6f330b515a8908ad5839f5c5dd02e92a3ab488db28d95"), looks := false }, kinds := [], alts := [], laidByText := true, laidKinds := [.data, .data, .data, .data, .pinned], laidTests := true, laidLooks := .later }
def FnExactTableReadUptoCardSaid : Prop := Claim7.holds Tryd.pinned (.plain (OpenSpec.upto fnExactTableReadSpec)) fnExactTableReadUptoCard
end Rows
end Go.Proofs.YtdndhhkpbcpalaaDoor
