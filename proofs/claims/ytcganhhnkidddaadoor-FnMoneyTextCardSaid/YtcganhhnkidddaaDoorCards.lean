/-
  DERIVED. GIVEN WITH THE SEED: THE CARDS: each row of YtcganhhnkidddaaDoorRows.lean that lists a variable, with what it lists TIED to the program's text (the seventh form; the later family's looks); each row that meets fmt, with fmt's text TOLD by the authors' own Lean function (tested against real Go, not proved from fmt's source: count such statements apart). THE CARD IS WHAT COUNTS. Prove the row's statement (the work); the ties are given (YtcganhhnkidddaaDoorTie.lean); close each card by the builder's one call (the guide's Derived/Test/ToyasCard.lean, 'card_holds'). Laid BY PROGRAM, IN A SANDBOX (cutbox-door.mjs). By AI agents, Wed Nov 11 2026. No macro, syntax, notation, axiom, sorry.
-/
import Derived.Test.YtcganhhnkidddaaDoorRows
import GoSem.ClaimSeven
namespace Go.Proofs.YtcganhhnkidddaaDoor
namespace Rows

/-- THE TIED CARD OF 'laws.FnMoneyText'. -/
def fnMoneyTextCard : Claim7 := { stood := { row := fnMoneyTextRow, standIns := [], harness := (true, "bd4587d18228e8298f98e69731092bbf4532c2464a0c0da303595c5bf6ddba17"), looks := false }, kinds := [], alts := [], laidByText := true, laidKinds := [.data, .data, .data], laidTests := true, laidLooks := .later }
def FnMoneyTextCardSaid : Prop := Claim7.holds Tryd.pinned (.plain (OpenSpec.ofChange fnMoneyTextSpec)) fnMoneyTextCard

/-- THE TIED CARD OF 'laws.FnExactMoneyText'. -/
def fnExactMoneyTextCard : Claim7 := { stood := { row := fnExactMoneyTextRow, standIns := [], harness := (true, "bd4587d18228e8298f98e69731092bbf4532c2464a0c0da303595c5bf6ddba17"), looks := false }, kinds := [], alts := [], laidByText := true, laidKinds := [.data, .data, .data], laidTests := true, laidLooks := .later }
def FnExactMoneyTextCardSaid : Prop := Claim7.holds Tryd.pinned (.plain (OpenSpec.ofChange fnExactMoneyTextSpec)) fnExactMoneyTextCard

/-- THE TIED CARD OF 'laws.FnExactMoneyRead'. -/
def fnExactMoneyReadCard : Claim7 := { stood := { row := fnExactMoneyReadRow, standIns := [], harness := (true, "bd4587d18228e8298f98e69731092bbf4532c2464a0c0da303595c5bf6ddba17"), looks := false }, kinds := [], alts := [], laidByText := true, laidKinds := [.data, .data, .data], laidTests := true, laidLooks := .later }
def FnExactMoneyReadCardSaid : Prop := Claim7.holds Tryd.pinned (.plain (OpenSpec.ofChange fnExactMoneyReadSpec)) fnExactMoneyReadCard

/-- THE SECOND FORM's CARD OF 'laws.FnMoneyText'. -/
def fnMoneyTextUptoCard : Claim7 := { stood := { row := fnMoneyTextUptoRow, standIns := [], harness := (true, "bd4587d18228e8298f98e69731092bbf4532c2464a0c0da303595c5bf6ddba17"), looks := false }, kinds := [], alts := [], laidByText := true, laidKinds := [.data, .data, .data], laidTests := true, laidLooks := .later }
def FnMoneyTextUptoCardSaid : Prop := Claim7.holds Tryd.pinned (.plain (OpenSpec.upto fnMoneyTextSpec)) fnMoneyTextUptoCard

/-- THE SECOND FORM's CARD OF 'laws.FnExactMoneyText'. -/
def fnExactMoneyTextUptoCard : Claim7 := { stood := { row := fnExactMoneyTextUptoRow, standIns := [], harness := (true, "bd4587d18228e8298f98e69731092bbf4532c2464a0c0da303595c5bf6ddba17"), looks := false }, kinds := [], alts := [], laidByText := true, laidKinds := [.data, .data, .data], laidTests := true, laidLooks := .later }
def FnExactMoneyTextUptoCardSaid : Prop := Claim7.holds Tryd.pinned (.plain (OpenSpec.upto fnExactMoneyTextSpec)) fnExactMoneyTextUptoCard

/-- THE SECOND FORM's CARD OF 'laws.FnExactMoneyRead'. -/
def fnExactMoneyReadUptoCard : Claim7 := { stood := { row := fnExactMoneyReadUptoRow, standIns := [], harness := (true, "bd4587d18228e8298f98e69731092bbf4532c2464a0c0da303595c5bf6ddba17"), looks := false }, kinds := [], alts := [], laidByText := true, laidKinds := [.data, .data, .data], laidTests := true, laidLooks := .later }
def FnExactMoneyReadUptoCardSaid : Prop := Claim7.holds Tryd.pinned (.plain (OpenSpec.upto fnExactMoneyReadSpec)) fnExactMoneyReadUptoCard
end Rows
end Go.Proofs.YtcganhhnkidddaaDoor
