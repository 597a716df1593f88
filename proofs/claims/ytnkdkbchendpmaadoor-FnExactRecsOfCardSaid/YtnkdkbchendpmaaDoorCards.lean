/-
  DERIVED. GIVEN WITH THE SEED: THE CARDS: each row of YtnkdkbchendpmaaDoorRows.lean that lists a variable, with what it lists TIED to the program's text (the seventh form; the later family's looks); each row that meets fmt, with fmt's text TOLD by the authors' own Lean function (tested against real Go, not proved from fmt's source: count such statements apart). THE CARD IS WHAT COUNTS. Prove the row's statement (the work); the ties are given (YtnkdkbchendpmaaDoorTie.lean); close each card by the builder's one call (the guide's Derived/Test/ToyasCard.lean, 'card_holds'). Laid BY PROGRAM, IN A SANDBOX (cutbox-door.mjs). By AI agents, Wed Nov 11 2026. No macro, syntax, notation, axiom, sorry.
-/
import Derived.Test.YtnkdkbchendpmaaDoorRows
import GoSem.ClaimSeven
namespace Go.Proofs.YtnkdkbchendpmaaDoor
namespace Rows

/-- THE TIED CARD OF 'laws.FnRecs'. -/
def fnRecsCard : Claim7 := { stood := { row := fnRecsRow, standIns := [], harness := (true, "8ee63c3ec74792dcaa3e538ba553d1110cf9533a7b9cac545c46ebcdfb4db566"), looks := false }, kinds := [], alts := [], laidByText := true, laidKinds := [.data, .sentinel, .pinned], laidTests := true, laidLooks := .later }
def FnRecsCardSaid : Prop := Claim7.holds Tryd.pinned (.plain (OpenSpec.ofChange fnRecsSpec)) fnRecsCard

/-- THE TIED CARD OF 'laws.FnRecTurned'. -/
def fnRecTurnedCard : Claim7 := { stood := { row := fnRecTurnedRow, standIns := [], harness := (true, "8ee63c3ec74792dcaa3e538ba553d1110cf9533a7b9cac545c46ebcdfb4db566"), looks := false }, kinds := [], alts := [], laidByText := true, laidKinds := [.data, .sentinel, .pinned], laidTests := true, laidLooks := .later }
def FnRecTurnedCardSaid : Prop := Claim7.holds Tryd.pinned (.plain (OpenSpec.ofChange fnRecTurnedSpec)) fnRecTurnedCard

/-- THE TIED CARD OF 'laws.FnExactNumBytes'. -/
def fnExactNumBytesCard : Claim7 := { stood := { row := fnExactNumBytesRow, standIns := [], harness := (true, "8ee63c3ec74792dcaa3e538ba553d1110cf9533a7b9cac545c46ebcdfb4db566"), looks := false }, kinds := [], alts := [], laidByText := true, laidKinds := [.sentinel], laidTests := true, laidLooks := .later }
def FnExactNumBytesCardSaid : Prop := Claim7.holds Tryd.pinned (.plain (OpenSpec.ofChange fnExactNumBytesSpec)) fnExactNumBytesCard

/-- THE TIED CARD OF 'laws.FnExactRecSum'. -/
def fnExactRecSumCard : Claim7 := { stood := { row := fnExactRecSumRow, standIns := [], harness := (true, "8ee63c3ec74792dcaa3e538ba553d1110cf9533a7b9cac545c46ebcdfb4db566"), looks := false }, kinds := [], alts := [], laidByText := true, laidKinds := [.data, .pinned], laidTests := true, laidLooks := .later }
def FnExactRecSumCardSaid : Prop := Claim7.holds Tryd.pinned (.plain (OpenSpec.ofChange fnExactRecSumSpec)) fnExactRecSumCard

/-- THE TIED CARD OF 'laws.FnExactRecBytes'. -/
def fnExactRecBytesCard : Claim7 := { stood := { row := fnExactRecBytesRow, standIns := [], harness := (true, "8ee63c3ec74792dcaa3e538ba553d1110cf9533a7b9cac545c46ebcdfb4db566"), looks := false }, kinds := [], alts := [], laidByText := true, laidKinds := [.data, .sentinel, .pinned], laidTests := true, laidLooks := .later }
def FnExactRecBytesCardSaid : Prop := Claim7.holds Tryd.pinned (.plain (OpenSpec.ofChange fnExactRecBytesSpec)) fnExactRecBytesCard

/-- THE TIED CARD OF 'laws.FnExactRecRead'. -/
def fnExactRecReadCard : Claim7 := { stood := { row := fnExactRecReadRow, standIns := [], harness := (true, "8ee63c3ec74792dcaa3e538ba553d1110cf9533a7b9cac545c46ebcdfb4db566"), looks := false }, kinds := [], alts := [], laidByText := true, laidKinds := [.data, .pinned], laidTests := true, laidLooks := .later }
def FnExactRecReadCardSaid : Prop := Claim7.holds Tryd.pinned (.plain (OpenSpec.ofChange fnExactRecReadSpec)) fnExactRecReadCard

/-- THE TIED CARD OF 'laws.FnExactRecsOf'. -/
def fnExactRecsOfCard : Claim7 := { stood := { row := fnExactRecsOfRow, standIns := [], harness := (true, "8ee63c3ec74792dcaa3e538ba553d1110cf9533a7b9cac545c46ebcdfb4db566"), looks := false }, kinds := [], alts := [], laidByText := true, laidKinds := [.data, .pinned], laidTests := true, laidLooks := .later }
def FnExactRecsOfCardSaid : Prop := Claim7.holds Tryd.pinned (.plain (OpenSpec.ofChange fnExactRecsOfSpec)) fnExactRecsOfCard

/-- THE SECOND FORM's CARD OF 'laws.FnRecs'. -/
def fnRecsUptoCard : Claim7 := { stood := { row := fnRecsUptoRow, standIns := [], harness := (true, "8ee63c3ec74792dcaa3e538ba553d1110cf9533a7b9cac545c46ebcdfb4db566"), looks := false }, kinds := [], alts := [], laidByText := true, laidKinds := [.data, .sentinel, .pinned], laidTests := true, laidLooks := .later }
def FnRecsUptoCardSaid : Prop := Claim7.holds Tryd.pinned (.plain (OpenSpec.upto fnRecsSpec)) fnRecsUptoCard

/-- THE SECOND FORM's CARD OF 'laws.FnRecTurned'. -/
def fnRecTurnedUptoCard : Claim7 := { stood := { row := fnRecTurnedUptoRow, standIns := [], harness := (true, "8ee63c3ec74792dcaa3e538ba553d1110cf9533a7b9cac545c46ebcdfb4db566"), looks := false }, kinds := [], alts := [], laidByText := true, laidKinds := [.data, .sentinel, .pinned], laidTests := true, laidLooks := .later }
def FnRecTurnedUptoCardSaid : Prop := Claim7.holds Tryd.pinned (.plain (OpenSpec.upto fnRecTurnedSpec)) fnRecTurnedUptoCard

/-- THE SECOND FORM's CARD OF 'laws.FnExactNumBytes'. -/
def fnExactNumBytesUptoCard : Claim7 := { stood := { row := fnExactNumBytesUptoRow, standIns := [], harness := (true, "8ee63c3ec74792dcaa3e538ba553d1110cf9533a7b9cac545c46ebcdfb4db566"), looks := false }, kinds := [], alts := [], laidByText := true, laidKinds := [.sentinel], laidTests := true, laidLooks := .later }
def FnExactNumBytesUptoCardSaid : Prop := Claim7.holds Tryd.pinned (.plain (OpenSpec.upto fnExactNumBytesSpec)) fnExactNumBytesUptoCard

/-- THE SECOND FORM's CARD OF 'laws.FnExactRecSum'. -/
def fnExactRecSumUptoCard : Claim7 := { stood := { row := fnExactRecSumUptoRow, standIns := [], harness := (true, "8ee63c3ec74792dcaa3e538ba553d1110cf9533a7b9cac545c46ebcdfb4db566"), looks := false }, kinds := [], alts := [], laidByText := true, laidKinds := [.data, .pinned], laidTests := true, laidLooks := .later }
def FnExactRecSumUptoCardSaid : Prop := Claim7.holds Tryd.pinned (.plain (OpenSpec.upto fnExactRecSumSpec)) fnExactRecSumUptoCard

/-- THE SECOND FORM's CARD OF 'laws.FnExactRecBytes'. -/
def fnExactRecBytesUptoCard : Claim7 := { stood := { row := fnExactRecBytesUptoRow, standIns := [], harness := (true, "8ee63c3ec74792dcaa3e538ba553d1110cf9533a7b9cac545c46ebcdfb4db566"), looks := false }, kinds := [], alts := [], laidByText := true, laidKinds := [.data, .sentinel, .pinned], laidTests := true, laidLooks := .later }
def FnExactRecBytesUptoCardSaid : Prop := Claim7.holds Tryd.pinned (.plain (OpenSpec.upto fnExactRecBytesSpec)) fnExactRecBytesUptoCard

/-- THE SECOND FORM's CARD OF 'laws.FnExactRecRead'. -/
def fnExactRecReadUptoCard : Claim7 := { stood := { row := fnExactRecReadUptoRow, standIns := [], harness := (true, "8ee63c3ec74792dcaa3e538ba553d1110cf9533a7b9cac545c46ebcdfb4db566"), looks := false }, kinds := [], alts := [], laidByText := true, laidKinds := [.data, .pinned], laidTests := true, laidLooks := .later }
def FnExactRecReadUptoCardSaid : Prop := Claim7.holds Tryd.pinned (.plain (OpenSpec.upto fnExactRecReadSpec)) fnExactRecReadUptoCard

/-- THE SECOND FORM's CARD OF 'laws.FnExactRecsOf'. -/
def fnExactRecsOfUptoCard : Claim7 := { stood := { row := fnExactRecsOfUptoRow, standIns := [], harness := (true, "8ee63c3ec74792dcaa3e538ba553d1110cf9533a7b9cac545c46ebcdfb4db566"), looks := false }, kinds := [], alts := [], laidByText := true, laidKinds := [.data, .pinned], laidTests := true, laidLooks := .later }
def FnExactRecsOfUptoCardSaid : Prop := Claim7.holds Tryd.pinned (.plain (OpenSpec.upto fnExactRecsOfSpec)) fnExactRecsOfUptoCard
end Rows
end Go.Proofs.YtnkdkbchendpmaaDoor
