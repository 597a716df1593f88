/-
  NARROWER THAN 'FOR EVERY INPUT', by the rows' own cells (each row's printed sentence says how): FnRunRounds: laid · FnExactAskAll: laid · FnExactAskOne: laid · FnExactAskSteps: laid · FnExactClockOpen: laid · FnExactClockRound: laid · FnExactClockRun: laid.
  DERIVED. THE GIVEN ROWS OF THIS SEAT. 7 by the template 'for every input the law returns true; each argument reads behind the call as it read before'; 0 by the template 'total and deterministic' (their statements: YtnihhbfgbilimaaGreatDoorTotals.lean).
  GIVEN WITH THE SEED: the statements are not yours to turn. If you find one false, say at which input.
  Laid BY PROGRAM, IN A SANDBOX (cutbox-rows.mjs): the forced cells as the released guide's own fill.sh prints them over the translation 2e0b7096cb6ef6c9… (all of the seat's roots in one cut). By AI agents, Wed Nov 11 2026. No macro, syntax, notation, axiom, sorry.
-/
import Derived.Test.YtnihhbfgbilimaaGreatDoorChecked
import GoSem.Claim
import GoSem.ClaimJoined
import GoSem.ClaimMapViews
import Derived.JoinedTies
import Derived.KernelRfl
namespace Go.Proofs.YtnihhbfgbilimaaGreatDoor
/- THE CELL 'sum', in the pinned program and in every row, IS THE sha256 OF THE DUMP (.gsa) THAT YtnihhbfgbilimaaGreatDoorProg.lean LOADS. Nothing in Lean hashes anything: it is a label: what it is worth is what the hold of that sum in a sandbox is worth. -/
noncomputable def Tryz.pinned : Pinned := { name := "ytnihhbfgbilimaagreatdoor", sum := "2e0b7096cb6ef6c99fd5f66fcbc62091bd86ccf9482a4a59f3ccd6ac14346c2b", checked := Tryz.checked }
namespace Rows
def none {H : Type} : Left H := { results := [], args := [] }

/- WHAT THE LISTED PACKAGE-LEVEL VARIABLES READ AS WHEN THE CALL BEGINS. Each datum BY PROGRAM (the guide's laid-datum.mjs) off the statement by which the dump's own 'gosem.cut.vars' lays the variable. In a bare row this is a premise. The card (YtnihhbfgbilimaaGreatDoorCards.lean) ties it to the program's text. -/
def laid_math_bits_deBruijn64tab {H : Type} : DataW H := .agg [.lit (.int .u8 0), .lit (.int .u8 1), .lit (.int .u8 56), .lit (.int .u8 2), .lit (.int .u8 57), .lit (.int .u8 49), .lit (.int .u8 28), .lit (.int .u8 3), .lit (.int .u8 61), .lit (.int .u8 58), .lit (.int .u8 42), .lit (.int .u8 50), .lit (.int .u8 38), .lit (.int .u8 29), .lit (.int .u8 17), .lit (.int .u8 4), .lit (.int .u8 62), .lit (.int .u8 47), .lit (.int .u8 59), .lit (.int .u8 36), .lit (.int .u8 45), .lit (.int .u8 43), .lit (.int .u8 51), .lit (.int .u8 22), .lit (.int .u8 53), .lit (.int .u8 39), .lit (.int .u8 33), .lit (.int .u8 30), .lit (.int .u8 24), .lit (.int .u8 18), .lit (.int .u8 12), .lit (.int .u8 5), .lit (.int .u8 63), .lit (.int .u8 55), .lit (.int .u8 48), .lit (.int .u8 27), .lit (.int .u8 60), .lit (.int .u8 41), .lit (.int .u8 37), .lit (.int .u8 16), .lit (.int .u8 46), .lit (.int .u8 35), .lit (.int .u8 44), .lit (.int .u8 21), .lit (.int .u8 52), .lit (.int .u8 32), .lit (.int .u8 23), .lit (.int .u8 11), .lit (.int .u8 54), .lit (.int .u8 26), .lit (.int .u8 40), .lit (.int .u8 15), .lit (.int .u8 34), .lit (.int .u8 20), .lit (.int .u8 31), .lit (.int .u8 10), .lit (.int .u8 25), .lit (.int .u8 14), .lit (.int .u8 19), .lit (.int .u8 9), .lit (.int .u8 13), .lit (.int .u8 8), .lit (.int .u8 7), .lit (.int .u8 6)]

/-- 'laws.FnRunRounds': WHATEVER THE INPUT: true; the input reads as it did. -/
def fnRunRoundsSpec : ChangeSpec := { name := "fnRunRounds", fn := fun _ => fun
  | [d] => { results := [.lit (.bool true)], args := [d] }
  | _ => none }
def fnRunRoundsRow : OpenClaim := { program := "ytnihhbfgbilimaagreatdoor", sum := "2e0b7096cb6ef6c99fd5f66fcbc62091bd86ccf9482a4a59f3ccd6ac14346c2b", func := "loop.example/g00144/laws.FnRunRounds", spec := "fnRunRounds", inPlace := ["slices.overlaps[loop.example/g00144/impl.Place]"], unfollowed := true, recurses := true, named := ["math/bits.deBruijn64tab"], plainKeys := false, apart := false, laid := [("math/bits.deBruijn64tab", laid_math_bits_deBruijn64tab)] }
def FnRunRoundsSaid : Prop := fnRunRoundsRow.holds Tryz.pinned (OpenSpec.ofChange fnRunRoundsSpec)

/-- ITS FALSE NEIGHBOUR: 'it returns false'. Refute it at one input. -/
def fnRunRoundsWrong : ChangeSpec := { name := "fnRunRounds", fn := fun _ => fun
  | [d] => { results := [.lit (.bool false)], args := [d] }
  | _ => none }
def FnRunRoundsWrongFalsely : Prop := fnRunRoundsRow.holds Tryz.pinned (OpenSpec.ofChange fnRunRoundsWrong)

/-- 'laws.FnExactAskAll': WHATEVER THE INPUT: true; the input reads as it did. -/
def fnExactAskAllSpec : ChangeSpec := { name := "fnExactAskAll", fn := fun _ => fun
  | [d1, d2, d3, d4] => { results := [.lit (.bool true)], args := [d1, d2, d3, d4] }
  | _ => none }
def fnExactAskAllRow : OpenClaim := { program := "ytnihhbfgbilimaagreatdoor", sum := "2e0b7096cb6ef6c99fd5f66fcbc62091bd86ccf9482a4a59f3ccd6ac14346c2b", func := "loop.example/g00144/laws.FnExactAskAll", spec := "fnExactAskAll", unfollowed := true, recurses := true, named := ["math/bits.deBruijn64tab"], plainKeys := false, apart := false, laid := [("math/bits.deBruijn64tab", laid_math_bits_deBruijn64tab)] }
def FnExactAskAllSaid : Prop := fnExactAskAllRow.holds Tryz.pinned (OpenSpec.ofChange fnExactAskAllSpec)

/-- ITS FALSE NEIGHBOUR: 'it returns false'. Refute it at one input. -/
def fnExactAskAllWrong : ChangeSpec := { name := "fnExactAskAll", fn := fun _ => fun
  | [d1, d2, d3, d4] => { results := [.lit (.bool false)], args := [d1, d2, d3, d4] }
  | _ => none }
def FnExactAskAllWrongFalsely : Prop := fnExactAskAllRow.holds Tryz.pinned (OpenSpec.ofChange fnExactAskAllWrong)

/-- 'laws.FnExactAskOne': WHATEVER THE INPUT: true; the input reads as it did. -/
def fnExactAskOneSpec : ChangeSpec := { name := "fnExactAskOne", fn := fun _ => fun
  | [d1, d2, d3, d4, d5] => { results := [.lit (.bool true)], args := [d1, d2, d3, d4, d5] }
  | _ => none }
def fnExactAskOneRow : OpenClaim := { program := "ytnihhbfgbilimaagreatdoor", sum := "2e0b7096cb6ef6c99fd5f66fcbc62091bd86ccf9482a4a59f3ccd6ac14346c2b", func := "loop.example/g00144/laws.FnExactAskOne", spec := "fnExactAskOne", inPlace := ["slices.overlaps[loop.example/g00144/impl.Place]"], unfollowed := true, recurses := true, named := ["math/bits.deBruijn64tab"], plainKeys := false, apart := false, laid := [("math/bits.deBruijn64tab", laid_math_bits_deBruijn64tab)] }
def FnExactAskOneSaid : Prop := fnExactAskOneRow.holds Tryz.pinned (OpenSpec.ofChange fnExactAskOneSpec)

/-- ITS FALSE NEIGHBOUR: 'it returns false'. Refute it at one input. -/
def fnExactAskOneWrong : ChangeSpec := { name := "fnExactAskOne", fn := fun _ => fun
  | [d1, d2, d3, d4, d5] => { results := [.lit (.bool false)], args := [d1, d2, d3, d4, d5] }
  | _ => none }
def FnExactAskOneWrongFalsely : Prop := fnExactAskOneRow.holds Tryz.pinned (OpenSpec.ofChange fnExactAskOneWrong)

/-- 'laws.FnExactAskSteps': WHATEVER THE INPUT: true; the input reads as it did. -/
def fnExactAskStepsSpec : ChangeSpec := { name := "fnExactAskSteps", fn := fun _ => fun
  | [d1, d2, d3] => { results := [.lit (.bool true)], args := [d1, d2, d3] }
  | _ => none }
def fnExactAskStepsRow : OpenClaim := { program := "ytnihhbfgbilimaagreatdoor", sum := "2e0b7096cb6ef6c99fd5f66fcbc62091bd86ccf9482a4a59f3ccd6ac14346c2b", func := "loop.example/g00144/laws.FnExactAskSteps", spec := "fnExactAskSteps", unfollowed := true, recurses := true, named := ["math/bits.deBruijn64tab"], plainKeys := false, apart := false, laid := [("math/bits.deBruijn64tab", laid_math_bits_deBruijn64tab)] }
def FnExactAskStepsSaid : Prop := fnExactAskStepsRow.holds Tryz.pinned (OpenSpec.ofChange fnExactAskStepsSpec)

/-- ITS FALSE NEIGHBOUR: 'it returns false'. Refute it at one input. -/
def fnExactAskStepsWrong : ChangeSpec := { name := "fnExactAskSteps", fn := fun _ => fun
  | [d1, d2, d3] => { results := [.lit (.bool false)], args := [d1, d2, d3] }
  | _ => none }
def FnExactAskStepsWrongFalsely : Prop := fnExactAskStepsRow.holds Tryz.pinned (OpenSpec.ofChange fnExactAskStepsWrong)

/-- 'laws.FnExactClockOpen': WHATEVER THE INPUT: true; the input reads as it did. -/
def fnExactClockOpenSpec : ChangeSpec := { name := "fnExactClockOpen", fn := fun _ => fun
  | [d1, d2, d3, d4, d5, d6] => { results := [.lit (.bool true)], args := [d1, d2, d3, d4, d5, d6] }
  | _ => none }
def fnExactClockOpenRow : OpenClaim := { program := "ytnihhbfgbilimaagreatdoor", sum := "2e0b7096cb6ef6c99fd5f66fcbc62091bd86ccf9482a4a59f3ccd6ac14346c2b", func := "loop.example/g00144/laws.FnExactClockOpen", spec := "fnExactClockOpen", unfollowed := true, recurses := true, named := ["math/bits.deBruijn64tab"], plainKeys := false, apart := false, laid := [("math/bits.deBruijn64tab", laid_math_bits_deBruijn64tab)] }
def FnExactClockOpenSaid : Prop := fnExactClockOpenRow.holds Tryz.pinned (OpenSpec.ofChange fnExactClockOpenSpec)

/-- ITS FALSE NEIGHBOUR: 'it returns false'. Refute it at one input. -/
def fnExactClockOpenWrong : ChangeSpec := { name := "fnExactClockOpen", fn := fun _ => fun
  | [d1, d2, d3, d4, d5, d6] => { results := [.lit (.bool false)], args := [d1, d2, d3, d4, d5, d6] }
  | _ => none }
def FnExactClockOpenWrongFalsely : Prop := fnExactClockOpenRow.holds Tryz.pinned (OpenSpec.ofChange fnExactClockOpenWrong)

/-- 'laws.FnExactClockRound': WHATEVER THE INPUT: true; the input reads as it did. -/
def fnExactClockRoundSpec : ChangeSpec := { name := "fnExactClockRound", fn := fun _ => fun
  | [d1, d2] => { results := [.lit (.bool true)], args := [d1, d2] }
  | _ => none }
def fnExactClockRoundRow : OpenClaim := { program := "ytnihhbfgbilimaagreatdoor", sum := "2e0b7096cb6ef6c99fd5f66fcbc62091bd86ccf9482a4a59f3ccd6ac14346c2b", func := "loop.example/g00144/laws.FnExactClockRound", spec := "fnExactClockRound", inPlace := ["slices.overlaps[loop.example/g00144/impl.Place]"], unfollowed := true, recurses := true, named := ["math/bits.deBruijn64tab"], plainKeys := false, apart := false, laid := [("math/bits.deBruijn64tab", laid_math_bits_deBruijn64tab)] }
def FnExactClockRoundSaid : Prop := fnExactClockRoundRow.holds Tryz.pinned (OpenSpec.ofChange fnExactClockRoundSpec)

/-- ITS FALSE NEIGHBOUR: 'it returns false'. Refute it at one input. -/
def fnExactClockRoundWrong : ChangeSpec := { name := "fnExactClockRound", fn := fun _ => fun
  | [d1, d2] => { results := [.lit (.bool false)], args := [d1, d2] }
  | _ => none }
def FnExactClockRoundWrongFalsely : Prop := fnExactClockRoundRow.holds Tryz.pinned (OpenSpec.ofChange fnExactClockRoundWrong)

/-- 'laws.FnExactClockRun': WHATEVER THE INPUT: true; the input reads as it did. -/
def fnExactClockRunSpec : ChangeSpec := { name := "fnExactClockRun", fn := fun _ => fun
  | [d1, d2] => { results := [.lit (.bool true)], args := [d1, d2] }
  | _ => none }
def fnExactClockRunRow : OpenClaim := { program := "ytnihhbfgbilimaagreatdoor", sum := "2e0b7096cb6ef6c99fd5f66fcbc62091bd86ccf9482a4a59f3ccd6ac14346c2b", func := "loop.example/g00144/laws.FnExactClockRun", spec := "fnExactClockRun", inPlace := ["slices.overlaps[loop.example/g00144/impl.Place]"], unfollowed := true, recurses := true, named := ["math/bits.deBruijn64tab"], plainKeys := false, apart := false, laid := [("math/bits.deBruijn64tab", laid_math_bits_deBruijn64tab)] }
def FnExactClockRunSaid : Prop := fnExactClockRunRow.holds Tryz.pinned (OpenSpec.ofChange fnExactClockRunSpec)

/-- ITS FALSE NEIGHBOUR: 'it returns false'. Refute it at one input. -/
def fnExactClockRunWrong : ChangeSpec := { name := "fnExactClockRun", fn := fun _ => fun
  | [d1, d2] => { results := [.lit (.bool false)], args := [d1, d2] }
  | _ => none }
def FnExactClockRunWrongFalsely : Prop := fnExactClockRunRow.holds Tryz.pinned (OpenSpec.ofChange fnExactClockRunWrong)

/- THE SECOND FORM. 'bulk': how many values and letters a reading holds, each counted each time it is reached (what is shared counts as often as it is met; a slice's spare places count too). A statement '..UptoSaid' is the law's where the arguments, and the package variables that the reading takes, are together of bulk at most 1048576: NARROWER than '..Said'. Prove '..Said' where nothing that the law and all that it calls make is longer than what came in: it says more and counts as full. Else prove '..UptoSaid'. A law counts once. -/
mutual
def uptoBulk {H : Type} : DataW H → Nat
  | .lit (.string bytes) => bytes.length + 1
  | .lit _ => 1
  | .nil => 1
  | .ptr d => uptoBulk d + 1
  | .slice elems spare => uptoBulkAll elems + uptoBulkAll spare + 1
  | .agg parts => uptoBulkAll parts + 1
  | .iface _ d => uptoBulk d + 1
  | .map entries => uptoBulkEntries entries + 1
  | .held _ => 1
def uptoBulkAll {H : Type} : List (DataW H) → Nat
  | [] => 0
  | d :: r => uptoBulk d + uptoBulkAll r
def uptoBulkEntries {H : Type} : List (Lit × DataW H) → Nat
  | [] => 0
  | x :: r => uptoBulkEntry x + uptoBulkEntries r
def uptoBulkEntry {H : Type} : Lit × DataW H → Nat
  | (.string bytes, d) => bytes.length + uptoBulk d + 1
  | (_, d) => uptoBulk d + 1
 end
def uptoSmall : (H : Type) → List (DataW H) → Bool := fun _ ds => decide (uptoBulkAll ds ≤ 1048576)
def OpenSpec.upto (s : _root_.Go.ChangeSpec) : _root_.Go.OpenSpec := { _root_.Go.OpenSpec.ofChange s with cond := some uptoSmall }

/-- 'laws.FnRunRounds', WHERE WHAT IT READS IS OF BULK AT MOST 1048576: true; the input reads as it did. -/
def fnRunRoundsUptoRow : OpenClaim := { program := "ytnihhbfgbilimaagreatdoor", sum := "2e0b7096cb6ef6c99fd5f66fcbc62091bd86ccf9482a4a59f3ccd6ac14346c2b", func := "loop.example/g00144/laws.FnRunRounds", spec := "fnRunRounds", inPlace := ["slices.overlaps[loop.example/g00144/impl.Place]"], unfollowed := true, recurses := true, named := ["math/bits.deBruijn64tab"], plainKeys := false, apart := false, laid := [("math/bits.deBruijn64tab", laid_math_bits_deBruijn64tab)], narrowed := true }
def FnRunRoundsUptoSaid : Prop := fnRunRoundsUptoRow.holds Tryz.pinned (OpenSpec.upto fnRunRoundsSpec)

/-- 'laws.FnExactAskAll', WHERE WHAT IT READS IS OF BULK AT MOST 1048576: true; the input reads as it did. -/
def fnExactAskAllUptoRow : OpenClaim := { program := "ytnihhbfgbilimaagreatdoor", sum := "2e0b7096cb6ef6c99fd5f66fcbc62091bd86ccf9482a4a59f3ccd6ac14346c2b", func := "loop.example/g00144/laws.FnExactAskAll", spec := "fnExactAskAll", unfollowed := true, recurses := true, named := ["math/bits.deBruijn64tab"], plainKeys := false, apart := false, laid := [("math/bits.deBruijn64tab", laid_math_bits_deBruijn64tab)], narrowed := true }
def FnExactAskAllUptoSaid : Prop := fnExactAskAllUptoRow.holds Tryz.pinned (OpenSpec.upto fnExactAskAllSpec)

/-- 'laws.FnExactAskOne', WHERE WHAT IT READS IS OF BULK AT MOST 1048576: true; the input reads as it did. -/
def fnExactAskOneUptoRow : OpenClaim := { program := "ytnihhbfgbilimaagreatdoor", sum := "2e0b7096cb6ef6c99fd5f66fcbc62091bd86ccf9482a4a59f3ccd6ac14346c2b", func := "loop.example/g00144/laws.FnExactAskOne", spec := "fnExactAskOne", inPlace := ["slices.overlaps[loop.example/g00144/impl.Place]"], unfollowed := true, recurses := true, named := ["math/bits.deBruijn64tab"], plainKeys := false, apart := false, laid := [("math/bits.deBruijn64tab", laid_math_bits_deBruijn64tab)], narrowed := true }
def FnExactAskOneUptoSaid : Prop := fnExactAskOneUptoRow.holds Tryz.pinned (OpenSpec.upto fnExactAskOneSpec)

/-- 'laws.FnExactAskSteps', WHERE WHAT IT READS IS OF BULK AT MOST 1048576: true; the input reads as it did. -/
def fnExactAskStepsUptoRow : OpenClaim := { program := "ytnihhbfgbilimaagreatdoor", sum := "2e0b7096cb6ef6c99fd5f66fcbc62091bd86ccf9482a4a59f3ccd6ac14346c2b", func := "loop.example/g00144/laws.FnExactAskSteps", spec := "fnExactAskSteps", unfollowed := true, recurses := true, named := ["math/bits.deBruijn64tab"], plainKeys := false, apart := false, laid := [("math/bits.deBruijn64tab", laid_math_bits_deBruijn64tab)], narrowed := true }
def FnExactAskStepsUptoSaid : Prop := fnExactAskStepsUptoRow.holds Tryz.pinned (OpenSpec.upto fnExactAskStepsSpec)

/-- 'laws.FnExactClockOpen', WHERE WHAT IT READS IS OF BULK AT MOST 1048576: true; the input reads as it did. -/
def fnExactClockOpenUptoRow : OpenClaim := { program := "ytnihhbfgbilimaagreatdoor", sum := "2e0b7096cb6ef6c99fd5f66fcbc62091bd86ccf9482a4a59f3ccd6ac14346c2b", func := "loop.example/g00144/laws.FnExactClockOpen", spec := "fnExactClockOpen", unfollowed := true, recurses := true, named := ["math/bits.deBruijn64tab"], plainKeys := false, apart := false, laid := [("math/bits.deBruijn64tab", laid_math_bits_deBruijn64tab)], narrowed := true }
def FnExactClockOpenUptoSaid : Prop := fnExactClockOpenUptoRow.holds Tryz.pinned (OpenSpec.upto fnExactClockOpenSpec)

/-- 'laws.FnExactClockRound', WHERE WHAT IT READS IS OF BULK AT MOST 1048576: true; the input reads as it did. -/
def fnExactClockRoundUptoRow : OpenClaim := { program := "ytnihhbfgbilimaagreatdoor", sum := "2e0b7096cb6ef6c99fd5f66fcbc62091bd86ccf9482a4a59f3ccd6ac14346c2b", func := "loop.example/g00144/laws.FnExactClockRound", spec := "fnExactClockRound", inPlace := ["slices.overlaps[loop.example/g00144/impl.Place]"], unfollowed := true, recurses := true, named := ["math/bits.deBruijn64tab"], plainKeys := false, apart := false, laid := [("math/bits.deBruijn64tab", laid_math_bits_deBruijn64tab)], narrowed := true }
def FnExactClockRoundUptoSaid : Prop := fnExactClockRoundUptoRow.holds Tryz.pinned (OpenSpec.upto fnExactClockRoundSpec)

/-- 'laws.FnExactClockRun', WHERE WHAT IT READS IS OF BULK AT MOST 1048576: true; the input reads as it did. -/
def fnExactClockRunUptoRow : OpenClaim := { program := "ytnihhbfgbilimaagreatdoor", sum := "2e0b7096cb6ef6c99fd5f66fcbc62091bd86ccf9482a4a59f3ccd6ac14346c2b", func := "loop.example/g00144/laws.FnExactClockRun", spec := "fnExactClockRun", inPlace := ["slices.overlaps[loop.example/g00144/impl.Place]"], unfollowed := true, recurses := true, named := ["math/bits.deBruijn64tab"], plainKeys := false, apart := false, laid := [("math/bits.deBruijn64tab", laid_math_bits_deBruijn64tab)], narrowed := true }
def FnExactClockRunUptoSaid : Prop := fnExactClockRunUptoRow.holds Tryz.pinned (OpenSpec.upto fnExactClockRunSpec)

end Rows
end Go.Proofs.YtnihhbfgbilimaaGreatDoor
