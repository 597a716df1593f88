/-
  No cell of these rows narrows 'for every input' (looked for: loops, veiled, ifaces, maps, wideKeys, modest, calm, conditions, laid).
  DERIVED. THE GIVEN ROWS OF THIS SEAT. 11 by the template 'for every input the law returns true; each argument reads behind the call as it read before'; 0 by the template 'total and deterministic' (their statements: YtdmfljejlhlbnaaTotals.lean).
  GIVEN WITH THE SEED: the statements are not yours to turn. If you find one false, say at which input.
  Laid BY PROGRAM, IN A SANDBOX (cutbox-rows.mjs): the forced cells as the released guide's own fill.sh prints them over the translation 593f9182d22569f0… (all of the seat's roots in one cut). By AI agents, Wed Nov 11 2026. No macro, syntax, notation, axiom, sorry.
-/
import Derived.Test.YtdmfljejlhlbnaaChecked
import GoSem.Claim
import GoSem.ClaimJoined
import GoSem.ClaimMapViews
import Derived.JoinedTies
import Derived.KernelRfl
namespace Go.Proofs.Ytdmfljejlhlbnaa
/- THE CELL 'sum', in the pinned program and in every row, IS THE sha256 OF THE DUMP (.gsa) THAT YtdmfljejlhlbnaaProg.lean LOADS. Nothing in Lean hashes anything: it is a label: what it is worth is what the hold of that sum in a sandbox is worth. -/
noncomputable def Try.pinned : Pinned := { name := "ytdmfljejlhlbnaa", sum := "593f9182d22569f0327eb2482b8c4439889a07e242f7c06aadf98e96780e3e62", checked := Try.checked }
namespace Rows
def none {H : Type} : Left H := { results := [], args := [] }

/-- 'laws.FnPlanAdd': WHATEVER THE INPUT: true; the input reads as it did. -/
def fnPlanAddSpec : ChangeSpec := { name := "fnPlanAdd", fn := fun _ => fun
  | [d] => { results := [.lit (.bool true)], args := [d] }
  | _ => none }
def fnPlanAddRow : OpenClaim := { program := "ytdmfljejlhlbnaa", sum := "593f9182d22569f0327eb2482b8c4439889a07e242f7c06aadf98e96780e3e62", func := "loop.example/g00144/laws.FnPlanAdd", spec := "fnPlanAdd", inPlace := ["slices.overlaps[loop.example/g00144/impl.Place]"], unfollowed := true, recurses := true, plainKeys := false, apart := false }
def FnPlanAddSaid : Prop := fnPlanAddRow.holds Try.pinned (OpenSpec.ofChange fnPlanAddSpec)

/-- ITS FALSE NEIGHBOUR: 'it returns false'. Refute it at one input. -/
def fnPlanAddWrong : ChangeSpec := { name := "fnPlanAdd", fn := fun _ => fun
  | [d] => { results := [.lit (.bool false)], args := [d] }
  | _ => none }
def FnPlanAddWrongFalsely : Prop := fnPlanAddRow.holds Try.pinned (OpenSpec.ofChange fnPlanAddWrong)

/-- 'laws.FnCnfPlans': WHATEVER THE INPUT: true; the input reads as it did. -/
def fnCnfPlansSpec : ChangeSpec := { name := "fnCnfPlans", fn := fun _ => fun
  | [d] => { results := [.lit (.bool true)], args := [d] }
  | _ => none }
def fnCnfPlansRow : OpenClaim := { program := "ytdmfljejlhlbnaa", sum := "593f9182d22569f0327eb2482b8c4439889a07e242f7c06aadf98e96780e3e62", func := "loop.example/g00144/laws.FnCnfPlans", spec := "fnCnfPlans", unfollowed := true, recurses := true, plainKeys := false, apart := false }
def FnCnfPlansSaid : Prop := fnCnfPlansRow.holds Try.pinned (OpenSpec.ofChange fnCnfPlansSpec)

/-- ITS FALSE NEIGHBOUR: 'it returns false'. Refute it at one input. -/
def fnCnfPlansWrong : ChangeSpec := { name := "fnCnfPlans", fn := fun _ => fun
  | [d] => { results := [.lit (.bool false)], args := [d] }
  | _ => none }
def FnCnfPlansWrongFalsely : Prop := fnCnfPlansRow.holds Try.pinned (OpenSpec.ofChange fnCnfPlansWrong)

/-- 'laws.FnCnfTrue': WHATEVER THE INPUT: true; the input reads as it did. -/
def fnCnfTrueSpec : ChangeSpec := { name := "fnCnfTrue", fn := fun _ => fun
  | [d] => { results := [.lit (.bool true)], args := [d] }
  | _ => none }
def fnCnfTrueRow : OpenClaim := { program := "ytdmfljejlhlbnaa", sum := "593f9182d22569f0327eb2482b8c4439889a07e242f7c06aadf98e96780e3e62", func := "loop.example/g00144/laws.FnCnfTrue", spec := "fnCnfTrue", unfollowed := true, recurses := true, plainKeys := false, apart := false }
def FnCnfTrueSaid : Prop := fnCnfTrueRow.holds Try.pinned (OpenSpec.ofChange fnCnfTrueSpec)

/-- ITS FALSE NEIGHBOUR: 'it returns false'. Refute it at one input. -/
def fnCnfTrueWrong : ChangeSpec := { name := "fnCnfTrue", fn := fun _ => fun
  | [d] => { results := [.lit (.bool false)], args := [d] }
  | _ => none }
def FnCnfTrueWrongFalsely : Prop := fnCnfTrueRow.holds Try.pinned (OpenSpec.ofChange fnCnfTrueWrong)

/-- 'laws.FnExactPlanAdd': WHATEVER THE INPUT: true; the input reads as it did. -/
def fnExactPlanAddSpec : ChangeSpec := { name := "fnExactPlanAdd", fn := fun _ => fun
  | [d1, d2, d3, d4] => { results := [.lit (.bool true)], args := [d1, d2, d3, d4] }
  | _ => none }
def fnExactPlanAddRow : OpenClaim := { program := "ytdmfljejlhlbnaa", sum := "593f9182d22569f0327eb2482b8c4439889a07e242f7c06aadf98e96780e3e62", func := "loop.example/g00144/laws.FnExactPlanAdd", spec := "fnExactPlanAdd", inPlace := ["slices.overlaps[loop.example/g00144/impl.Place]"], unfollowed := true, recurses := true, plainKeys := false, apart := false }
def FnExactPlanAddSaid : Prop := fnExactPlanAddRow.holds Try.pinned (OpenSpec.ofChange fnExactPlanAddSpec)

/-- ITS FALSE NEIGHBOUR: 'it returns false'. Refute it at one input. -/
def fnExactPlanAddWrong : ChangeSpec := { name := "fnExactPlanAdd", fn := fun _ => fun
  | [d1, d2, d3, d4] => { results := [.lit (.bool false)], args := [d1, d2, d3, d4] }
  | _ => none }
def FnExactPlanAddWrongFalsely : Prop := fnExactPlanAddRow.holds Try.pinned (OpenSpec.ofChange fnExactPlanAddWrong)

/-- 'laws.FnExactPlanFind': WHATEVER THE INPUT: true; the input reads as it did. -/
def fnExactPlanFindSpec : ChangeSpec := { name := "fnExactPlanFind", fn := fun _ => fun
  | [d1, d2, d3, d4] => { results := [.lit (.bool true)], args := [d1, d2, d3, d4] }
  | _ => none }
def fnExactPlanFindRow : OpenClaim := { program := "ytdmfljejlhlbnaa", sum := "593f9182d22569f0327eb2482b8c4439889a07e242f7c06aadf98e96780e3e62", func := "loop.example/g00144/laws.FnExactPlanFind", spec := "fnExactPlanFind", unfollowed := true, recurses := true, plainKeys := false, apart := false }
def FnExactPlanFindSaid : Prop := fnExactPlanFindRow.holds Try.pinned (OpenSpec.ofChange fnExactPlanFindSpec)

/-- ITS FALSE NEIGHBOUR: 'it returns false'. Refute it at one input. -/
def fnExactPlanFindWrong : ChangeSpec := { name := "fnExactPlanFind", fn := fun _ => fun
  | [d1, d2, d3, d4] => { results := [.lit (.bool false)], args := [d1, d2, d3, d4] }
  | _ => none }
def FnExactPlanFindWrongFalsely : Prop := fnExactPlanFindRow.holds Try.pinned (OpenSpec.ofChange fnExactPlanFindWrong)

/-- 'laws.FnExactCnfRight': WHATEVER THE INPUT: true; the input reads as it did. -/
def fnExactCnfRightSpec : ChangeSpec := { name := "fnExactCnfRight", fn := fun _ => fun
  | [d] => { results := [.lit (.bool true)], args := [d] }
  | _ => none }
def fnExactCnfRightRow : OpenClaim := { program := "ytdmfljejlhlbnaa", sum := "593f9182d22569f0327eb2482b8c4439889a07e242f7c06aadf98e96780e3e62", func := "loop.example/g00144/laws.FnExactCnfRight", spec := "fnExactCnfRight", unfollowed := true, recurses := true, plainKeys := false, apart := false }
def FnExactCnfRightSaid : Prop := fnExactCnfRightRow.holds Try.pinned (OpenSpec.ofChange fnExactCnfRightSpec)

/-- ITS FALSE NEIGHBOUR: 'it returns false'. Refute it at one input. -/
def fnExactCnfRightWrong : ChangeSpec := { name := "fnExactCnfRight", fn := fun _ => fun
  | [d] => { results := [.lit (.bool false)], args := [d] }
  | _ => none }
def FnExactCnfRightWrongFalsely : Prop := fnExactCnfRightRow.holds Try.pinned (OpenSpec.ofChange fnExactCnfRightWrong)

/-- 'laws.FnExactCnfOf': WHATEVER THE INPUT: true; the input reads as it did. -/
def fnExactCnfOfSpec : ChangeSpec := { name := "fnExactCnfOf", fn := fun _ => fun
  | [d1, d2, d3] => { results := [.lit (.bool true)], args := [d1, d2, d3] }
  | _ => none }
def fnExactCnfOfRow : OpenClaim := { program := "ytdmfljejlhlbnaa", sum := "593f9182d22569f0327eb2482b8c4439889a07e242f7c06aadf98e96780e3e62", func := "loop.example/g00144/laws.FnExactCnfOf", spec := "fnExactCnfOf", unfollowed := true, recurses := true, plainKeys := false, apart := false }
def FnExactCnfOfSaid : Prop := fnExactCnfOfRow.holds Try.pinned (OpenSpec.ofChange fnExactCnfOfSpec)

/-- ITS FALSE NEIGHBOUR: 'it returns false'. Refute it at one input. -/
def fnExactCnfOfWrong : ChangeSpec := { name := "fnExactCnfOf", fn := fun _ => fun
  | [d1, d2, d3] => { results := [.lit (.bool false)], args := [d1, d2, d3] }
  | _ => none }
def FnExactCnfOfWrongFalsely : Prop := fnExactCnfOfRow.holds Try.pinned (OpenSpec.ofChange fnExactCnfOfWrong)

/-- 'laws.FnExactCnfTrue': WHATEVER THE INPUT: true; the input reads as it did. -/
def fnExactCnfTrueSpec : ChangeSpec := { name := "fnExactCnfTrue", fn := fun _ => fun
  | [d1, d2] => { results := [.lit (.bool true)], args := [d1, d2] }
  | _ => none }
def fnExactCnfTrueRow : OpenClaim := { program := "ytdmfljejlhlbnaa", sum := "593f9182d22569f0327eb2482b8c4439889a07e242f7c06aadf98e96780e3e62", func := "loop.example/g00144/laws.FnExactCnfTrue", spec := "fnExactCnfTrue", unfollowed := true, recurses := true, plainKeys := false, apart := false }
def FnExactCnfTrueSaid : Prop := fnExactCnfTrueRow.holds Try.pinned (OpenSpec.ofChange fnExactCnfTrueSpec)

/-- ITS FALSE NEIGHBOUR: 'it returns false'. Refute it at one input. -/
def fnExactCnfTrueWrong : ChangeSpec := { name := "fnExactCnfTrue", fn := fun _ => fun
  | [d1, d2] => { results := [.lit (.bool false)], args := [d1, d2] }
  | _ => none }
def FnExactCnfTrueWrongFalsely : Prop := fnExactCnfTrueRow.holds Try.pinned (OpenSpec.ofChange fnExactCnfTrueWrong)

/-- 'laws.FnExactCnfFault': WHATEVER THE INPUT: true; the input reads as it did. -/
def fnExactCnfFaultSpec : ChangeSpec := { name := "fnExactCnfFault", fn := fun _ => fun
  | [d1, d2] => { results := [.lit (.bool true)], args := [d1, d2] }
  | _ => none }
def fnExactCnfFaultRow : OpenClaim := { program := "ytdmfljejlhlbnaa", sum := "593f9182d22569f0327eb2482b8c4439889a07e242f7c06aadf98e96780e3e62", func := "loop.example/g00144/laws.FnExactCnfFault", spec := "fnExactCnfFault", unfollowed := true, recurses := true, plainKeys := false, apart := false }
def FnExactCnfFaultSaid : Prop := fnExactCnfFaultRow.holds Try.pinned (OpenSpec.ofChange fnExactCnfFaultSpec)

/-- ITS FALSE NEIGHBOUR: 'it returns false'. Refute it at one input. -/
def fnExactCnfFaultWrong : ChangeSpec := { name := "fnExactCnfFault", fn := fun _ => fun
  | [d1, d2] => { results := [.lit (.bool false)], args := [d1, d2] }
  | _ => none }
def FnExactCnfFaultWrongFalsely : Prop := fnExactCnfFaultRow.holds Try.pinned (OpenSpec.ofChange fnExactCnfFaultWrong)

/-- 'laws.FnExactTruesOf': WHATEVER THE INPUT: true; the input reads as it did. -/
def fnExactTruesOfSpec : ChangeSpec := { name := "fnExactTruesOf", fn := fun _ => fun
  | [d1, d2, d3] => { results := [.lit (.bool true)], args := [d1, d2, d3] }
  | _ => none }
def fnExactTruesOfRow : OpenClaim := { program := "ytdmfljejlhlbnaa", sum := "593f9182d22569f0327eb2482b8c4439889a07e242f7c06aadf98e96780e3e62", func := "loop.example/g00144/laws.FnExactTruesOf", spec := "fnExactTruesOf", unfollowed := true, recurses := true, plainKeys := false, apart := false }
def FnExactTruesOfSaid : Prop := fnExactTruesOfRow.holds Try.pinned (OpenSpec.ofChange fnExactTruesOfSpec)

/-- ITS FALSE NEIGHBOUR: 'it returns false'. Refute it at one input. -/
def fnExactTruesOfWrong : ChangeSpec := { name := "fnExactTruesOf", fn := fun _ => fun
  | [d1, d2, d3] => { results := [.lit (.bool false)], args := [d1, d2, d3] }
  | _ => none }
def FnExactTruesOfWrongFalsely : Prop := fnExactTruesOfRow.holds Try.pinned (OpenSpec.ofChange fnExactTruesOfWrong)

/-- 'laws.FnExactPlanOf': WHATEVER THE INPUT: true; the input reads as it did. -/
def fnExactPlanOfSpec : ChangeSpec := { name := "fnExactPlanOf", fn := fun _ => fun
  | [d1, d2, d3, d4] => { results := [.lit (.bool true)], args := [d1, d2, d3, d4] }
  | _ => none }
def fnExactPlanOfRow : OpenClaim := { program := "ytdmfljejlhlbnaa", sum := "593f9182d22569f0327eb2482b8c4439889a07e242f7c06aadf98e96780e3e62", func := "loop.example/g00144/laws.FnExactPlanOf", spec := "fnExactPlanOf", unfollowed := true, recurses := true, plainKeys := false, apart := false }
def FnExactPlanOfSaid : Prop := fnExactPlanOfRow.holds Try.pinned (OpenSpec.ofChange fnExactPlanOfSpec)

/-- ITS FALSE NEIGHBOUR: 'it returns false'. Refute it at one input. -/
def fnExactPlanOfWrong : ChangeSpec := { name := "fnExactPlanOf", fn := fun _ => fun
  | [d1, d2, d3, d4] => { results := [.lit (.bool false)], args := [d1, d2, d3, d4] }
  | _ => none }
def FnExactPlanOfWrongFalsely : Prop := fnExactPlanOfRow.holds Try.pinned (OpenSpec.ofChange fnExactPlanOfWrong)

/- THE SECOND FORM. 'bulk': how many values and letters a reading holds, each counted each time it is reached (what is shared counts as often as it is met; a slice's spare places count too). A statement '..UptoSaid' is the law's where the arguments, and the package variables that the reading takes, are together of bulk at most 1048576: NARROWER than '..Said'. Prove '..Said' where nothing that the law and all that it calls make is longer than what came in: it says more and counts as full. Else prove '..UptoSaid'. A law counts once. -/
mutual
def uptoBulk {H : Type} : DataW H → Nat
  | .lit (.string bytes) => bytes.length + 1
  | .lit _ => 1
  | .nil => 1
  | .ptr d => uptoBulk d + 1
  | .slice elems spare => uptoBulkAll elems + uptoBulkAll spare + 1
  | .agg parts => uptoBulkAll parts + 1
  | .iface _ d => uptoBulk d + 1
  | .map entries => uptoBulkEntries entries + 1
  | .held _ => 1
def uptoBulkAll {H : Type} : List (DataW H) → Nat
  | [] => 0
  | d :: r => uptoBulk d + uptoBulkAll r
def uptoBulkEntries {H : Type} : List (Lit × DataW H) → Nat
  | [] => 0
  | x :: r => uptoBulkEntry x + uptoBulkEntries r
def uptoBulkEntry {H : Type} : Lit × DataW H → Nat
  | (.string bytes, d) => bytes.length + uptoBulk d + 1
  | (_, d) => uptoBulk d + 1
 end
def uptoSmall : (H : Type) → List (DataW H) → Bool := fun _ ds => decide (uptoBulkAll ds ≤ 1048576)
def OpenSpec.upto (s : _root_.Go.ChangeSpec) : _root_.Go.OpenSpec := { _root_.Go.OpenSpec.ofChange s with cond := some uptoSmall }

/-- 'laws.FnPlanAdd', WHERE WHAT IT READS IS OF BULK AT MOST 1048576: true; the input reads as it did. -/
def fnPlanAddUptoRow : OpenClaim := { program := "ytdmfljejlhlbnaa", sum := "593f9182d22569f0327eb2482b8c4439889a07e242f7c06aadf98e96780e3e62", func := "loop.example/g00144/laws.FnPlanAdd", spec := "fnPlanAdd", inPlace := ["slices.overlaps[loop.example/g00144/impl.Place]"], unfollowed := true, recurses := true, plainKeys := false, apart := false, narrowed := true }
def FnPlanAddUptoSaid : Prop := fnPlanAddUptoRow.holds Try.pinned (OpenSpec.upto fnPlanAddSpec)

/-- 'laws.FnCnfPlans', WHERE WHAT IT READS IS OF BULK AT MOST 1048576: true; the input reads as it did. -/
def fnCnfPlansUptoRow : OpenClaim := { program := "ytdmfljejlhlbnaa", sum := "593f9182d22569f0327eb2482b8c4439889a07e242f7c06aadf98e96780e3e62", func := "loop.example/g00144/laws.FnCnfPlans", spec := "fnCnfPlans", unfollowed := true, recurses := true, plainKeys := false, apart := false, narrowed := true }
def FnCnfPlansUptoSaid : Prop := fnCnfPlansUptoRow.holds Try.pinned (OpenSpec.upto fnCnfPlansSpec)

/-- 'laws.FnCnfTrue', WHERE WHAT IT READS IS OF BULK AT MOST 1048576: true; the input reads as it did. -/
def fnCnfTrueUptoRow : OpenClaim := { program := "ytdmfljejlhlbnaa", sum := "593f9182d22569f0327eb2482b8c4439889a07e242f7c06aadf98e96780e3e62", func := "loop.example/g00144/laws.FnCnfTrue", spec := "fnCnfTrue", unfollowed := true, recurses := true, plainKeys := false, apart := false, narrowed := true }
def FnCnfTrueUptoSaid : Prop := fnCnfTrueUptoRow.holds Try.pinned (OpenSpec.upto fnCnfTrueSpec)

/-- 'laws.FnExactPlanAdd', WHERE WHAT IT READS IS OF BULK AT MOST 1048576: true; the input reads as it did. -/
def fnExactPlanAddUptoRow : OpenClaim := { program := "ytdmfljejlhlbnaa", sum := "593f9182d22569f0327eb2482b8c4439889a07e242f7c06aadf98e96780e3e62", func := "loop.example/g00144/laws.FnExactPlanAdd", spec := "fnExactPlanAdd", inPlace := ["slices.overlaps[loop.example/g00144/impl.Place]"], unfollowed := true, recurses := true, plainKeys := false, apart := false, narrowed := true }
def FnExactPlanAddUptoSaid : Prop := fnExactPlanAddUptoRow.holds Try.pinned (OpenSpec.upto fnExactPlanAddSpec)

/-- 'laws.FnExactPlanFind', WHERE WHAT IT READS IS OF BULK AT MOST 1048576: true; the input reads as it did. -/
def fnExactPlanFindUptoRow : OpenClaim := { program := "ytdmfljejlhlbnaa", sum := "593f9182d22569f0327eb2482b8c4439889a07e242f7c06aadf98e96780e3e62", func := "loop.example/g00144/laws.FnExactPlanFind", spec := "fnExactPlanFind", unfollowed := true, recurses := true, plainKeys := false, apart := false, narrowed := true }
def FnExactPlanFindUptoSaid : Prop := fnExactPlanFindUptoRow.holds Try.pinned (OpenSpec.upto fnExactPlanFindSpec)

/-- 'laws.FnExactCnfRight', WHERE WHAT IT READS IS OF BULK AT MOST 1048576: true; the input reads as it did. -/
def fnExactCnfRightUptoRow : OpenClaim := { program := "ytdmfljejlhlbnaa", sum := "593f9182d22569f0327eb2482b8c4439889a07e242f7c06aadf98e96780e3e62", func := "loop.example/g00144/laws.FnExactCnfRight", spec := "fnExactCnfRight", unfollowed := true, recurses := true, plainKeys := false, apart := false, narrowed := true }
def FnExactCnfRightUptoSaid : Prop := fnExactCnfRightUptoRow.holds Try.pinned (OpenSpec.upto fnExactCnfRightSpec)

/-- 'laws.FnExactCnfOf', WHERE WHAT IT READS IS OF BULK AT MOST 1048576: true; the input reads as it did. -/
def fnExactCnfOfUptoRow : OpenClaim := { program := "ytdmfljejlhlbnaa", sum := "593f9182d22569f0327eb2482b8c4439889a07e242f7c06aadf98e96780e3e62", func := "loop.example/g00144/laws.FnExactCnfOf", spec := "fnExactCnfOf", unfollowed := true, recurses := true, plainKeys := false, apart := false, narrowed := true }
def FnExactCnfOfUptoSaid : Prop := fnExactCnfOfUptoRow.holds Try.pinned (OpenSpec.upto fnExactCnfOfSpec)

/-- 'laws.FnExactCnfTrue', WHERE WHAT IT READS IS OF BULK AT MOST 1048576: true; the input reads as it did. -/
def fnExactCnfTrueUptoRow : OpenClaim := { program := "ytdmfljejlhlbnaa", sum := "593f9182d22569f0327eb2482b8c4439889a07e242f7c06aadf98e96780e3e62", func := "loop.example/g00144/laws.FnExactCnfTrue", spec := "fnExactCnfTrue", unfollowed := true, recurses := true, plainKeys := false, apart := false, narrowed := true }
def FnExactCnfTrueUptoSaid : Prop := fnExactCnfTrueUptoRow.holds Try.pinned (OpenSpec.upto fnExactCnfTrueSpec)

/-- 'laws.FnExactCnfFault', WHERE WHAT IT READS IS OF BULK AT MOST 1048576: true; the input reads as it did. -/
def fnExactCnfFaultUptoRow : OpenClaim := { program := "ytdmfljejlhlbnaa", sum := "593f9182d22569f0327eb2482b8c4439889a07e242f7c06aadf98e96780e3e62", func := "loop.example/g00144/laws.FnExactCnfFault", spec := "fnExactCnfFault", unfollowed := true, recurses := true, plainKeys := false, apart := false, narrowed := true }
def FnExactCnfFaultUptoSaid : Prop := fnExactCnfFaultUptoRow.holds Try.pinned (OpenSpec.upto fnExactCnfFaultSpec)

/-- 'laws.FnExactTruesOf', WHERE WHAT IT READS IS OF BULK AT MOST 1048576: true; the input reads as it did. -/
def fnExactTruesOfUptoRow : OpenClaim := { program := "ytdmfljejlhlbnaa", sum := "593f9182d22569f0327eb2482b8c4439889a07e242f7c06aadf98e96780e3e62", func := "loop.example/g00144/laws.FnExactTruesOf", spec := "fnExactTruesOf", unfollowed := true, recurses := true, plainKeys := false, apart := false, narrowed := true }
def FnExactTruesOfUptoSaid : Prop := fnExactTruesOfUptoRow.holds Try.pinned (OpenSpec.upto fnExactTruesOfSpec)

/-- 'laws.FnExactPlanOf', WHERE WHAT IT READS IS OF BULK AT MOST 1048576: true; the input reads as it did. -/
def fnExactPlanOfUptoRow : OpenClaim := { program := "ytdmfljejlhlbnaa", sum := "593f9182d22569f0327eb2482b8c4439889a07e242f7c06aadf98e96780e3e62", func := "loop.example/g00144/laws.FnExactPlanOf", spec := "fnExactPlanOf", unfollowed := true, recurses := true, plainKeys := false, apart := false, narrowed := true }
def FnExactPlanOfUptoSaid : Prop := fnExactPlanOfUptoRow.holds Try.pinned (OpenSpec.upto fnExactPlanOfSpec)

end Rows
end Go.Proofs.Ytdmfljejlhlbnaa
