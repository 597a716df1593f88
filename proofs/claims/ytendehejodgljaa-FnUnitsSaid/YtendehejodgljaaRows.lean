/-
  No cell of these rows narrows 'for every input' (looked for: loops, veiled, ifaces, maps, wideKeys, modest, calm, conditions, laid).
  DERIVED. THE GIVEN ROWS OF THIS SEAT. 4 by the template 'for every input the law returns true; each argument reads behind the call as it read before'; 0 by the template 'total and deterministic' (their statements: YtendehejodgljaaTotals.lean).
  GIVEN WITH THE SEED: the statements are not yours to turn. If you find one false, say at which input.
  Laid BY PROGRAM, IN A SANDBOX (cutbox-rows.mjs): the forced cells as the released guide's own fill.sh prints them over the translation 4541dd5a6f2ca905… (all of the seat's roots in one cut). By AI agents, Wed Nov 11 2026. No macro, syntax, notation, axiom, sorry.
-/
import Derived.Test.YtendehejodgljaaChecked
import GoSem.Claim
import GoSem.ClaimJoined
import GoSem.ClaimMapViews
import Derived.JoinedTies
import Derived.KernelRfl
namespace Go.Proofs.Ytendehejodgljaa
/- THE CELL 'sum', in the pinned program and in every row, IS THE sha256 OF THE DUMP (.gsa) THAT YtendehejodgljaaProg.lean LOADS. Nothing in Lean hashes anything: it is a label: what it is worth is what the hold of that sum in a sandbox is worth. -/
noncomputable def Try.pinned : Pinned := { name := "ytendehejodgljaa", sum := "4541dd5a6f2ca905a66ef43b704f6b40d3e71c81a928bca8fbaa14f644a89799", checked := Try.checked }
namespace Rows
def none {H : Type} : Left H := { results := [], args := [] }

/-- 'laws.FnUnits': WHATEVER THE INPUT: true; the input reads as it did. -/
def fnUnitsSpec : ChangeSpec := { name := "fnUnits", fn := fun _ => fun
  | [d] => { results := [.lit (.bool true)], args := [d] }
  | _ => none }
def fnUnitsRow : OpenClaim := { program := "ytendehejodgljaa", sum := "4541dd5a6f2ca905a66ef43b704f6b40d3e71c81a928bca8fbaa14f644a89799", func := "loop.example/g00144/laws.FnUnits", spec := "fnUnits", unfollowed := true, recurses := true, apart := false }
def FnUnitsSaid : Prop := fnUnitsRow.holds Try.pinned (OpenSpec.ofChange fnUnitsSpec)

/-- ITS FALSE NEIGHBOUR: 'it returns false'. Refute it at one input. -/
def fnUnitsWrong : ChangeSpec := { name := "fnUnits", fn := fun _ => fun
  | [d] => { results := [.lit (.bool false)], args := [d] }
  | _ => none }
def FnUnitsWrongFalsely : Prop := fnUnitsRow.holds Try.pinned (OpenSpec.ofChange fnUnitsWrong)

/-- 'laws.FnExactUnitRun': WHATEVER THE INPUT: true; the input reads as it did. -/
def fnExactUnitRunSpec : ChangeSpec := { name := "fnExactUnitRun", fn := fun _ => fun
  | [d1, d2, d3] => { results := [.lit (.bool true)], args := [d1, d2, d3] }
  | _ => none }
def fnExactUnitRunRow : OpenClaim := { program := "ytendehejodgljaa", sum := "4541dd5a6f2ca905a66ef43b704f6b40d3e71c81a928bca8fbaa14f644a89799", func := "loop.example/g00144/laws.FnExactUnitRun", spec := "fnExactUnitRun", unfollowed := true, recurses := true, apart := false }
def FnExactUnitRunSaid : Prop := fnExactUnitRunRow.holds Try.pinned (OpenSpec.ofChange fnExactUnitRunSpec)

/-- ITS FALSE NEIGHBOUR: 'it returns false'. Refute it at one input. -/
def fnExactUnitRunWrong : ChangeSpec := { name := "fnExactUnitRun", fn := fun _ => fun
  | [d1, d2, d3] => { results := [.lit (.bool false)], args := [d1, d2, d3] }
  | _ => none }
def FnExactUnitRunWrongFalsely : Prop := fnExactUnitRunRow.holds Try.pinned (OpenSpec.ofChange fnExactUnitRunWrong)

/-- 'laws.FnExactTrailRight': WHATEVER THE INPUT: true; the input reads as it did. -/
def fnExactTrailRightSpec : ChangeSpec := { name := "fnExactTrailRight", fn := fun _ => fun
  | [d1, d2] => { results := [.lit (.bool true)], args := [d1, d2] }
  | _ => none }
def fnExactTrailRightRow : OpenClaim := { program := "ytendehejodgljaa", sum := "4541dd5a6f2ca905a66ef43b704f6b40d3e71c81a928bca8fbaa14f644a89799", func := "loop.example/g00144/laws.FnExactTrailRight", spec := "fnExactTrailRight", unfollowed := true, recurses := true, apart := false }
def FnExactTrailRightSaid : Prop := fnExactTrailRightRow.holds Try.pinned (OpenSpec.ofChange fnExactTrailRightSpec)

/-- ITS FALSE NEIGHBOUR: 'it returns false'. Refute it at one input. -/
def fnExactTrailRightWrong : ChangeSpec := { name := "fnExactTrailRight", fn := fun _ => fun
  | [d1, d2] => { results := [.lit (.bool false)], args := [d1, d2] }
  | _ => none }
def FnExactTrailRightWrongFalsely : Prop := fnExactTrailRightRow.holds Try.pinned (OpenSpec.ofChange fnExactTrailRightWrong)

/-- 'laws.FnExactLitValue': WHATEVER THE INPUT: true; the input reads as it did. -/
def fnExactLitValueSpec : ChangeSpec := { name := "fnExactLitValue", fn := fun _ => fun
  | [d1, d2] => { results := [.lit (.bool true)], args := [d1, d2] }
  | _ => none }
def fnExactLitValueRow : OpenClaim := { program := "ytendehejodgljaa", sum := "4541dd5a6f2ca905a66ef43b704f6b40d3e71c81a928bca8fbaa14f644a89799", func := "loop.example/g00144/laws.FnExactLitValue", spec := "fnExactLitValue", apart := false }
def FnExactLitValueSaid : Prop := fnExactLitValueRow.holds Try.pinned (OpenSpec.ofChange fnExactLitValueSpec)

/-- ITS FALSE NEIGHBOUR: 'it returns false'. Refute it at one input. -/
def fnExactLitValueWrong : ChangeSpec := { name := "fnExactLitValue", fn := fun _ => fun
  | [d1, d2] => { results := [.lit (.bool false)], args := [d1, d2] }
  | _ => none }
def FnExactLitValueWrongFalsely : Prop := fnExactLitValueRow.holds Try.pinned (OpenSpec.ofChange fnExactLitValueWrong)

/- THE SECOND FORM. 'bulk': how many values and letters a reading holds, each counted each time it is reached (what is shared counts as often as it is met; a slice's spare places count too). A statement '..UptoSaid' is the law's where the arguments, and the package variables that the reading takes, are together of bulk at most 1048576: NARROWER than '..Said'. Prove '..Said' where nothing that the law and all that it calls make is longer than what came in: it says more and counts as full. Else prove '..UptoSaid'. A law counts once. -/
mutual
def uptoBulk {H : Type} : DataW H → Nat
  | .lit (.string bytes) => bytes.length + 1
  | .lit _ => 1
  | .nil => 1
  | .ptr d => uptoBulk d + 1
  | .slice elems spare => uptoBulkAll elems + uptoBulkAll spare + 1
  | .agg parts => uptoBulkAll parts + 1
  | .iface _ d => uptoBulk d + 1
  | .map entries => uptoBulkEntries entries + 1
  | .held _ => 1
def uptoBulkAll {H : Type} : List (DataW H) → Nat
  | [] => 0
  | d :: r => uptoBulk d + uptoBulkAll r
def uptoBulkEntries {H : Type} : List (Lit × DataW H) → Nat
  | [] => 0
  | x :: r => uptoBulkEntry x + uptoBulkEntries r
def uptoBulkEntry {H : Type} : Lit × DataW H → Nat
  | (.string bytes, d) => bytes.length + uptoBulk d + 1
  | (_, d) => uptoBulk d + 1
 end
def uptoSmall : (H : Type) → List (DataW H) → Bool := fun _ ds => decide (uptoBulkAll ds ≤ 1048576)
def OpenSpec.upto (s : _root_.Go.ChangeSpec) : _root_.Go.OpenSpec := { _root_.Go.OpenSpec.ofChange s with cond := some uptoSmall }

/-- 'laws.FnUnits', WHERE WHAT IT READS IS OF BULK AT MOST 1048576: true; the input reads as it did. -/
def fnUnitsUptoRow : OpenClaim := { program := "ytendehejodgljaa", sum := "4541dd5a6f2ca905a66ef43b704f6b40d3e71c81a928bca8fbaa14f644a89799", func := "loop.example/g00144/laws.FnUnits", spec := "fnUnits", unfollowed := true, recurses := true, apart := false, narrowed := true }
def FnUnitsUptoSaid : Prop := fnUnitsUptoRow.holds Try.pinned (OpenSpec.upto fnUnitsSpec)

/-- 'laws.FnExactUnitRun', WHERE WHAT IT READS IS OF BULK AT MOST 1048576: true; the input reads as it did. -/
def fnExactUnitRunUptoRow : OpenClaim := { program := "ytendehejodgljaa", sum := "4541dd5a6f2ca905a66ef43b704f6b40d3e71c81a928bca8fbaa14f644a89799", func := "loop.example/g00144/laws.FnExactUnitRun", spec := "fnExactUnitRun", unfollowed := true, recurses := true, apart := false, narrowed := true }
def FnExactUnitRunUptoSaid : Prop := fnExactUnitRunUptoRow.holds Try.pinned (OpenSpec.upto fnExactUnitRunSpec)

/-- 'laws.FnExactTrailRight', WHERE WHAT IT READS IS OF BULK AT MOST 1048576: true; the input reads as it did. -/
def fnExactTrailRightUptoRow : OpenClaim := { program := "ytendehejodgljaa", sum := "4541dd5a6f2ca905a66ef43b704f6b40d3e71c81a928bca8fbaa14f644a89799", func := "loop.example/g00144/laws.FnExactTrailRight", spec := "fnExactTrailRight", unfollowed := true, recurses := true, apart := false, narrowed := true }
def FnExactTrailRightUptoSaid : Prop := fnExactTrailRightUptoRow.holds Try.pinned (OpenSpec.upto fnExactTrailRightSpec)

/-- 'laws.FnExactLitValue', WHERE WHAT IT READS IS OF BULK AT MOST 1048576: true; the input reads as it did. -/
def fnExactLitValueUptoRow : OpenClaim := { program := "ytendehejodgljaa", sum := "4541dd5a6f2ca905a66ef43b704f6b40d3e71c81a928bca8fbaa14f644a89799", func := "loop.example/g00144/laws.FnExactLitValue", spec := "fnExactLitValue", apart := false, narrowed := true }
def FnExactLitValueUptoSaid : Prop := fnExactLitValueUptoRow.holds Try.pinned (OpenSpec.upto fnExactLitValueSpec)

end Rows
end Go.Proofs.Ytendehejodgljaa
