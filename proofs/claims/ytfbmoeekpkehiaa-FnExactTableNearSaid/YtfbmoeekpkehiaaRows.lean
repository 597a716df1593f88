/-
  No cell of these rows narrows 'for every input' (looked for: loops, veiled, ifaces, maps, wideKeys, modest, calm, conditions, laid).
  DERIVED. THE GIVEN ROWS OF THIS SEAT. 5 by the template 'for every input the law returns true; each argument reads behind the call as it read before'; 0 by the template 'total and deterministic' (their statements: YtfbmoeekpkehiaaTotals.lean).
  GIVEN WITH THE SEED: the statements are not yours to turn. If you find one false, say at which input.
  Laid BY PROGRAM, IN A SANDBOX (cutbox-rows.mjs): the forced cells as the released guide's own fill.sh prints them over the translation 01f4756d75ab585f… (all of the seat's roots in one cut). By AI agents, Wed Nov 11 2026. No macro, syntax, notation, axiom, sorry.
-/
import Derived.Test.YtfbmoeekpkehiaaChecked
import GoSem.Claim
import GoSem.ClaimJoined
import GoSem.ClaimMapViews
import Derived.JoinedTies
import Derived.KernelRfl
namespace Go.Proofs.Ytfbmoeekpkehiaa
/- THE CELL 'sum', in the pinned program and in every row, IS THE sha256 OF THE DUMP (.gsa) THAT YtfbmoeekpkehiaaProg.lean LOADS. Nothing in Lean hashes anything: it is a label: what it is worth is what the hold of that sum in a sandbox is worth. -/
noncomputable def Try.pinned : Pinned := { name := "ytfbmoeekpkehiaa", sum := "01f4756d75ab585f5d67fe56aa304d48bbcc8dc6c7df3e28ece1f70c745f50a9", checked := Try.checked }
namespace Rows
def none {H : Type} : Left H := { results := [], args := [] }

/-- 'laws.FnNear': WHATEVER THE INPUT: true; the input reads as it did. -/
def fnNearSpec : ChangeSpec := { name := "fnNear", fn := fun _ => fun
  | [d1, d2] => { results := [.lit (.bool true)], args := [d1, d2] }
  | _ => none }
def fnNearRow : OpenClaim := { program := "ytfbmoeekpkehiaa", sum := "01f4756d75ab585f5d67fe56aa304d48bbcc8dc6c7df3e28ece1f70c745f50a9", func := "loop.example/g00144/laws.FnNear", spec := "fnNear", unfollowed := true, recurses := true, plainKeys := false, apart := false }
def FnNearSaid : Prop := fnNearRow.holds Try.pinned (OpenSpec.ofChange fnNearSpec)

/-- ITS FALSE NEIGHBOUR: 'it returns false'. Refute it at one input. -/
def fnNearWrong : ChangeSpec := { name := "fnNear", fn := fun _ => fun
  | [d1, d2] => { results := [.lit (.bool false)], args := [d1, d2] }
  | _ => none }
def FnNearWrongFalsely : Prop := fnNearRow.holds Try.pinned (OpenSpec.ofChange fnNearWrong)

/-- 'laws.FnExactTableRight': WHATEVER THE INPUT: true; the input reads as it did. -/
def fnExactTableRightSpec : ChangeSpec := { name := "fnExactTableRight", fn := fun _ => fun
  | [d] => { results := [.lit (.bool true)], args := [d] }
  | _ => none }
def fnExactTableRightRow : OpenClaim := { program := "ytfbmoeekpkehiaa", sum := "01f4756d75ab585f5d67fe56aa304d48bbcc8dc6c7df3e28ece1f70c745f50a9", func := "loop.example/g00144/laws.FnExactTableRight", spec := "fnExactTableRight", unfollowed := true, recurses := true, plainKeys := false, apart := false }
def FnExactTableRightSaid : Prop := fnExactTableRightRow.holds Try.pinned (OpenSpec.ofChange fnExactTableRightSpec)

/-- ITS FALSE NEIGHBOUR: 'it returns false'. Refute it at one input. -/
def fnExactTableRightWrong : ChangeSpec := { name := "fnExactTableRight", fn := fun _ => fun
  | [d] => { results := [.lit (.bool false)], args := [d] }
  | _ => none }
def FnExactTableRightWrongFalsely : Prop := fnExactTableRightRow.holds Try.pinned (OpenSpec.ofChange fnExactTableRightWrong)

/-- 'laws.FnExactDomainOf': WHATEVER THE INPUT: true; the input reads as it did. -/
def fnExactDomainOfSpec : ChangeSpec := { name := "fnExactDomainOf", fn := fun _ => fun
  | [d1, d2, d3] => { results := [.lit (.bool true)], args := [d1, d2, d3] }
  | _ => none }
def fnExactDomainOfRow : OpenClaim := { program := "ytfbmoeekpkehiaa", sum := "01f4756d75ab585f5d67fe56aa304d48bbcc8dc6c7df3e28ece1f70c745f50a9", func := "loop.example/g00144/laws.FnExactDomainOf", spec := "fnExactDomainOf", unfollowed := true, recurses := true, plainKeys := false, apart := false }
def FnExactDomainOfSaid : Prop := fnExactDomainOfRow.holds Try.pinned (OpenSpec.ofChange fnExactDomainOfSpec)

/-- ITS FALSE NEIGHBOUR: 'it returns false'. Refute it at one input. -/
def fnExactDomainOfWrong : ChangeSpec := { name := "fnExactDomainOf", fn := fun _ => fun
  | [d1, d2, d3] => { results := [.lit (.bool false)], args := [d1, d2, d3] }
  | _ => none }
def FnExactDomainOfWrongFalsely : Prop := fnExactDomainOfRow.holds Try.pinned (OpenSpec.ofChange fnExactDomainOfWrong)

/-- 'laws.FnExactTableNear': WHATEVER THE INPUT: true; the input reads as it did. -/
def fnExactTableNearSpec : ChangeSpec := { name := "fnExactTableNear", fn := fun _ => fun
  | [d1, d2] => { results := [.lit (.bool true)], args := [d1, d2] }
  | _ => none }
def fnExactTableNearRow : OpenClaim := { program := "ytfbmoeekpkehiaa", sum := "01f4756d75ab585f5d67fe56aa304d48bbcc8dc6c7df3e28ece1f70c745f50a9", func := "loop.example/g00144/laws.FnExactTableNear", spec := "fnExactTableNear", unfollowed := true, recurses := true, plainKeys := false, apart := false }
def FnExactTableNearSaid : Prop := fnExactTableNearRow.holds Try.pinned (OpenSpec.ofChange fnExactTableNearSpec)

/-- ITS FALSE NEIGHBOUR: 'it returns false'. Refute it at one input. -/
def fnExactTableNearWrong : ChangeSpec := { name := "fnExactTableNear", fn := fun _ => fun
  | [d1, d2] => { results := [.lit (.bool false)], args := [d1, d2] }
  | _ => none }
def FnExactTableNearWrongFalsely : Prop := fnExactTableNearRow.holds Try.pinned (OpenSpec.ofChange fnExactTableNearWrong)

/-- 'laws.FnExactTableIds': WHATEVER THE INPUT: true; the input reads as it did. -/
def fnExactTableIdsSpec : ChangeSpec := { name := "fnExactTableIds", fn := fun _ => fun
  | [d] => { results := [.lit (.bool true)], args := [d] }
  | _ => none }
def fnExactTableIdsRow : OpenClaim := { program := "ytfbmoeekpkehiaa", sum := "01f4756d75ab585f5d67fe56aa304d48bbcc8dc6c7df3e28ece1f70c745f50a9", func := "loop.example/g00144/laws.FnExactTableIds", spec := "fnExactTableIds", unfollowed := true, recurses := true, plainKeys := false, apart := false }
def FnExactTableIdsSaid : Prop := fnExactTableIdsRow.holds Try.pinned (OpenSpec.ofChange fnExactTableIdsSpec)

/-- ITS FALSE NEIGHBOUR: 'it returns false'. Refute it at one input. -/
def fnExactTableIdsWrong : ChangeSpec := { name := "fnExactTableIds", fn := fun _ => fun
  | [d] => { results := [.lit (.bool false)], args := [d] }
  | _ => none }
def FnExactTableIdsWrongFalsely : Prop := fnExactTableIdsRow.holds Try.pinned (OpenSpec.ofChange fnExactTableIdsWrong)

/- THE SECOND FORM. 'bulk': how many values and letters a reading holds, each counted each time it is reached (what is shared counts as often as it is met; a slice's spare places count too). A statement '..UptoSaid' is the law's where the arguments, and the package variables that the reading takes, are together of bulk at most 1048576: NARROWER than '..Said'. Prove '..Said' where nothing that the law and all that it calls make is longer than what came in: it says more and counts as full. Else prove '..UptoSaid'. A law counts once. -/
mutual
def uptoBulk {H : Type} : DataW H → Nat
  | .lit (.string bytes) => bytes.length + 1
  | .lit _ => 1
  | .nil => 1
  | .ptr d => uptoBulk d + 1
  | .slice elems spare => uptoBulkAll elems + uptoBulkAll spare + 1
  | .agg parts => uptoBulkAll parts + 1
  | .iface _ d => uptoBulk d + 1
  | .map entries => uptoBulkEntries entries + 1
  | .held _ => 1
def uptoBulkAll {H : Type} : List (DataW H) → Nat
  | [] => 0
  | d :: r => uptoBulk d + uptoBulkAll r
def uptoBulkEntries {H : Type} : List (Lit × DataW H) → Nat
  | [] => 0
  | x :: r => uptoBulkEntry x + uptoBulkEntries r
def uptoBulkEntry {H : Type} : Lit × DataW H → Nat
  | (.string bytes, d) => bytes.length + uptoBulk d + 1
  | (_, d) => uptoBulk d + 1
 end
def uptoSmall : (H : Type) → List (DataW H) → Bool := fun _ ds => decide (uptoBulkAll ds ≤ 1048576)
def OpenSpec.upto (s : _root_.Go.ChangeSpec) : _root_.Go.OpenSpec := { _root_.Go.OpenSpec.ofChange s with cond := some uptoSmall }

/-- 'laws.FnNear', WHERE WHAT IT READS IS OF BULK AT MOST 1048576: true; the input reads as it did. -/
def fnNearUptoRow : OpenClaim := { program := "ytfbmoeekpkehiaa", sum := "01f4756d75ab585f5d67fe56aa304d48bbcc8dc6c7df3e28ece1f70c745f50a9", func := "loop.example/g00144/laws.FnNear", spec := "fnNear", unfollowed := true, recurses := true, plainKeys := false, apart := false, narrowed := true }
def FnNearUptoSaid : Prop := fnNearUptoRow.holds Try.pinned (OpenSpec.upto fnNearSpec)

/-- 'laws.FnExactTableRight', WHERE WHAT IT READS IS OF BULK AT MOST 1048576: true; the input reads as it did. -/
def fnExactTableRightUptoRow : OpenClaim := { program := "ytfbmoeekpkehiaa", sum := "01f4756d75ab585f5d67fe56aa304d48bbcc8dc6c7df3e28ece1f70c745f50a9", func := "loop.example/g00144/laws.FnExactTableRight", spec := "fnExactTableRight", unfollowed := true, recurses := true, plainKeys := false, apart := false, narrowed := true }
def FnExactTableRightUptoSaid : Prop := fnExactTableRightUptoRow.holds Try.pinned (OpenSpec.upto fnExactTableRightSpec)

/-- 'laws.FnExactDomainOf', WHERE WHAT IT READS IS OF BULK AT MOST 1048576: true; the input reads as it did. -/
def fnExactDomainOfUptoRow : OpenClaim := { program := "ytfbmoeekpkehiaa", sum := "01f4756d75ab585f5d67fe56aa304d48bbcc8dc6c7df3e28ece1f70c745f50a9", func := "loop.example/g00144/laws.FnExactDomainOf", spec := "fnExactDomainOf", unfollowed := true, recurses := true, plainKeys := false, apart := false, narrowed := true }
def FnExactDomainOfUptoSaid : Prop := fnExactDomainOfUptoRow.holds Try.pinned (OpenSpec.upto fnExactDomainOfSpec)

/-- 'laws.FnExactTableNear', WHERE WHAT IT READS IS OF BULK AT MOST 1048576: true; the input reads as it did. -/
def fnExactTableNearUptoRow : OpenClaim := { program := "ytfbmoeekpkehiaa", sum := "01f4756d75ab585f5d67fe56aa304d48bbcc8dc6c7df3e28ece1f70c745f50a9", func := "loop.example/g00144/laws.FnExactTableNear", spec := "fnExactTableNear", unfollowed := true, recurses := true, plainKeys := false, apart := false, narrowed := true }
def FnExactTableNearUptoSaid : Prop := fnExactTableNearUptoRow.holds Try.pinned (OpenSpec.upto fnExactTableNearSpec)

/-- 'laws.FnExactTableIds', WHERE WHAT IT READS IS OF BULK AT MOST 1048576: true; the input reads as it did. -/
def fnExactTableIdsUptoRow : OpenClaim := { program := "ytfbmoeekpkehiaa", sum := "01f4756d75ab585f5d67fe56aa304d48bbcc8dc6c7df3e28ece1f70c745f50a9", func := "loop.example/g00144/laws.FnExactTableIds", spec := "fnExactTableIds", unfollowed := true, recurses := true, plainKeys := false, apart := false, narrowed := true }
def FnExactTableIdsUptoSaid : Prop := fnExactTableIdsUptoRow.holds Try.pinned (OpenSpec.upto fnExactTableIdsSpec)

end Rows
end Go.Proofs.Ytfbmoeekpkehiaa
