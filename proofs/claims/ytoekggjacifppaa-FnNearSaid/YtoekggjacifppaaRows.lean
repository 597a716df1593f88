/-
  No cell of these rows narrows 'for every input' (looked for: loops, veiled, ifaces, maps, wideKeys, modest, calm, conditions, laid).
  DERIVED. THE GIVEN ROWS OF THIS SEAT. 9 by the template 'for every input the law returns true; each argument reads behind the call as it read before'; 0 by the template 'total and deterministic' (their statements: YtoekggjacifppaaTotals.lean).
  GIVEN WITH THE SEED: the statements are not yours to turn. If you find one false, say at which input.
  Laid BY PROGRAM, IN A SANDBOX (cutbox-rows.mjs): the forced cells as the released guide's own fill.sh prints them over the translation 2ade2a7265f15cef… (all of the seat's roots in one cut). By AI agents, Wed Nov 11 2026. No macro, syntax, notation, axiom, sorry.
-/
import Derived.Test.YtoekggjacifppaaChecked
import GoSem.Claim
import GoSem.ClaimJoined
import GoSem.ClaimMapViews
import Derived.JoinedTies
import Derived.KernelRfl
namespace Go.Proofs.Ytoekggjacifppaa
/- THE CELL 'sum', in the pinned program and in every row, IS THE sha256 OF THE DUMP (.gsa) THAT YtoekggjacifppaaProg.lean LOADS. Nothing in Lean hashes anything: it is a label: what it is worth is what the hold of that sum in a sandbox is worth. -/
noncomputable def Try.pinned : Pinned := { name := "ytoekggjacifppaa", sum := "2ade2a7265f15cef2f4dd835aa6c897f56545cf96b1ae490fab7e7cdb082f6fb", checked := Try.checked }
namespace Rows
def none {H : Type} : Left H := { results := [], args := [] }

/-- 'laws.FnNear': WHATEVER THE INPUT: true; the input reads as it did. -/
def fnNearSpec : ChangeSpec := { name := "fnNear", fn := fun _ => fun
  | [d1, d2] => { results := [.lit (.bool true)], args := [d1, d2] }
  | _ => none }
def fnNearRow : OpenClaim := { program := "ytoekggjacifppaa", sum := "2ade2a7265f15cef2f4dd835aa6c897f56545cf96b1ae490fab7e7cdb082f6fb", func := "loop.example/g00144/laws.FnNear", spec := "fnNear", unfollowed := true, recurses := true, plainKeys := false, apart := false }
def FnNearSaid : Prop := fnNearRow.holds Try.pinned (OpenSpec.ofChange fnNearSpec)

/-- ITS FALSE NEIGHBOUR: 'it returns false'. Refute it at one input. -/
def fnNearWrong : ChangeSpec := { name := "fnNear", fn := fun _ => fun
  | [d1, d2] => { results := [.lit (.bool false)], args := [d1, d2] }
  | _ => none }
def FnNearWrongFalsely : Prop := fnNearRow.holds Try.pinned (OpenSpec.ofChange fnNearWrong)

/-- 'laws.FnPlanAdd': WHATEVER THE INPUT: true; the input reads as it did. -/
def fnPlanAddSpec : ChangeSpec := { name := "fnPlanAdd", fn := fun _ => fun
  | [d] => { results := [.lit (.bool true)], args := [d] }
  | _ => none }
def fnPlanAddRow : OpenClaim := { program := "ytoekggjacifppaa", sum := "2ade2a7265f15cef2f4dd835aa6c897f56545cf96b1ae490fab7e7cdb082f6fb", func := "loop.example/g00144/laws.FnPlanAdd", spec := "fnPlanAdd", inPlace := ["slices.overlaps[loop.example/g00144/impl.Place]"], unfollowed := true, recurses := true, plainKeys := false, apart := false }
def FnPlanAddSaid : Prop := fnPlanAddRow.holds Try.pinned (OpenSpec.ofChange fnPlanAddSpec)

/-- ITS FALSE NEIGHBOUR: 'it returns false'. Refute it at one input. -/
def fnPlanAddWrong : ChangeSpec := { name := "fnPlanAdd", fn := fun _ => fun
  | [d] => { results := [.lit (.bool false)], args := [d] }
  | _ => none }
def FnPlanAddWrongFalsely : Prop := fnPlanAddRow.holds Try.pinned (OpenSpec.ofChange fnPlanAddWrong)

/-- 'laws.FnExactDomainOf': WHATEVER THE INPUT: true; the input reads as it did. -/
def fnExactDomainOfSpec : ChangeSpec := { name := "fnExactDomainOf", fn := fun _ => fun
  | [d1, d2, d3] => { results := [.lit (.bool true)], args := [d1, d2, d3] }
  | _ => none }
def fnExactDomainOfRow : OpenClaim := { program := "ytoekggjacifppaa", sum := "2ade2a7265f15cef2f4dd835aa6c897f56545cf96b1ae490fab7e7cdb082f6fb", func := "loop.example/g00144/laws.FnExactDomainOf", spec := "fnExactDomainOf", unfollowed := true, recurses := true, plainKeys := false, apart := false }
def FnExactDomainOfSaid : Prop := fnExactDomainOfRow.holds Try.pinned (OpenSpec.ofChange fnExactDomainOfSpec)

/-- ITS FALSE NEIGHBOUR: 'it returns false'. Refute it at one input. -/
def fnExactDomainOfWrong : ChangeSpec := { name := "fnExactDomainOf", fn := fun _ => fun
  | [d1, d2, d3] => { results := [.lit (.bool false)], args := [d1, d2, d3] }
  | _ => none }
def FnExactDomainOfWrongFalsely : Prop := fnExactDomainOfRow.holds Try.pinned (OpenSpec.ofChange fnExactDomainOfWrong)

/-- 'laws.FnExactPlanRight': WHATEVER THE INPUT: true; the input reads as it did. -/
def fnExactPlanRightSpec : ChangeSpec := { name := "fnExactPlanRight", fn := fun _ => fun
  | [d1, d2, d3] => { results := [.lit (.bool true)], args := [d1, d2, d3] }
  | _ => none }
def fnExactPlanRightRow : OpenClaim := { program := "ytoekggjacifppaa", sum := "2ade2a7265f15cef2f4dd835aa6c897f56545cf96b1ae490fab7e7cdb082f6fb", func := "loop.example/g00144/laws.FnExactPlanRight", spec := "fnExactPlanRight", unfollowed := true, recurses := true, plainKeys := false, apart := false }
def FnExactPlanRightSaid : Prop := fnExactPlanRightRow.holds Try.pinned (OpenSpec.ofChange fnExactPlanRightSpec)

/-- ITS FALSE NEIGHBOUR: 'it returns false'. Refute it at one input. -/
def fnExactPlanRightWrong : ChangeSpec := { name := "fnExactPlanRight", fn := fun _ => fun
  | [d1, d2, d3] => { results := [.lit (.bool false)], args := [d1, d2, d3] }
  | _ => none }
def FnExactPlanRightWrongFalsely : Prop := fnExactPlanRightRow.holds Try.pinned (OpenSpec.ofChange fnExactPlanRightWrong)

/-- 'laws.FnExactPlanFault': WHATEVER THE INPUT: true; the input reads as it did. -/
def fnExactPlanFaultSpec : ChangeSpec := { name := "fnExactPlanFault", fn := fun _ => fun
  | [d1, d2, d3] => { results := [.lit (.bool true)], args := [d1, d2, d3] }
  | _ => none }
def fnExactPlanFaultRow : OpenClaim := { program := "ytoekggjacifppaa", sum := "2ade2a7265f15cef2f4dd835aa6c897f56545cf96b1ae490fab7e7cdb082f6fb", func := "loop.example/g00144/laws.FnExactPlanFault", spec := "fnExactPlanFault", unfollowed := true, recurses := true, plainKeys := false, apart := false }
def FnExactPlanFaultSaid : Prop := fnExactPlanFaultRow.holds Try.pinned (OpenSpec.ofChange fnExactPlanFaultSpec)

/-- ITS FALSE NEIGHBOUR: 'it returns false'. Refute it at one input. -/
def fnExactPlanFaultWrong : ChangeSpec := { name := "fnExactPlanFault", fn := fun _ => fun
  | [d1, d2, d3] => { results := [.lit (.bool false)], args := [d1, d2, d3] }
  | _ => none }
def FnExactPlanFaultWrongFalsely : Prop := fnExactPlanFaultRow.holds Try.pinned (OpenSpec.ofChange fnExactPlanFaultWrong)

/-- 'laws.FnExactPlanAdd': WHATEVER THE INPUT: true; the input reads as it did. -/
def fnExactPlanAddSpec : ChangeSpec := { name := "fnExactPlanAdd", fn := fun _ => fun
  | [d1, d2, d3, d4] => { results := [.lit (.bool true)], args := [d1, d2, d3, d4] }
  | _ => none }
def fnExactPlanAddRow : OpenClaim := { program := "ytoekggjacifppaa", sum := "2ade2a7265f15cef2f4dd835aa6c897f56545cf96b1ae490fab7e7cdb082f6fb", func := "loop.example/g00144/laws.FnExactPlanAdd", spec := "fnExactPlanAdd", inPlace := ["slices.overlaps[loop.example/g00144/impl.Place]"], unfollowed := true, recurses := true, plainKeys := false, apart := false }
def FnExactPlanAddSaid : Prop := fnExactPlanAddRow.holds Try.pinned (OpenSpec.ofChange fnExactPlanAddSpec)

/-- ITS FALSE NEIGHBOUR: 'it returns false'. Refute it at one input. -/
def fnExactPlanAddWrong : ChangeSpec := { name := "fnExactPlanAdd", fn := fun _ => fun
  | [d1, d2, d3, d4] => { results := [.lit (.bool false)], args := [d1, d2, d3, d4] }
  | _ => none }
def FnExactPlanAddWrongFalsely : Prop := fnExactPlanAddRow.holds Try.pinned (OpenSpec.ofChange fnExactPlanAddWrong)

/-- 'laws.FnExactPlanFind': WHATEVER THE INPUT: true; the input reads as it did. -/
def fnExactPlanFindSpec : ChangeSpec := { name := "fnExactPlanFind", fn := fun _ => fun
  | [d1, d2, d3, d4] => { results := [.lit (.bool true)], args := [d1, d2, d3, d4] }
  | _ => none }
def fnExactPlanFindRow : OpenClaim := { program := "ytoekggjacifppaa", sum := "2ade2a7265f15cef2f4dd835aa6c897f56545cf96b1ae490fab7e7cdb082f6fb", func := "loop.example/g00144/laws.FnExactPlanFind", spec := "fnExactPlanFind", unfollowed := true, recurses := true, plainKeys := false, apart := false }
def FnExactPlanFindSaid : Prop := fnExactPlanFindRow.holds Try.pinned (OpenSpec.ofChange fnExactPlanFindSpec)

/-- ITS FALSE NEIGHBOUR: 'it returns false'. Refute it at one input. -/
def fnExactPlanFindWrong : ChangeSpec := { name := "fnExactPlanFind", fn := fun _ => fun
  | [d1, d2, d3, d4] => { results := [.lit (.bool false)], args := [d1, d2, d3, d4] }
  | _ => none }
def FnExactPlanFindWrongFalsely : Prop := fnExactPlanFindRow.holds Try.pinned (OpenSpec.ofChange fnExactPlanFindWrong)

/-- 'laws.FnExactPlanIds': WHATEVER THE INPUT: true; the input reads as it did. -/
def fnExactPlanIdsSpec : ChangeSpec := { name := "fnExactPlanIds", fn := fun _ => fun
  | [d] => { results := [.lit (.bool true)], args := [d] }
  | _ => none }
def fnExactPlanIdsRow : OpenClaim := { program := "ytoekggjacifppaa", sum := "2ade2a7265f15cef2f4dd835aa6c897f56545cf96b1ae490fab7e7cdb082f6fb", func := "loop.example/g00144/laws.FnExactPlanIds", spec := "fnExactPlanIds", plainKeys := false, apart := false }
def FnExactPlanIdsSaid : Prop := fnExactPlanIdsRow.holds Try.pinned (OpenSpec.ofChange fnExactPlanIdsSpec)

/-- ITS FALSE NEIGHBOUR: 'it returns false'. Refute it at one input. -/
def fnExactPlanIdsWrong : ChangeSpec := { name := "fnExactPlanIds", fn := fun _ => fun
  | [d] => { results := [.lit (.bool false)], args := [d] }
  | _ => none }
def FnExactPlanIdsWrongFalsely : Prop := fnExactPlanIdsRow.holds Try.pinned (OpenSpec.ofChange fnExactPlanIdsWrong)

/-- 'laws.FnExactIdsRight': WHATEVER THE INPUT: true; the input reads as it did. -/
def fnExactIdsRightSpec : ChangeSpec := { name := "fnExactIdsRight", fn := fun _ => fun
  | [d1, d2] => { results := [.lit (.bool true)], args := [d1, d2] }
  | _ => none }
def fnExactIdsRightRow : OpenClaim := { program := "ytoekggjacifppaa", sum := "2ade2a7265f15cef2f4dd835aa6c897f56545cf96b1ae490fab7e7cdb082f6fb", func := "loop.example/g00144/laws.FnExactIdsRight", spec := "fnExactIdsRight", unfollowed := true, recurses := true, plainKeys := false, apart := false }
def FnExactIdsRightSaid : Prop := fnExactIdsRightRow.holds Try.pinned (OpenSpec.ofChange fnExactIdsRightSpec)

/-- ITS FALSE NEIGHBOUR: 'it returns false'. Refute it at one input. -/
def fnExactIdsRightWrong : ChangeSpec := { name := "fnExactIdsRight", fn := fun _ => fun
  | [d1, d2] => { results := [.lit (.bool false)], args := [d1, d2] }
  | _ => none }
def FnExactIdsRightWrongFalsely : Prop := fnExactIdsRightRow.holds Try.pinned (OpenSpec.ofChange fnExactIdsRightWrong)

/- THE SECOND FORM. 'bulk': how many values and letters a reading holds, each counted each time it is reached (what is shared counts as often as it is met; a slice's spare places count too). A statement '..UptoSaid' is the law's where the arguments, and the package variables that the reading takes, are together of bulk at most 1048576: NARROWER than '..Said'. Prove '..Said' where nothing that the law and all that it calls make is longer than what came in: it says more and counts as full. Else prove '..UptoSaid'. A law counts once. -/
mutual
def uptoBulk {H : Type} : DataW H → Nat
  | .lit (.string bytes) => bytes.length + 1
  | .lit _ => 1
  | .nil => 1
  | .ptr d => uptoBulk d + 1
  | .slice elems spare => uptoBulkAll elems + uptoBulkAll spare + 1
  | .agg parts => uptoBulkAll parts + 1
  | .iface _ d => uptoBulk d + 1
  | .map entries => uptoBulkEntries entries + 1
  | .held _ => 1
def uptoBulkAll {H : Type} : List (DataW H) → Nat
  | [] => 0
  | d :: r => uptoBulk d + uptoBulkAll r
def uptoBulkEntries {H : Type} : List (Lit × DataW H) → Nat
  | [] => 0
  | x :: r => uptoBulkEntry x + uptoBulkEntries r
def uptoBulkEntry {H : Type} : Lit × DataW H → Nat
  | (.string bytes, d) => bytes.length + uptoBulk d + 1
  | (_, d) => uptoBulk d + 1
 end
def uptoSmall : (H : Type) → List (DataW H) → Bool := fun _ ds => decide (uptoBulkAll ds ≤ 1048576)
def OpenSpec.upto (s : _root_.Go.ChangeSpec) : _root_.Go.OpenSpec := { _root_.Go.OpenSpec.ofChange s with cond := some uptoSmall }

/-- 'laws.FnNear', WHERE WHAT IT READS IS OF BULK AT MOST 1048576: true; the input reads as it did. -/
def fnNearUptoRow : OpenClaim := { program := "ytoekggjacifppaa", sum := "2ade2a7265f15cef2f4dd835aa6c897f56545cf96b1ae490fab7e7cdb082f6fb", func := "loop.example/g00144/laws.FnNear", spec := "fnNear", unfollowed := true, recurses := true, plainKeys := false, apart := false, narrowed := true }
def FnNearUptoSaid : Prop := fnNearUptoRow.holds Try.pinned (OpenSpec.upto fnNearSpec)

/-- 'laws.FnPlanAdd', WHERE WHAT IT READS IS OF BULK AT MOST 1048576: true; the input reads as it did. -/
def fnPlanAddUptoRow : OpenClaim := { program := "ytoekggjacifppaa", sum := "2ade2a7265f15cef2f4dd835aa6c897f56545cf96b1ae490fab7e7cdb082f6fb", func := "loop.example/g00144/laws.FnPlanAdd", spec := "fnPlanAdd", inPlace := ["slices.overlaps[loop.example/g00144/impl.Place]"], unfollowed := true, recurses := true, plainKeys := false, apart := false, narrowed := true }
def FnPlanAddUptoSaid : Prop := fnPlanAddUptoRow.holds Try.pinned (OpenSpec.upto fnPlanAddSpec)

/-- 'laws.FnExactDomainOf', WHERE WHAT IT READS IS OF BULK AT MOST 1048576: true; the input reads as it did. -/
def fnExactDomainOfUptoRow : OpenClaim := { program := "ytoekggjacifppaa", sum := "2ade2a7265f15cef2f4dd835aa6c897f56545cf96b1ae490fab7e7cdb082f6fb", func := "loop.example/g00144/laws.FnExactDomainOf", spec := "fnExactDomainOf", unfollowed := true, recurses := true, plainKeys := false, apart := false, narrowed := true }
def FnExactDomainOfUptoSaid : Prop := fnExactDomainOfUptoRow.holds Try.pinned (OpenSpec.upto fnExactDomainOfSpec)

/-- 'laws.FnExactPlanRight', WHERE WHAT IT READS IS OF BULK AT MOST 1048576: true; the input reads as it did. -/
def fnExactPlanRightUptoRow : OpenClaim := { program := "ytoekggjacifppaa", sum := "2ade2a7265f15cef2f4dd835aa6c897f56545cf96b1ae490fab7e7cdb082f6fb", func := "loop.example/g00144/laws.FnExactPlanRight", spec := "fnExactPlanRight", unfollowed := true, recurses := true, plainKeys := false, apart := false, narrowed := true }
def FnExactPlanRightUptoSaid : Prop := fnExactPlanRightUptoRow.holds Try.pinned (OpenSpec.upto fnExactPlanRightSpec)

/-- 'laws.FnExactPlanFault', WHERE WHAT IT READS IS OF BULK AT MOST 1048576: true; the input reads as it did. -/
def fnExactPlanFaultUptoRow : OpenClaim := { program := "ytoekggjacifppaa", sum := "2ade2a7265f15cef2f4dd835aa6c897f56545cf96b1ae490fab7e7cdb082f6fb", func := "loop.example/g00144/laws.FnExactPlanFault", spec := "fnExactPlanFault", unfollowed := true, recurses := true, plainKeys := false, apart := false, narrowed := true }
def FnExactPlanFaultUptoSaid : Prop := fnExactPlanFaultUptoRow.holds Try.pinned (OpenSpec.upto fnExactPlanFaultSpec)

/-- 'laws.FnExactPlanAdd', WHERE WHAT IT READS IS OF BULK AT MOST 1048576: true; the input reads as it did. -/
def fnExactPlanAddUptoRow : OpenClaim := { program := "ytoekggjacifppaa", sum := "2ade2a7265f15cef2f4dd835aa6c897f56545cf96b1ae490fab7e7cdb082f6fb", func := "loop.example/g00144/laws.FnExactPlanAdd", spec := "fnExactPlanAdd", inPlace := ["slices.overlaps[loop.example/g00144/impl.Place]"], unfollowed := true, recurses := true, plainKeys := false, apart := false, narrowed := true }
def FnExactPlanAddUptoSaid : Prop := fnExactPlanAddUptoRow.holds Try.pinned (OpenSpec.upto fnExactPlanAddSpec)

/-- 'laws.FnExactPlanFind', WHERE WHAT IT READS IS OF BULK AT MOST 1048576: true; the input reads as it did. -/
def fnExactPlanFindUptoRow : OpenClaim := { program := "ytoekggjacifppaa", sum := "2ade2a7265f15cef2f4dd835aa6c897f56545cf96b1ae490fab7e7cdb082f6fb", func := "loop.example/g00144/laws.FnExactPlanFind", spec := "fnExactPlanFind", unfollowed := true, recurses := true, plainKeys := false, apart := false, narrowed := true }
def FnExactPlanFindUptoSaid : Prop := fnExactPlanFindUptoRow.holds Try.pinned (OpenSpec.upto fnExactPlanFindSpec)

/-- 'laws.FnExactPlanIds', WHERE WHAT IT READS IS OF BULK AT MOST 1048576: true; the input reads as it did. -/
def fnExactPlanIdsUptoRow : OpenClaim := { program := "ytoekggjacifppaa", sum := "2ade2a7265f15cef2f4dd835aa6c897f56545cf96b1ae490fab7e7cdb082f6fb", func := "loop.example/g00144/laws.FnExactPlanIds", spec := "fnExactPlanIds", plainKeys := false, apart := false, narrowed := true }
def FnExactPlanIdsUptoSaid : Prop := fnExactPlanIdsUptoRow.holds Try.pinned (OpenSpec.upto fnExactPlanIdsSpec)

/-- 'laws.FnExactIdsRight', WHERE WHAT IT READS IS OF BULK AT MOST 1048576: true; the input reads as it did. -/
def fnExactIdsRightUptoRow : OpenClaim := { program := "ytoekggjacifppaa", sum := "2ade2a7265f15cef2f4dd835aa6c897f56545cf96b1ae490fab7e7cdb082f6fb", func := "loop.example/g00144/laws.FnExactIdsRight", spec := "fnExactIdsRight", unfollowed := true, recurses := true, plainKeys := false, apart := false, narrowed := true }
def FnExactIdsRightUptoSaid : Prop := fnExactIdsRightUptoRow.holds Try.pinned (OpenSpec.upto fnExactIdsRightSpec)

end Rows
end Go.Proofs.Ytoekggjacifppaa
