/-
  No cell of these rows narrows 'for every input' (looked for: loops, veiled, ifaces, maps, wideKeys, modest, calm, conditions, laid).
  DERIVED. THE GIVEN ROWS OF THIS SEAT. 3 by the template 'for every input the law returns true; each argument reads behind the call as it read before'; 0 by the template 'total and deterministic' (their statements: YtmmikbkgkpnkbaaGreatTotals.lean).
  GIVEN WITH THE SEED: the statements are not yours to turn. If you find one false, say at which input.
  Laid BY PROGRAM, IN A SANDBOX (cutbox-rows.mjs): the forced cells as the released guide's own fill.sh prints them over the translation d6e36539473b9cba… (all of the seat's roots in one cut). By AI agents, Wed Nov 11 2026. No macro, syntax, notation, axiom, sorry.
-/
import Derived.Test.YtmmikbkgkpnkbaaGreatChecked
import GoSem.Claim
import GoSem.ClaimJoined
import GoSem.ClaimMapViews
import Derived.JoinedTies
import Derived.KernelRfl
namespace Go.Proofs.YtmmikbkgkpnkbaaGreat
/- THE CELL 'sum', in the pinned program and in every row, IS THE sha256 OF THE DUMP (.gsa) THAT YtmmikbkgkpnkbaaGreatProg.lean LOADS. Nothing in Lean hashes anything: it is a label: what it is worth is what the hold of that sum in a sandbox is worth. -/
noncomputable def Tryz.pinned : Pinned := { name := "ytmmikbkgkpnkbaagreat", sum := "d6e36539473b9cba1ce4f3fa3a2d125f0d6626141ec5329ff6ce0ec4059c83d2", checked := Tryz.checked }
namespace Rows
def none {H : Type} : Left H := { results := [], args := [] }

/-- 'laws.FnExactStageRight': WHATEVER THE INPUT: true; the input reads as it did. -/
def fnExactStageRightSpec : ChangeSpec := { name := "fnExactStageRight", fn := fun _ => fun
  | [d] => { results := [.lit (.bool true)], args := [d] }
  | _ => none }
def fnExactStageRightRow : OpenClaim := { program := "ytmmikbkgkpnkbaagreat", sum := "d6e36539473b9cba1ce4f3fa3a2d125f0d6626141ec5329ff6ce0ec4059c83d2", func := "loop.example/g00144/laws.FnExactStageRight", spec := "fnExactStageRight", unfollowed := true, recurses := true, plainKeys := false, apart := false }
def FnExactStageRightSaid : Prop := fnExactStageRightRow.holds Tryz.pinned (OpenSpec.ofChange fnExactStageRightSpec)

/-- ITS FALSE NEIGHBOUR: 'it returns false'. Refute it at one input. -/
def fnExactStageRightWrong : ChangeSpec := { name := "fnExactStageRight", fn := fun _ => fun
  | [d] => { results := [.lit (.bool false)], args := [d] }
  | _ => none }
def FnExactStageRightWrongFalsely : Prop := fnExactStageRightRow.holds Tryz.pinned (OpenSpec.ofChange fnExactStageRightWrong)

/-- 'laws.FnExactStagePays': WHATEVER THE INPUT: true; the input reads as it did. -/
def fnExactStagePaysSpec : ChangeSpec := { name := "fnExactStagePays", fn := fun _ => fun
  | [d] => { results := [.lit (.bool true)], args := [d] }
  | _ => none }
def fnExactStagePaysRow : OpenClaim := { program := "ytmmikbkgkpnkbaagreat", sum := "d6e36539473b9cba1ce4f3fa3a2d125f0d6626141ec5329ff6ce0ec4059c83d2", func := "loop.example/g00144/laws.FnExactStagePays", spec := "fnExactStagePays", unfollowed := true, recurses := true, plainKeys := false, apart := false }
def FnExactStagePaysSaid : Prop := fnExactStagePaysRow.holds Tryz.pinned (OpenSpec.ofChange fnExactStagePaysSpec)

/-- ITS FALSE NEIGHBOUR: 'it returns false'. Refute it at one input. -/
def fnExactStagePaysWrong : ChangeSpec := { name := "fnExactStagePays", fn := fun _ => fun
  | [d] => { results := [.lit (.bool false)], args := [d] }
  | _ => none }
def FnExactStagePaysWrongFalsely : Prop := fnExactStagePaysRow.holds Tryz.pinned (OpenSpec.ofChange fnExactStagePaysWrong)

/-- 'laws.FnExactStageNeeds': WHATEVER THE INPUT: true; the input reads as it did. -/
def fnExactStageNeedsSpec : ChangeSpec := { name := "fnExactStageNeeds", fn := fun _ => fun
  | [d] => { results := [.lit (.bool true)], args := [d] }
  | _ => none }
def fnExactStageNeedsRow : OpenClaim := { program := "ytmmikbkgkpnkbaagreat", sum := "d6e36539473b9cba1ce4f3fa3a2d125f0d6626141ec5329ff6ce0ec4059c83d2", func := "loop.example/g00144/laws.FnExactStageNeeds", spec := "fnExactStageNeeds", unfollowed := true, recurses := true, plainKeys := false, apart := false }
def FnExactStageNeedsSaid : Prop := fnExactStageNeedsRow.holds Tryz.pinned (OpenSpec.ofChange fnExactStageNeedsSpec)

/-- ITS FALSE NEIGHBOUR: 'it returns false'. Refute it at one input. -/
def fnExactStageNeedsWrong : ChangeSpec := { name := "fnExactStageNeeds", fn := fun _ => fun
  | [d] => { results := [.lit (.bool false)], args := [d] }
  | _ => none }
def FnExactStageNeedsWrongFalsely : Prop := fnExactStageNeedsRow.holds Tryz.pinned (OpenSpec.ofChange fnExactStageNeedsWrong)

/- THE SECOND FORM. 'bulk': how many values and letters a reading holds, each counted each time it is reached (what is shared counts as often as it is met; a slice's spare places count too). A statement '..UptoSaid' is the law's where the arguments, and the package variables that the reading takes, are together of bulk at most 1048576: NARROWER than '..Said'. Prove '..Said' where nothing that the law and all that it calls make is longer than what came in: it says more and counts as full. Else prove '..UptoSaid'. A law counts once. -/
mutual
def uptoBulk {H : Type} : DataW H → Nat
  | .lit (.string bytes) => bytes.length + 1
  | .lit _ => 1
  | .nil => 1
  | .ptr d => uptoBulk d + 1
  | .slice elems spare => uptoBulkAll elems + uptoBulkAll spare + 1
  | .agg parts => uptoBulkAll parts + 1
  | .iface _ d => uptoBulk d + 1
  | .map entries => uptoBulkEntries entries + 1
  | .held _ => 1
def uptoBulkAll {H : Type} : List (DataW H) → Nat
  | [] => 0
  | d :: r => uptoBulk d + uptoBulkAll r
def uptoBulkEntries {H : Type} : List (Lit × DataW H) → Nat
  | [] => 0
  | x :: r => uptoBulkEntry x + uptoBulkEntries r
def uptoBulkEntry {H : Type} : Lit × DataW H → Nat
  | (.string bytes, d) => bytes.length + uptoBulk d + 1
  | (_, d) => uptoBulk d + 1
 end
def uptoSmall : (H : Type) → List (DataW H) → Bool := fun _ ds => decide (uptoBulkAll ds ≤ 1048576)
def OpenSpec.upto (s : _root_.Go.ChangeSpec) : _root_.Go.OpenSpec := { _root_.Go.OpenSpec.ofChange s with cond := some uptoSmall }

/-- 'laws.FnExactStageRight', WHERE WHAT IT READS IS OF BULK AT MOST 1048576: true; the input reads as it did. -/
def fnExactStageRightUptoRow : OpenClaim := { program := "ytmmikbkgkpnkbaagreat", sum := "d6e36539473b9cba1ce4f3fa3a2d125f0d6626141ec5329ff6ce0ec4059c83d2", func := "loop.example/g00144/laws.FnExactStageRight", spec := "fnExactStageRight", unfollowed := true, recurses := true, plainKeys := false, apart := false, narrowed := true }
def FnExactStageRightUptoSaid : Prop := fnExactStageRightUptoRow.holds Tryz.pinned (OpenSpec.upto fnExactStageRightSpec)

/-- 'laws.FnExactStagePays', WHERE WHAT IT READS IS OF BULK AT MOST 1048576: true; the input reads as it did. -/
def fnExactStagePaysUptoRow : OpenClaim := { program := "ytmmikbkgkpnkbaagreat", sum := "d6e36539473b9cba1ce4f3fa3a2d125f0d6626141ec5329ff6ce0ec4059c83d2", func := "loop.example/g00144/laws.FnExactStagePays", spec := "fnExactStagePays", unfollowed := true, recurses := true, plainKeys := false, apart := false, narrowed := true }
def FnExactStagePaysUptoSaid : Prop := fnExactStagePaysUptoRow.holds Tryz.pinned (OpenSpec.upto fnExactStagePaysSpec)

/-- 'laws.FnExactStageNeeds', WHERE WHAT IT READS IS OF BULK AT MOST 1048576: true; the input reads as it did. -/
def fnExactStageNeedsUptoRow : OpenClaim := { program := "ytmmikbkgkpnkbaagreat", sum := "d6e36539473b9cba1ce4f3fa3a2d125f0d6626141ec5329ff6ce0ec4059c83d2", func := "loop.example/g00144/laws.FnExactStageNeeds", spec := "fnExactStageNeeds", unfollowed := true, recurses := true, plainKeys := false, apart := false, narrowed := true }
def FnExactStageNeedsUptoSaid : Prop := fnExactStageNeedsUptoRow.holds Tryz.pinned (OpenSpec.upto fnExactStageNeedsSpec)

end Rows
end Go.Proofs.YtmmikbkgkpnkbaaGreat
