/-
  No cell of these rows narrows 'for every input' (looked for: loops, veiled, ifaces, maps, wideKeys, modest, calm, conditions, laid).
  DERIVED. THE GIVEN ROWS OF THIS SEAT. 2 by the template 'for every input the law returns true; each argument reads behind the call as it read before'; 0 by the template 'total and deterministic' (their statements: YtnkiaickkbkjnaaGreatTotals.lean).
  GIVEN WITH THE SEED: the statements are not yours to turn. If you find one false, say at which input.
  Laid BY PROGRAM, IN A SANDBOX (cutbox-rows.mjs): the forced cells as the released guide's own fill.sh prints them over the translation 82eeb60a3cdda7e0… (all of the seat's roots in one cut). By AI agents, Wed Nov 11 2026. No macro, syntax, notation, axiom, sorry.
-/
import Derived.Test.YtnkiaickkbkjnaaGreatChecked
import GoSem.Claim
import GoSem.ClaimJoined
import GoSem.ClaimMapViews
import Derived.JoinedTies
import Derived.KernelRfl
namespace Go.Proofs.YtnkiaickkbkjnaaGreat
/- THE CELL 'sum', in the pinned program and in every row, IS THE sha256 OF THE DUMP (.gsa) THAT YtnkiaickkbkjnaaGreatProg.lean LOADS. Nothing in Lean hashes anything: it is a label: what it is worth is what the hold of that sum in a sandbox is worth. -/
noncomputable def Tryz.pinned : Pinned := { name := "ytnkiaickkbkjnaagreat", sum := "82eeb60a3cdda7e0ad7b25f745d8f632e599da9bb64447a4d108b53cae99917e", checked := Tryz.checked }
namespace Rows
def none {H : Type} : Left H := { results := [], args := [] }

/-- 'laws.FnExactValuesRight': WHATEVER THE INPUT: true; the input reads as it did. -/
def fnExactValuesRightSpec : ChangeSpec := { name := "fnExactValuesRight", fn := fun _ => fun
  | [d1, d2] => { results := [.lit (.bool true)], args := [d1, d2] }
  | _ => none }
def fnExactValuesRightRow : OpenClaim := { program := "ytnkiaickkbkjnaagreat", sum := "82eeb60a3cdda7e0ad7b25f745d8f632e599da9bb64447a4d108b53cae99917e", func := "loop.example/g00144/laws.FnExactValuesRight", spec := "fnExactValuesRight", unfollowed := true, recurses := true, plainKeys := false, apart := false }
def FnExactValuesRightSaid : Prop := fnExactValuesRightRow.holds Tryz.pinned (OpenSpec.ofChange fnExactValuesRightSpec)

/-- ITS FALSE NEIGHBOUR: 'it returns false'. Refute it at one input. -/
def fnExactValuesRightWrong : ChangeSpec := { name := "fnExactValuesRight", fn := fun _ => fun
  | [d1, d2] => { results := [.lit (.bool false)], args := [d1, d2] }
  | _ => none }
def FnExactValuesRightWrongFalsely : Prop := fnExactValuesRightRow.holds Tryz.pinned (OpenSpec.ofChange fnExactValuesRightWrong)

/-- 'laws.FnExactTruthStays': WHATEVER THE INPUT: true; the input reads as it did. -/
def fnExactTruthStaysSpec : ChangeSpec := { name := "fnExactTruthStays", fn := fun _ => fun
  | [d1, d2] => { results := [.lit (.bool true)], args := [d1, d2] }
  | _ => none }
def fnExactTruthStaysRow : OpenClaim := { program := "ytnkiaickkbkjnaagreat", sum := "82eeb60a3cdda7e0ad7b25f745d8f632e599da9bb64447a4d108b53cae99917e", func := "loop.example/g00144/laws.FnExactTruthStays", spec := "fnExactTruthStays", unfollowed := true, recurses := true, plainKeys := false, apart := false }
def FnExactTruthStaysSaid : Prop := fnExactTruthStaysRow.holds Tryz.pinned (OpenSpec.ofChange fnExactTruthStaysSpec)

/-- ITS FALSE NEIGHBOUR: 'it returns false'. Refute it at one input. -/
def fnExactTruthStaysWrong : ChangeSpec := { name := "fnExactTruthStays", fn := fun _ => fun
  | [d1, d2] => { results := [.lit (.bool false)], args := [d1, d2] }
  | _ => none }
def FnExactTruthStaysWrongFalsely : Prop := fnExactTruthStaysRow.holds Tryz.pinned (OpenSpec.ofChange fnExactTruthStaysWrong)

/- THE SECOND FORM. 'bulk': how many values and letters a reading holds, each counted each time it is reached (what is shared counts as often as it is met; a slice's spare places count too). A statement '..UptoSaid' is the law's where the arguments, and the package variables that the reading takes, are together of bulk at most 1048576: NARROWER than '..Said'. Prove '..Said' where nothing that the law and all that it calls make is longer than what came in: it says more and counts as full. Else prove '..UptoSaid'. A law counts once. -/
mutual
def uptoBulk {H : Type} : DataW H → Nat
  | .lit (.string bytes) => bytes.length + 1
  | .lit _ => 1
  | .nil => 1
  | .ptr d => uptoBulk d + 1
  | .slice elems spare => uptoBulkAll elems + uptoBulkAll spare + 1
  | .agg parts => uptoBulkAll parts + 1
  | .iface _ d => uptoBulk d + 1
  | .map entries => uptoBulkEntries entries + 1
  | .held _ => 1
def uptoBulkAll {H : Type} : List (DataW H) → Nat
  | [] => 0
  | d :: r => uptoBulk d + uptoBulkAll r
def uptoBulkEntries {H : Type} : List (Lit × DataW H) → Nat
  | [] => 0
  | x :: r => uptoBulkEntry x + uptoBulkEntries r
def uptoBulkEntry {H : Type} : Lit × DataW H → Nat
  | (.string bytes, d) => bytes.length + uptoBulk d + 1
  | (_, d) => uptoBulk d + 1
 end
def uptoSmall : (H : Type) → List (DataW H) → Bool := fun _ ds => decide (uptoBulkAll ds ≤ 1048576)
def OpenSpec.upto (s : _root_.Go.ChangeSpec) : _root_.Go.OpenSpec := { _root_.Go.OpenSpec.ofChange s with cond := some uptoSmall }

/-- 'laws.FnExactValuesRight', WHERE WHAT IT READS IS OF BULK AT MOST 1048576: true; the input reads as it did. -/
def fnExactValuesRightUptoRow : OpenClaim := { program := "ytnkiaickkbkjnaagreat", sum := "82eeb60a3cdda7e0ad7b25f745d8f632e599da9bb64447a4d108b53cae99917e", func := "loop.example/g00144/laws.FnExactValuesRight", spec := "fnExactValuesRight", unfollowed := true, recurses := true, plainKeys := false, apart := false, narrowed := true }
def FnExactValuesRightUptoSaid : Prop := fnExactValuesRightUptoRow.holds Tryz.pinned (OpenSpec.upto fnExactValuesRightSpec)

/-- 'laws.FnExactTruthStays', WHERE WHAT IT READS IS OF BULK AT MOST 1048576: true; the input reads as it did. -/
def fnExactTruthStaysUptoRow : OpenClaim := { program := "ytnkiaickkbkjnaagreat", sum := "82eeb60a3cdda7e0ad7b25f745d8f632e599da9bb64447a4d108b53cae99917e", func := "loop.example/g00144/laws.FnExactTruthStays", spec := "fnExactTruthStays", unfollowed := true, recurses := true, plainKeys := false, apart := false, narrowed := true }
def FnExactTruthStaysUptoSaid : Prop := fnExactTruthStaysUptoRow.holds Tryz.pinned (OpenSpec.upto fnExactTruthStaysSpec)

end Rows
end Go.Proofs.YtnkiaickkbkjnaaGreat
