/-
  No cell of these rows narrows 'for every input' (looked for: loops, veiled, ifaces, maps, wideKeys, modest, calm, conditions, laid).
  DERIVED. THE GIVEN ROWS OF THIS SEAT. 9 by the template 'for every input the law returns true; each argument reads behind the call as it read before'; 0 by the template 'total and deterministic' (their statements: YtcganhhnkidddaaTotals.lean).
  GIVEN WITH THE SEED: the statements are not yours to turn. If you find one false, say at which input.
  Laid BY PROGRAM, IN A SANDBOX (cutbox-rows.mjs): the forced cells as the released guide's own fill.sh prints them over the translation db1f69b20cc3abbe… (all of the seat's roots in one cut). By AI agents, Wed Nov 11 2026. No macro, syntax, notation, axiom, sorry.
-/
import Derived.Test.YtcganhhnkidddaaChecked
import GoSem.Claim
import GoSem.ClaimJoined
import GoSem.ClaimMapViews
import Derived.JoinedTies
import Derived.KernelRfl
namespace Go.Proofs.Ytcganhhnkidddaa
/- THE CELL 'sum', in the pinned program and in every row, IS THE sha256 OF THE DUMP (.gsa) THAT YtcganhhnkidddaaProg.lean LOADS. Nothing in Lean hashes anything: it is a label: what it is worth is what the hold of that sum in a sandbox is worth. -/
noncomputable def Try.pinned : Pinned := { name := "ytcganhhnkidddaa", sum := "db1f69b20cc3abbeeef225b1f5b656a3d3a8d7fbd2ceaaf705a5dd2b0c331e76", checked := Try.checked }
namespace Rows
def none {H : Type} : Left H := { results := [], args := [] }

/-- 'laws.FnMoney': WHATEVER THE INPUT: true; the input reads as it did. -/
def fnMoneySpec : ChangeSpec := { name := "fnMoney", fn := fun _ => fun
  | [d] => { results := [.lit (.bool true)], args := [d] }
  | _ => none }
def fnMoneyRow : OpenClaim := { program := "ytcganhhnkidddaa", sum := "db1f69b20cc3abbeeef225b1f5b656a3d3a8d7fbd2ceaaf705a5dd2b0c331e76", func := "loop.example/g00144/laws.FnMoney", spec := "fnMoney", unfollowed := true, recurses := true, apart := false }
def FnMoneySaid : Prop := fnMoneyRow.holds Try.pinned (OpenSpec.ofChange fnMoneySpec)

/-- ITS FALSE NEIGHBOUR: 'it returns false'. Refute it at one input. -/
def fnMoneyWrong : ChangeSpec := { name := "fnMoney", fn := fun _ => fun
  | [d] => { results := [.lit (.bool false)], args := [d] }
  | _ => none }
def FnMoneyWrongFalsely : Prop := fnMoneyRow.holds Try.pinned (OpenSpec.ofChange fnMoneyWrong)

/-- 'laws.FnMulDiv': WHATEVER THE INPUT: true; the input reads as it did. -/
def fnMulDivSpec : ChangeSpec := { name := "fnMulDiv", fn := fun _ => fun
  | [d] => { results := [.lit (.bool true)], args := [d] }
  | _ => none }
def fnMulDivRow : OpenClaim := { program := "ytcganhhnkidddaa", sum := "db1f69b20cc3abbeeef225b1f5b656a3d3a8d7fbd2ceaaf705a5dd2b0c331e76", func := "loop.example/g00144/laws.FnMulDiv", spec := "fnMulDiv", unfollowed := true, recurses := true, named := ["math/bits.divideError", "math/bits.overflowError"], apart := false }
def FnMulDivSaid : Prop := fnMulDivRow.holds Try.pinned (OpenSpec.ofChange fnMulDivSpec)

/-- ITS FALSE NEIGHBOUR: 'it returns false'. Refute it at one input. -/
def fnMulDivWrong : ChangeSpec := { name := "fnMulDiv", fn := fun _ => fun
  | [d] => { results := [.lit (.bool false)], args := [d] }
  | _ => none }
def FnMulDivWrongFalsely : Prop := fnMulDivRow.holds Try.pinned (OpenSpec.ofChange fnMulDivWrong)

/-- 'laws.FnSplit': WHATEVER THE INPUT: true; the input reads as it did. -/
def fnSplitSpec : ChangeSpec := { name := "fnSplit", fn := fun _ => fun
  | [d] => { results := [.lit (.bool true)], args := [d] }
  | _ => none }
def fnSplitRow : OpenClaim := { program := "ytcganhhnkidddaa", sum := "db1f69b20cc3abbeeef225b1f5b656a3d3a8d7fbd2ceaaf705a5dd2b0c331e76", func := "loop.example/g00144/laws.FnSplit", spec := "fnSplit", unfollowed := true, recurses := true, apart := false }
def FnSplitSaid : Prop := fnSplitRow.holds Try.pinned (OpenSpec.ofChange fnSplitSpec)

/-- ITS FALSE NEIGHBOUR: 'it returns false'. Refute it at one input. -/
def fnSplitWrong : ChangeSpec := { name := "fnSplit", fn := fun _ => fun
  | [d] => { results := [.lit (.bool false)], args := [d] }
  | _ => none }
def FnSplitWrongFalsely : Prop := fnSplitRow.holds Try.pinned (OpenSpec.ofChange fnSplitWrong)

/-- 'laws.FnExactMoneyAdd': WHATEVER THE INPUT: true; the input reads as it did. -/
def fnExactMoneyAddSpec : ChangeSpec := { name := "fnExactMoneyAdd", fn := fun _ => fun
  | [d1, d2] => { results := [.lit (.bool true)], args := [d1, d2] }
  | _ => none }
def fnExactMoneyAddRow : OpenClaim := { program := "ytcganhhnkidddaa", sum := "db1f69b20cc3abbeeef225b1f5b656a3d3a8d7fbd2ceaaf705a5dd2b0c331e76", func := "loop.example/g00144/laws.FnExactMoneyAdd", spec := "fnExactMoneyAdd", unfollowed := true, recurses := true, apart := false }
def FnExactMoneyAddSaid : Prop := fnExactMoneyAddRow.holds Try.pinned (OpenSpec.ofChange fnExactMoneyAddSpec)

/-- ITS FALSE NEIGHBOUR: 'it returns false'. Refute it at one input. -/
def fnExactMoneyAddWrong : ChangeSpec := { name := "fnExactMoneyAdd", fn := fun _ => fun
  | [d1, d2] => { results := [.lit (.bool false)], args := [d1, d2] }
  | _ => none }
def FnExactMoneyAddWrongFalsely : Prop := fnExactMoneyAddRow.holds Try.pinned (OpenSpec.ofChange fnExactMoneyAddWrong)

/-- 'laws.FnExactMoneySub': WHATEVER THE INPUT: true; the input reads as it did. -/
def fnExactMoneySubSpec : ChangeSpec := { name := "fnExactMoneySub", fn := fun _ => fun
  | [d1, d2] => { results := [.lit (.bool true)], args := [d1, d2] }
  | _ => none }
def fnExactMoneySubRow : OpenClaim := { program := "ytcganhhnkidddaa", sum := "db1f69b20cc3abbeeef225b1f5b656a3d3a8d7fbd2ceaaf705a5dd2b0c331e76", func := "loop.example/g00144/laws.FnExactMoneySub", spec := "fnExactMoneySub", unfollowed := true, recurses := true, apart := false }
def FnExactMoneySubSaid : Prop := fnExactMoneySubRow.holds Try.pinned (OpenSpec.ofChange fnExactMoneySubSpec)

/-- ITS FALSE NEIGHBOUR: 'it returns false'. Refute it at one input. -/
def fnExactMoneySubWrong : ChangeSpec := { name := "fnExactMoneySub", fn := fun _ => fun
  | [d1, d2] => { results := [.lit (.bool false)], args := [d1, d2] }
  | _ => none }
def FnExactMoneySubWrongFalsely : Prop := fnExactMoneySubRow.holds Try.pinned (OpenSpec.ofChange fnExactMoneySubWrong)

/-- 'laws.FnExactMoneyMul': WHATEVER THE INPUT: true; the input reads as it did. -/
def fnExactMoneyMulSpec : ChangeSpec := { name := "fnExactMoneyMul", fn := fun _ => fun
  | [d1, d2] => { results := [.lit (.bool true)], args := [d1, d2] }
  | _ => none }
def fnExactMoneyMulRow : OpenClaim := { program := "ytcganhhnkidddaa", sum := "db1f69b20cc3abbeeef225b1f5b656a3d3a8d7fbd2ceaaf705a5dd2b0c331e76", func := "loop.example/g00144/laws.FnExactMoneyMul", spec := "fnExactMoneyMul", unfollowed := true, recurses := true, apart := false }
def FnExactMoneyMulSaid : Prop := fnExactMoneyMulRow.holds Try.pinned (OpenSpec.ofChange fnExactMoneyMulSpec)

/-- ITS FALSE NEIGHBOUR: 'it returns false'. Refute it at one input. -/
def fnExactMoneyMulWrong : ChangeSpec := { name := "fnExactMoneyMul", fn := fun _ => fun
  | [d1, d2] => { results := [.lit (.bool false)], args := [d1, d2] }
  | _ => none }
def FnExactMoneyMulWrongFalsely : Prop := fnExactMoneyMulRow.holds Try.pinned (OpenSpec.ofChange fnExactMoneyMulWrong)

/-- 'laws.FnExactMulDiv': WHATEVER THE INPUT: true; the input reads as it did. -/
def fnExactMulDivSpec : ChangeSpec := { name := "fnExactMulDiv", fn := fun _ => fun
  | [d1, d2, d3] => { results := [.lit (.bool true)], args := [d1, d2, d3] }
  | _ => none }
def fnExactMulDivRow : OpenClaim := { program := "ytcganhhnkidddaa", sum := "db1f69b20cc3abbeeef225b1f5b656a3d3a8d7fbd2ceaaf705a5dd2b0c331e76", func := "loop.example/g00144/laws.FnExactMulDiv", spec := "fnExactMulDiv", unfollowed := true, recurses := true, named := ["math/bits.divideError", "math/bits.overflowError"], apart := false }
def FnExactMulDivSaid : Prop := fnExactMulDivRow.holds Try.pinned (OpenSpec.ofChange fnExactMulDivSpec)

/-- ITS FALSE NEIGHBOUR: 'it returns false'. Refute it at one input. -/
def fnExactMulDivWrong : ChangeSpec := { name := "fnExactMulDiv", fn := fun _ => fun
  | [d1, d2, d3] => { results := [.lit (.bool false)], args := [d1, d2, d3] }
  | _ => none }
def FnExactMulDivWrongFalsely : Prop := fnExactMulDivRow.holds Try.pinned (OpenSpec.ofChange fnExactMulDivWrong)

/-- 'laws.FnExactMoneySum': WHATEVER THE INPUT: true; the input reads as it did. -/
def fnExactMoneySumSpec : ChangeSpec := { name := "fnExactMoneySum", fn := fun _ => fun
  | [d] => { results := [.lit (.bool true)], args := [d] }
  | _ => none }
def fnExactMoneySumRow : OpenClaim := { program := "ytcganhhnkidddaa", sum := "db1f69b20cc3abbeeef225b1f5b656a3d3a8d7fbd2ceaaf705a5dd2b0c331e76", func := "loop.example/g00144/laws.FnExactMoneySum", spec := "fnExactMoneySum", unfollowed := true, recurses := true, apart := false }
def FnExactMoneySumSaid : Prop := fnExactMoneySumRow.holds Try.pinned (OpenSpec.ofChange fnExactMoneySumSpec)

/-- ITS FALSE NEIGHBOUR: 'it returns false'. Refute it at one input. -/
def fnExactMoneySumWrong : ChangeSpec := { name := "fnExactMoneySum", fn := fun _ => fun
  | [d] => { results := [.lit (.bool false)], args := [d] }
  | _ => none }
def FnExactMoneySumWrongFalsely : Prop := fnExactMoneySumRow.holds Try.pinned (OpenSpec.ofChange fnExactMoneySumWrong)

/-- 'laws.FnExactMoneySplit': WHATEVER THE INPUT: true; the input reads as it did. -/
def fnExactMoneySplitSpec : ChangeSpec := { name := "fnExactMoneySplit", fn := fun _ => fun
  | [d1, d2] => { results := [.lit (.bool true)], args := [d1, d2] }
  | _ => none }
def fnExactMoneySplitRow : OpenClaim := { program := "ytcganhhnkidddaa", sum := "db1f69b20cc3abbeeef225b1f5b656a3d3a8d7fbd2ceaaf705a5dd2b0c331e76", func := "loop.example/g00144/laws.FnExactMoneySplit", spec := "fnExactMoneySplit", unfollowed := true, recurses := true, apart := false }
def FnExactMoneySplitSaid : Prop := fnExactMoneySplitRow.holds Try.pinned (OpenSpec.ofChange fnExactMoneySplitSpec)

/-- ITS FALSE NEIGHBOUR: 'it returns false'. Refute it at one input. -/
def fnExactMoneySplitWrong : ChangeSpec := { name := "fnExactMoneySplit", fn := fun _ => fun
  | [d1, d2] => { results := [.lit (.bool false)], args := [d1, d2] }
  | _ => none }
def FnExactMoneySplitWrongFalsely : Prop := fnExactMoneySplitRow.holds Try.pinned (OpenSpec.ofChange fnExactMoneySplitWrong)

/- THE SECOND FORM. 'bulk': how many values and letters a reading holds, each counted each time it is reached (what is shared counts as often as it is met; a slice's spare places count too). A statement '..UptoSaid' is the law's where the arguments, and the package variables that the reading takes, are together of bulk at most 1048576: NARROWER than '..Said'. Prove '..Said' where nothing that the law and all that it calls make is longer than what came in: it says more and counts as full. Else prove '..UptoSaid'. A law counts once. -/
mutual
def uptoBulk {H : Type} : DataW H → Nat
  | .lit (.string bytes) => bytes.length + 1
  | .lit _ => 1
  | .nil => 1
  | .ptr d => uptoBulk d + 1
  | .slice elems spare => uptoBulkAll elems + uptoBulkAll spare + 1
  | .agg parts => uptoBulkAll parts + 1
  | .iface _ d => uptoBulk d + 1
  | .map entries => uptoBulkEntries entries + 1
  | .held _ => 1
def uptoBulkAll {H : Type} : List (DataW H) → Nat
  | [] => 0
  | d :: r => uptoBulk d + uptoBulkAll r
def uptoBulkEntries {H : Type} : List (Lit × DataW H) → Nat
  | [] => 0
  | x :: r => uptoBulkEntry x + uptoBulkEntries r
def uptoBulkEntry {H : Type} : Lit × DataW H → Nat
  | (.string bytes, d) => bytes.length + uptoBulk d + 1
  | (_, d) => uptoBulk d + 1
 end
def uptoSmall : (H : Type) → List (DataW H) → Bool := fun _ ds => decide (uptoBulkAll ds ≤ 1048576)
def OpenSpec.upto (s : _root_.Go.ChangeSpec) : _root_.Go.OpenSpec := { _root_.Go.OpenSpec.ofChange s with cond := some uptoSmall }

/-- 'laws.FnMoney', WHERE WHAT IT READS IS OF BULK AT MOST 1048576: true; the input reads as it did. -/
def fnMoneyUptoRow : OpenClaim := { program := "ytcganhhnkidddaa", sum := "db1f69b20cc3abbeeef225b1f5b656a3d3a8d7fbd2ceaaf705a5dd2b0c331e76", func := "loop.example/g00144/laws.FnMoney", spec := "fnMoney", unfollowed := true, recurses := true, apart := false, narrowed := true }
def FnMoneyUptoSaid : Prop := fnMoneyUptoRow.holds Try.pinned (OpenSpec.upto fnMoneySpec)

/-- 'laws.FnMulDiv', WHERE WHAT IT READS IS OF BULK AT MOST 1048576: true; the input reads as it did. -/
def fnMulDivUptoRow : OpenClaim := { program := "ytcganhhnkidddaa", sum := "db1f69b20cc3abbeeef225b1f5b656a3d3a8d7fbd2ceaaf705a5dd2b0c331e76", func := "loop.example/g00144/laws.FnMulDiv", spec := "fnMulDiv", unfollowed := true, recurses := true, named := ["math/bits.divideError", "math/bits.overflowError"], apart := false, narrowed := true }
def FnMulDivUptoSaid : Prop := fnMulDivUptoRow.holds Try.pinned (OpenSpec.upto fnMulDivSpec)

/-- 'laws.FnSplit', WHERE WHAT IT READS IS OF BULK AT MOST 1048576: true; the input reads as it did. -/
def fnSplitUptoRow : OpenClaim := { program := "ytcganhhnkidddaa", sum := "db1f69b20cc3abbeeef225b1f5b656a3d3a8d7fbd2ceaaf705a5dd2b0c331e76", func := "loop.example/g00144/laws.FnSplit", spec := "fnSplit", unfollowed := true, recurses := true, apart := false, narrowed := true }
def FnSplitUptoSaid : Prop := fnSplitUptoRow.holds Try.pinned (OpenSpec.upto fnSplitSpec)

/-- 'laws.FnExactMoneyAdd', WHERE WHAT IT READS IS OF BULK AT MOST 1048576: true; the input reads as it did. -/
def fnExactMoneyAddUptoRow : OpenClaim := { program := "ytcganhhnkidddaa", sum := "db1f69b20cc3abbeeef225b1f5b656a3d3a8d7fbd2ceaaf705a5dd2b0c331e76", func := "loop.example/g00144/laws.FnExactMoneyAdd", spec := "fnExactMoneyAdd", unfollowed := true, recurses := true, apart := false, narrowed := true }
def FnExactMoneyAddUptoSaid : Prop := fnExactMoneyAddUptoRow.holds Try.pinned (OpenSpec.upto fnExactMoneyAddSpec)

/-- 'laws.FnExactMoneySub', WHERE WHAT IT READS IS OF BULK AT MOST 1048576: true; the input reads as it did. -/
def fnExactMoneySubUptoRow : OpenClaim := { program := "ytcganhhnkidddaa", sum := "db1f69b20cc3abbeeef225b1f5b656a3d3a8d7fbd2ceaaf705a5dd2b0c331e76", func := "loop.example/g00144/laws.FnExactMoneySub", spec := "fnExactMoneySub", unfollowed := true, recurses := true, apart := false, narrowed := true }
def FnExactMoneySubUptoSaid : Prop := fnExactMoneySubUptoRow.holds Try.pinned (OpenSpec.upto fnExactMoneySubSpec)

/-- 'laws.FnExactMoneyMul', WHERE WHAT IT READS IS OF BULK AT MOST 1048576: true; the input reads as it did. -/
def fnExactMoneyMulUptoRow : OpenClaim := { program := "ytcganhhnkidddaa", sum := "db1f69b20cc3abbeeef225b1f5b656a3d3a8d7fbd2ceaaf705a5dd2b0c331e76", func := "loop.example/g00144/laws.FnExactMoneyMul", spec := "fnExactMoneyMul", unfollowed := true, recurses := true, apart := false, narrowed := true }
def FnExactMoneyMulUptoSaid : Prop := fnExactMoneyMulUptoRow.holds Try.pinned (OpenSpec.upto fnExactMoneyMulSpec)

/-- 'laws.FnExactMulDiv', WHERE WHAT IT READS IS OF BULK AT MOST 1048576: true; the input reads as it did. -/
def fnExactMulDivUptoRow : OpenClaim := { program := "ytcganhhnkidddaa", sum := "db1f69b20cc3abbeeef225b1f5b656a3d3a8d7fbd2ceaaf705a5dd2b0c331e76", func := "loop.example/g00144/laws.FnExactMulDiv", spec := "fnExactMulDiv", unfollowed := true, recurses := true, named := ["math/bits.divideError", "math/bits.overflowError"], apart := false, narrowed := true }
def FnExactMulDivUptoSaid : Prop := fnExactMulDivUptoRow.holds Try.pinned (OpenSpec.upto fnExactMulDivSpec)

/-- 'laws.FnExactMoneySum', WHERE WHAT IT READS IS OF BULK AT MOST 1048576: true; the input reads as it did. -/
def fnExactMoneySumUptoRow : OpenClaim := { program := "ytcganhhnkidddaa", sum := "db1f69b20cc3abbeeef225b1f5b656a3d3a8d7fbd2ceaaf705a5dd2b0c331e76", func := "loop.example/g00144/laws.FnExactMoneySum", spec := "fnExactMoneySum", unfollowed := true, recurses := true, apart := false, narrowed := true }
def FnExactMoneySumUptoSaid : Prop := fnExactMoneySumUptoRow.holds Try.pinned (OpenSpec.upto fnExactMoneySumSpec)

/-- 'laws.FnExactMoneySplit', WHERE WHAT IT READS IS OF BULK AT MOST 1048576: true; the input reads as it did. -/
def fnExactMoneySplitUptoRow : OpenClaim := { program := "ytcganhhnkidddaa", sum := "db1f69b20cc3abbeeef225b1f5b656a3d3a8d7fbd2ceaaf705a5dd2b0c331e76", func := "loop.example/g00144/laws.FnExactMoneySplit", spec := "fnExactMoneySplit", unfollowed := true, recurses := true, apart := false, narrowed := true }
def FnExactMoneySplitUptoSaid : Prop := fnExactMoneySplitUptoRow.holds Try.pinned (OpenSpec.upto fnExactMoneySplitSpec)

end Rows
end Go.Proofs.Ytcganhhnkidddaa
