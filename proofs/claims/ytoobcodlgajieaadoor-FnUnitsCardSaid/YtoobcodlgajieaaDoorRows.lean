/-
  NARROWER THAN 'FOR EVERY INPUT', by the rows' own cells (each row's printed sentence says how): FnUnits: laid · FnBudget: laid · FnExactUnitRun: laid · FnExactSolve: laid · FnExactSolveCount: laid · FnExactLemmaRight: laid.
  DERIVED. THE GIVEN ROWS OF THIS SEAT. 6 by the template 'for every input the law returns true; each argument reads behind the call as it read before'; 0 by the template 'total and deterministic' (their statements: YtoobcodlgajieaaDoorTotals.lean).
  GIVEN WITH THE SEED: the statements are not yours to turn. If you find one false, say at which input.
  Laid BY PROGRAM, IN A SANDBOX (cutbox-rows.mjs): the forced cells as the released guide's own fill.sh prints them over the translation 8b67e60a23e7a86d… (all of the seat's roots in one cut). By AI agents, Wed Nov 11 2026. No macro, syntax, notation, axiom, sorry.
-/
import Derived.Test.YtoobcodlgajieaaDoorChecked
import GoSem.Claim
import GoSem.ClaimJoined
import GoSem.ClaimMapViews
import Derived.JoinedTies
import Derived.KernelRfl
namespace Go.Proofs.YtoobcodlgajieaaDoor
/- THE CELL 'sum', in the pinned program and in every row, IS THE sha256 OF THE DUMP (.gsa) THAT YtoobcodlgajieaaDoorProg.lean LOADS. Nothing in Lean hashes anything: it is a label: what it is worth is what the hold of that sum in a sandbox is worth. -/
noncomputable def Tryd.pinned : Pinned := { name := "ytoobcodlgajieaadoor", sum := "8b67e60a23e7a86d2f3b4664bcc96c4b51d69b6c06ff9d20801cb8cf68e96030", checked := Tryd.checked }
namespace Rows
def none {H : Type} : Left H := { results := [], args := [] }

/- WHAT THE LISTED PACKAGE-LEVEL VARIABLES READ AS WHEN THE CALL BEGINS. Each datum BY PROGRAM (the guide's laid-datum.mjs) off the statement by which the dump's own 'gosem.cut.vars' lays the variable. In a bare row this is a premise. The card (YtoobcodlgajieaaDoorCards.lean) ties it to the program's text. -/
def laid_math_bits_deBruijn64tab {H : Type} : DataW H := .agg [.lit (.int .u8 0), .lit (.int .u8 1), .lit (.int .u8 56), .lit (.int .u8 2), .lit (.int .u8 57), .lit (.int .u8 49), .lit (.int .u8 28), .lit (.int .u8 3), .lit (.int .u8 61), .lit (.int .u8 58), .lit (.int .u8 42), .lit (.int .u8 50), .lit (.int .u8 38), .lit (.int .u8 29), .lit (.int .u8 17), .lit (.int .u8 4), .lit (.int .u8 62), .lit (.int .u8 47), .lit (.int .u8 59), .lit (.int .u8 36), .lit (.int .u8 45), .lit (.int .u8 43), .lit (.int .u8 51), .lit (.int .u8 22), .lit (.int .u8 53), .lit (.int .u8 39), .lit (.int .u8 33), .lit (.int .u8 30), .lit (.int .u8 24), .lit (.int .u8 18), .lit (.int .u8 12), .lit (.int .u8 5), .lit (.int .u8 63), .lit (.int .u8 55), .lit (.int .u8 48), .lit (.int .u8 27), .lit (.int .u8 60), .lit (.int .u8 41), .lit (.int .u8 37), .lit (.int .u8 16), .lit (.int .u8 46), .lit (.int .u8 35), .lit (.int .u8 44), .lit (.int .u8 21), .lit (.int .u8 52), .lit (.int .u8 32), .lit (.int .u8 23), .lit (.int .u8 11), .lit (.int .u8 54), .lit (.int .u8 26), .lit (.int .u8 40), .lit (.int .u8 15), .lit (.int .u8 34), .lit (.int .u8 20), .lit (.int .u8 31), .lit (.int .u8 10), .lit (.int .u8 25), .lit (.int .u8 14), .lit (.int .u8 19), .lit (.int .u8 9), .lit (.int .u8 13), .lit (.int .u8 8), .lit (.int .u8 7), .lit (.int .u8 6)]

/-- 'laws.FnUnits': WHATEVER THE INPUT: true; the input reads as it did. -/
def fnUnitsSpec : ChangeSpec := { name := "fnUnits", fn := fun _ => fun
  | [d] => { results := [.lit (.bool true)], args := [d] }
  | _ => none }
def fnUnitsRow : OpenClaim := { program := "ytoobcodlgajieaadoor", sum := "8b67e60a23e7a86d2f3b4664bcc96c4b51d69b6c06ff9d20801cb8cf68e96030", func := "loop.example/g00144/laws.FnUnits", spec := "fnUnits", unfollowed := true, recurses := true, named := ["math/bits.deBruijn64tab"], apart := false, laid := [("math/bits.deBruijn64tab", laid_math_bits_deBruijn64tab)] }
def FnUnitsSaid : Prop := fnUnitsRow.holds Tryd.pinned (OpenSpec.ofChange fnUnitsSpec)

/-- ITS FALSE NEIGHBOUR: 'it returns false'. Refute it at one input. -/
def fnUnitsWrong : ChangeSpec := { name := "fnUnits", fn := fun _ => fun
  | [d] => { results := [.lit (.bool false)], args := [d] }
  | _ => none }
def FnUnitsWrongFalsely : Prop := fnUnitsRow.holds Tryd.pinned (OpenSpec.ofChange fnUnitsWrong)

/-- 'laws.FnBudget': WHATEVER THE INPUT: true; the input reads as it did. -/
def fnBudgetSpec : ChangeSpec := { name := "fnBudget", fn := fun _ => fun
  | [d] => { results := [.lit (.bool true)], args := [d] }
  | _ => none }
def fnBudgetRow : OpenClaim := { program := "ytoobcodlgajieaadoor", sum := "8b67e60a23e7a86d2f3b4664bcc96c4b51d69b6c06ff9d20801cb8cf68e96030", func := "loop.example/g00144/laws.FnBudget", spec := "fnBudget", unfollowed := true, recurses := true, named := ["math/bits.deBruijn64tab"], apart := false, laid := [("math/bits.deBruijn64tab", laid_math_bits_deBruijn64tab)] }
def FnBudgetSaid : Prop := fnBudgetRow.holds Tryd.pinned (OpenSpec.ofChange fnBudgetSpec)

/-- ITS FALSE NEIGHBOUR: 'it returns false'. Refute it at one input. -/
def fnBudgetWrong : ChangeSpec := { name := "fnBudget", fn := fun _ => fun
  | [d] => { results := [.lit (.bool false)], args := [d] }
  | _ => none }
def FnBudgetWrongFalsely : Prop := fnBudgetRow.holds Tryd.pinned (OpenSpec.ofChange fnBudgetWrong)

/-- 'laws.FnExactUnitRun': WHATEVER THE INPUT: true; the input reads as it did. -/
def fnExactUnitRunSpec : ChangeSpec := { name := "fnExactUnitRun", fn := fun _ => fun
  | [d1, d2, d3] => { results := [.lit (.bool true)], args := [d1, d2, d3] }
  | _ => none }
def fnExactUnitRunRow : OpenClaim := { program := "ytoobcodlgajieaadoor", sum := "8b67e60a23e7a86d2f3b4664bcc96c4b51d69b6c06ff9d20801cb8cf68e96030", func := "loop.example/g00144/laws.FnExactUnitRun", spec := "fnExactUnitRun", unfollowed := true, recurses := true, named := ["math/bits.deBruijn64tab"], apart := false, laid := [("math/bits.deBruijn64tab", laid_math_bits_deBruijn64tab)] }
def FnExactUnitRunSaid : Prop := fnExactUnitRunRow.holds Tryd.pinned (OpenSpec.ofChange fnExactUnitRunSpec)

/-- ITS FALSE NEIGHBOUR: 'it returns false'. Refute it at one input. -/
def fnExactUnitRunWrong : ChangeSpec := { name := "fnExactUnitRun", fn := fun _ => fun
  | [d1, d2, d3] => { results := [.lit (.bool false)], args := [d1, d2, d3] }
  | _ => none }
def FnExactUnitRunWrongFalsely : Prop := fnExactUnitRunRow.holds Tryd.pinned (OpenSpec.ofChange fnExactUnitRunWrong)

/-- 'laws.FnExactSolve': WHATEVER THE INPUT: true; the input reads as it did. -/
def fnExactSolveSpec : ChangeSpec := { name := "fnExactSolve", fn := fun _ => fun
  | [d1, d2] => { results := [.lit (.bool true)], args := [d1, d2] }
  | _ => none }
def fnExactSolveRow : OpenClaim := { program := "ytoobcodlgajieaadoor", sum := "8b67e60a23e7a86d2f3b4664bcc96c4b51d69b6c06ff9d20801cb8cf68e96030", func := "loop.example/g00144/laws.FnExactSolve", spec := "fnExactSolve", unfollowed := true, recurses := true, named := ["math/bits.deBruijn64tab"], apart := false, laid := [("math/bits.deBruijn64tab", laid_math_bits_deBruijn64tab)] }
def FnExactSolveSaid : Prop := fnExactSolveRow.holds Tryd.pinned (OpenSpec.ofChange fnExactSolveSpec)

/-- ITS FALSE NEIGHBOUR: 'it returns false'. Refute it at one input. -/
def fnExactSolveWrong : ChangeSpec := { name := "fnExactSolve", fn := fun _ => fun
  | [d1, d2] => { results := [.lit (.bool false)], args := [d1, d2] }
  | _ => none }
def FnExactSolveWrongFalsely : Prop := fnExactSolveRow.holds Tryd.pinned (OpenSpec.ofChange fnExactSolveWrong)

/-- 'laws.FnExactSolveCount': WHATEVER THE INPUT: true; the input reads as it did. -/
def fnExactSolveCountSpec : ChangeSpec := { name := "fnExactSolveCount", fn := fun _ => fun
  | [d1, d2] => { results := [.lit (.bool true)], args := [d1, d2] }
  | _ => none }
def fnExactSolveCountRow : OpenClaim := { program := "ytoobcodlgajieaadoor", sum := "8b67e60a23e7a86d2f3b4664bcc96c4b51d69b6c06ff9d20801cb8cf68e96030", func := "loop.example/g00144/laws.FnExactSolveCount", spec := "fnExactSolveCount", unfollowed := true, recurses := true, named := ["math/bits.deBruijn64tab"], apart := false, laid := [("math/bits.deBruijn64tab", laid_math_bits_deBruijn64tab)] }
def FnExactSolveCountSaid : Prop := fnExactSolveCountRow.holds Tryd.pinned (OpenSpec.ofChange fnExactSolveCountSpec)

/-- ITS FALSE NEIGHBOUR: 'it returns false'. Refute it at one input. -/
def fnExactSolveCountWrong : ChangeSpec := { name := "fnExactSolveCount", fn := fun _ => fun
  | [d1, d2] => { results := [.lit (.bool false)], args := [d1, d2] }
  | _ => none }
def FnExactSolveCountWrongFalsely : Prop := fnExactSolveCountRow.holds Tryd.pinned (OpenSpec.ofChange fnExactSolveCountWrong)

/-- 'laws.FnExactLemmaRight': WHATEVER THE INPUT: true; the input reads as it did. -/
def fnExactLemmaRightSpec : ChangeSpec := { name := "fnExactLemmaRight", fn := fun _ => fun
  | [d1, d2, d3] => { results := [.lit (.bool true)], args := [d1, d2, d3] }
  | _ => none }
def fnExactLemmaRightRow : OpenClaim := { program := "ytoobcodlgajieaadoor", sum := "8b67e60a23e7a86d2f3b4664bcc96c4b51d69b6c06ff9d20801cb8cf68e96030", func := "loop.example/g00144/laws.FnExactLemmaRight", spec := "fnExactLemmaRight", unfollowed := true, recurses := true, named := ["math/bits.deBruijn64tab"], apart := false, laid := [("math/bits.deBruijn64tab", laid_math_bits_deBruijn64tab)] }
def FnExactLemmaRightSaid : Prop := fnExactLemmaRightRow.holds Tryd.pinned (OpenSpec.ofChange fnExactLemmaRightSpec)

/-- ITS FALSE NEIGHBOUR: 'it returns false'. Refute it at one input. -/
def fnExactLemmaRightWrong : ChangeSpec := { name := "fnExactLemmaRight", fn := fun _ => fun
  | [d1, d2, d3] => { results := [.lit (.bool false)], args := [d1, d2, d3] }
  | _ => none }
def FnExactLemmaRightWrongFalsely : Prop := fnExactLemmaRightRow.holds Tryd.pinned (OpenSpec.ofChange fnExactLemmaRightWrong)

/- THE SECOND FORM. 'bulk': how many values and letters a reading holds, each counted each time it is reached (what is shared counts as often as it is met; a slice's spare places count too). A statement '..UptoSaid' is the law's where the arguments, and the package variables that the reading takes, are together of bulk at most 1048576: NARROWER than '..Said'. Prove '..Said' where nothing that the law and all that it calls make is longer than what came in: it says more and counts as full. Else prove '..UptoSaid'. A law counts once. -/
mutual
def uptoBulk {H : Type} : DataW H → Nat
  | .lit (.string bytes) => bytes.length + 1
  | .lit _ => 1
  | .nil => 1
  | .ptr d => uptoBulk d + 1
  | .slice elems spare => uptoBulkAll elems + uptoBulkAll spare + 1
  | .agg parts => uptoBulkAll parts + 1
  | .iface _ d => uptoBulk d + 1
  | .map entries => uptoBulkEntries entries + 1
  | .held _ => 1
def uptoBulkAll {H : Type} : List (DataW H) → Nat
  | [] => 0
  | d :: r => uptoBulk d + uptoBulkAll r
def uptoBulkEntries {H : Type} : List (Lit × DataW H) → Nat
  | [] => 0
  | x :: r => uptoBulkEntry x + uptoBulkEntries r
def uptoBulkEntry {H : Type} : Lit × DataW H → Nat
  | (.string bytes, d) => bytes.length + uptoBulk d + 1
  | (_, d) => uptoBulk d + 1
 end
def uptoSmall : (H : Type) → List (DataW H) → Bool := fun _ ds => decide (uptoBulkAll ds ≤ 1048576)
def OpenSpec.upto (s : _root_.Go.ChangeSpec) : _root_.Go.OpenSpec := { _root_.Go.OpenSpec.ofChange s with cond := some uptoSmall }

/-- 'laws.FnUnits', WHERE WHAT IT READS IS OF BULK AT MOST 1048576: true; the input reads as it did. -/
def fnUnitsUptoRow : OpenClaim := { program := "ytoobcodlgajieaadoor", sum := "8b67e60a23e7a86d2f3b4664bcc96c4b51d69b6c06ff9d20801cb8cf68e96030", func := "loop.example/g00144/laws.FnUnits", spec := "fnUnits", unfollowed := true, recurses := true, named := ["math/bits.deBruijn64tab"], apart := false, laid := [("math/bits.deBruijn64tab", laid_math_bits_deBruijn64tab)], narrowed := true }
def FnUnitsUptoSaid : Prop := fnUnitsUptoRow.holds Tryd.pinned (OpenSpec.upto fnUnitsSpec)

/-- 'laws.FnBudget', WHERE WHAT IT READS IS OF BULK AT MOST 1048576: true; the input reads as it did. -/
def fnBudgetUptoRow : OpenClaim := { program := "ytoobcodlgajieaadoor", sum := "8b67e60a23e7a86d2f3b4664bcc96c4b51d69b6c06ff9d20801cb8cf68e96030", func := "loop.example/g00144/laws.FnBudget", spec := "fnBudget", unfollowed := true, recurses := true, named := ["math/bits.deBruijn64tab"], apart := false, laid := [("math/bits.deBruijn64tab", laid_math_bits_deBruijn64tab)], narrowed := true }
def FnBudgetUptoSaid : Prop := fnBudgetUptoRow.holds Tryd.pinned (OpenSpec.upto fnBudgetSpec)

/-- 'laws.FnExactUnitRun', WHERE WHAT IT READS IS OF BULK AT MOST 1048576: true; the input reads as it did. -/
def fnExactUnitRunUptoRow : OpenClaim := { program := "ytoobcodlgajieaadoor", sum := "8b67e60a23e7a86d2f3b4664bcc96c4b51d69b6c06ff9d20801cb8cf68e96030", func := "loop.example/g00144/laws.FnExactUnitRun", spec := "fnExactUnitRun", unfollowed := true, recurses := true, named := ["math/bits.deBruijn64tab"], apart := false, laid := [("math/bits.deBruijn64tab", laid_math_bits_deBruijn64tab)], narrowed := true }
def FnExactUnitRunUptoSaid : Prop := fnExactUnitRunUptoRow.holds Tryd.pinned (OpenSpec.upto fnExactUnitRunSpec)

/-- 'laws.FnExactSolve', WHERE WHAT IT READS IS OF BULK AT MOST 1048576: true; the input reads as it did. -/
def fnExactSolveUptoRow : OpenClaim := { program := "ytoobcodlgajieaadoor", sum := "8b67e60a23e7a86d2f3b4664bcc96c4b51d69b6c06ff9d20801cb8cf68e96030", func := "loop.example/g00144/laws.FnExactSolve", spec := "fnExactSolve", unfollowed := true, recurses := true, named := ["math/bits.deBruijn64tab"], apart := false, laid := [("math/bits.deBruijn64tab", laid_math_bits_deBruijn64tab)], narrowed := true }
def FnExactSolveUptoSaid : Prop := fnExactSolveUptoRow.holds Tryd.pinned (OpenSpec.upto fnExactSolveSpec)

/-- 'laws.FnExactSolveCount', WHERE WHAT IT READS IS OF BULK AT MOST 1048576: true; the input reads as it did. -/
def fnExactSolveCountUptoRow : OpenClaim := { program := "ytoobcodlgajieaadoor", sum := "8b67e60a23e7a86d2f3b4664bcc96c4b51d69b6c06ff9d20801cb8cf68e96030", func := "loop.example/g00144/laws.FnExactSolveCount", spec := "fnExactSolveCount", unfollowed := true, recurses := true, named := ["math/bits.deBruijn64tab"], apart := false, laid := [("math/bits.deBruijn64tab", laid_math_bits_deBruijn64tab)], narrowed := true }
def FnExactSolveCountUptoSaid : Prop := fnExactSolveCountUptoRow.holds Tryd.pinned (OpenSpec.upto fnExactSolveCountSpec)

/-- 'laws.FnExactLemmaRight', WHERE WHAT IT READS IS OF BULK AT MOST 1048576: true; the input reads as it did. -/
def fnExactLemmaRightUptoRow : OpenClaim := { program := "ytoobcodlgajieaadoor", sum := "8b67e60a23e7a86d2f3b4664bcc96c4b51d69b6c06ff9d20801cb8cf68e96030", func := "loop.example/g00144/laws.FnExactLemmaRight", spec := "fnExactLemmaRight", unfollowed := true, recurses := true, named := ["math/bits.deBruijn64tab"], apart := false, laid := [("math/bits.deBruijn64tab", laid_math_bits_deBruijn64tab)], narrowed := true }
def FnExactLemmaRightUptoSaid : Prop := fnExactLemmaRightUptoRow.holds Tryd.pinned (OpenSpec.upto fnExactLemmaRightSpec)

end Rows
end Go.Proofs.YtoobcodlgajieaaDoor
