/-
  CLAUSES THAT ARE OWNED: a row of slices, each with a row of its own; grown by one, put behind others.
  THE LITERALS OF A CLAUSE, told one by one.
  IS A CLAUSE RIGHT? impl.clauseRight.
  THE LAWS' CLAUSES copied into a Cnf; are clauses right? As both sides answer it.
  WHEN A TABLE IS RIGHT: the thinking.
  ARE CLAUSES RIGHT? The model's answer.
  ARE CLAUSES RIGHT? The model's answer is the program's.
  THE VALUE OF A LITERAL: spec.l01Has, both LitValue, the law's walk.
  VALUES BY VARIABLE: an array of 97 numbers that stands for a trail; its methods of, put, take.
  IS A TRAIL RIGHT? Both sides.
  UNITS: which literals of a clause are not false, the first clause that is false or a unit; notFalse, passing, firstDue.
  ROWS PUT TOGETHER: slices.Grow of none, slices.Concat, at numbers.
-/
import Derived.Test.YtoobcodlgajieaaDoorUaf
import Derived.Test.YtoobcodlgajieaaDoorUae
import Derived.Test.YtoobcodlgajieaaDoorVad
import Derived.Test.YtoobcodlgajieaaDoorVac
import Derived.Test.YtoobcodlgajieaaDoorUaa
import Derived.Test.YtoobcodlgajieaaDoorVab
import Derived.Test.YtoobcodlgajieaaDoorVaa
import Derived.Test.YtoobcodlgajieaaDoorWaa
import Derived.Lib.AppendZerosOnto
import Derived.Deep.Upon
import Derived.RangeFuncNested
import Derived.RangeFuncBound
import Derived.RangeFuncCalls
import Derived.RangeFuncLeaves
import Derived.RangeFuncBox
import Derived.Shelf.Abstract
import Derived.Shelf.RegionOpen
import Derived.WalkKit
import Derived.OwnWalkIn
import Derived.TacticsInMore
import Derived.LoopNIn
import Derived.LoopIn
import Derived.Maps.AppendAt
import Derived.BigQuiet
import Derived.OpenShut
import Derived.Lib.SliceRun
namespace Go.Proofs.YtoobcodlgajieaaDoor
open Go.RowKit
set_option linter.unusedVariables false

end Go.Proofs.YtoobcodlgajieaaDoor
namespace Go.Proofs.YtoobcodlgajieaaDoor
open Go.RowKit Go.Shelf
set_option linter.unusedVariables false
attribute [local go_sem] Oper.semAt_some

end Go.Proofs.YtoobcodlgajieaaDoor
namespace Go.Proofs.YtoobcodlgajieaaDoor
open Go.RowKit Go.Shelf
set_option linter.unusedVariables false
attribute [local go_sem] Oper.semAt_some

end Go.Proofs.YtoobcodlgajieaaDoor
namespace Go.Proofs.YtoobcodlgajieaaDoor
open Go.RowKit
set_option linter.unusedVariables false

set_option maxRecDepth 100000 in
set_option maxHeartbeats 1000000 in
/-- toCnf. -/
theorem toC_any (vars : Int) (sl : Option Addr) (cap : Nat) (cs : List LCl) (w : World) (hn : cs.length ≤ 1048576) (hs : totC cs ≤ 1048576) (hz : Cls w sl cs) :
    Calls Tryd.prog 25 #[CV vars sl cs.length cap] w fun e w' => ∃ b cs', e = .returned (CV vars (some ⟨b, 0, none⟩) cs.length cs.length) ∧ bareC cs' = bareC cs ∧ Cls w' (some ⟨b, 0, none⟩) cs' ∧ Below w.heap.size w w' := by
  have E1 : Hid (∀ W, Below w.heap.size w W → Calls Tryd.prog 26 #[.slice sl cs.length cap] W fun e w' => ∃ cs' : List LCl, e = .returned (.slice (some ⟨W.heap.size, 0, none⟩) cs.length cs.length) ∧ bareC cs' = bareC cs ∧ RowV w' W.heap.size cs.length (cs'.map fun r => r.1) ∧ (∀ r ∈ cs', ClOut W.heap.size w' r) ∧ Below W.heap.size W w') := fun W hW => toL_any sl cap cs W hn hs (hz.below hW)
  clear hz
  generalize cs.length = n at *
  go_enter Tryd.func25, Tryd.ntmps25
  go_wp2_with fail
  refine (E1.out _ (bA (bA (bA0 _ _) _) _)).mono ?_
  rintro e w1 ⟨cs', rfl, eb, r1, d1, b1⟩
  obtain ⟨n0, n1, n2, n3⟩ := three_new w (.cells #[.int .i64 vars, .slice sl n cap] 45) (.cells #[.int .i64 0, .slice none 0 0] 25) (.cells #[.int .i64 vars, .slice none 0 0] 25)
  have BB := Lib.hid (bT (bA (bA (bA0 w (.cells #[.int .i64 vars, .slice sl n cap] 45)) (.cells #[.int .i64 0, .slice none 0 0] 25)) (.cells #[.int .i64 vars, .slice none 0 0] 25)) b1)
  rw [n3] at r1 d1 b1 ⊢
  have hz := b1.size
  rw [n3] at hz
  have m1 := (b1.block (w.heap.size + 1) (by omega)).trans n1
  have m2 := (b1.block (w.heap.size + 2) (by omega)).trans n2
  have R1 := Lib.hid r1
  have DD := Lib.hid d1
  have EB := Lib.hid eb
  clear r1 d1 b1 eb n0 n1 n2 n3
  have q0 : w1.cell? ⟨w.heap.size + 1 + 1, 0, none⟩ = some (.int .i64 vars) ∧ w1.cell? ⟨w.heap.size + 1 + 1, 1, none⟩ = some (.slice none 0 0) ∧ (∀ o, w1.frozen? ⟨w.heap.size + 1 + 1, o, none⟩ = false) := by
    refine ⟨?_, ?_, fun o => ?_⟩ <;> simp [World.cell?, World.frozen?, m2]
  have q1 : w1.cell? ⟨w.heap.size + 1, 0, none⟩ = some (.int .i64 0) ∧ w1.cell? ⟨w.heap.size + 1, 1, none⟩ = some (.slice none 0 0) ∧ (∀ o, w1.frozen? ⟨w.heap.size + 1, o, none⟩ = false) := by
    refine ⟨?_, ?_, fun o => ?_⟩ <;> simp [World.cell?, World.frozen?, m1]
  obtain ⟨q00, q01, q0f⟩ := q0
  obtain ⟨q10, q11, q1f⟩ := q1
  clear m1 m2
  have P : Hid (Cls (((w1.setCell ⟨w.heap.size + 1 + 1, 1, none⟩ (.slice (some ⟨w.heap.size + 3, 0, none⟩) n n)).setCell ⟨w.heap.size + 1, 0, none⟩ (.int .i64 vars)).setCell ⟨w.heap.size + 1, 1, none⟩ (.slice (some ⟨w.heap.size + 3, 0, none⟩) n n)) (some ⟨w.heap.size + 3, 0, none⟩) cs' ∧ Below w.heap.size w (((w1.setCell ⟨w.heap.size + 1 + 1, 1, none⟩ (.slice (some ⟨w.heap.size + 3, 0, none⟩) n n)).setCell ⟨w.heap.size + 1, 0, none⟩ (.int .i64 vars)).setCell ⟨w.heap.size + 1, 1, none⟩ (.slice (some ⟨w.heap.size + 3, 0, none⟩) n n))) :=
    ⟨(((R1.out.setLow (by omega) _ _).setLow (by omega) _ _).setLow (by omega) _ _).cls (fun r hr => (((DD.out r hr).set (by omega) _ _).set (by omega) _ _).set (by omega) _ _), ((BB.out.setCell (Nat.le_add_right _ 2) _).setCell (Nat.le_add_right _ 1) _).setCell (Nat.le_add_right _ 1) _⟩
  clear R1 DD BB
  go_wp2
  refine bodyPost_ret (v := CV vars (some ⟨w.heap.size + 3, 0, none⟩) n n) (by simp [results, Tryd.results25, go_sem, q10, q11]) rfl ⟨_, cs', rfl, EB.out, P.out⟩

end Go.Proofs.YtoobcodlgajieaaDoor
namespace Go.Proofs.YtoobcodlgajieaaDoor
open Go.RowKit
set_option linter.unusedVariables false

end Go.Proofs.YtoobcodlgajieaaDoor
namespace Go.Proofs.YtoobcodlgajieaaDoor
open Go.RowKit
set_option linter.unusedVariables false

end Go.Proofs.YtoobcodlgajieaaDoor
namespace Go.Proofs.YtoobcodlgajieaaDoor
open Go.RowKit
set_option linter.unusedVariables false

end Go.Proofs.YtoobcodlgajieaaDoor
namespace Go.Proofs.YtoobcodlgajieaaDoor
open Go.RowKit
set_option linter.unusedVariables false

end Go.Proofs.YtoobcodlgajieaaDoor
namespace Go.Proofs.YtoobcodlgajieaaDoor
open Go.RowKit
set_option linter.unusedVariables false

variable {fh : List Value}
end Go.Proofs.YtoobcodlgajieaaDoor
namespace Go.Proofs.YtoobcodlgajieaaDoor
open Go.RowKit
set_option linter.unusedVariables false

end Go.Proofs.YtoobcodlgajieaaDoor
namespace Go.Proofs.YtoobcodlgajieaaDoor
open Go.RowKit
set_option linter.unusedVariables false
variable {fh : List Value}

end Go.Proofs.YtoobcodlgajieaaDoor
namespace Go.Proofs.YtoobcodlgajieaaDoor
open Go.RowKit
set_option linter.unusedVariables false

end Go.Proofs.YtoobcodlgajieaaDoor
