/-
  LISTS OF NUMBERS: how they lie, that all are in bounds, how they are copied and held against each other.
  LISTS THAT RISE, a station that is right, an Id among others.
  HOW A TABLE LIES: its stations and pairs; an Id is sought.
  THE LITERALS OF A CLAUSE, told one by one.
  AN ID IS SOUGHT IN A TABLE; the Ids as they stand.
  IS A CLAUSE RIGHT? impl.clauseRight.
-/
import Derived.Test.YtaogkdhloogmhaaHaf
import Derived.Test.YtaogkdhloogmhaaHab
import Derived.Test.YtaogkdhloogmhaaHaj
import Derived.Test.YtaogkdhloogmhaaHah
import Derived.Test.YtaogkdhloogmhaaHae
import Derived.Test.YtaogkdhloogmhaaHaa
import Derived.Test.YtaogkdhloogmhaaRows
import Derived.WalkKit
import Derived.WalkSpells
import Derived.WalkLawsBesides
import Derived.Laws.EntriesVeiled
import Derived.Deep.QuietTactic
import Derived.BigQuiet
import Derived.Lib.Hide
import Derived.Laws.AppendOwn
import Derived.RangeFuncNested
import Derived.RangeFuncBound
import Derived.RangeFuncCalls
import Derived.RangeFuncLeaves
import Derived.RangeFuncBox
import Derived.Shelf.Abstract
import Derived.Shelf.RegionOpen
import Derived.OwnWalkIn
import Derived.TacticsInMore
import Derived.LoopNIn
import Derived.LoopIn
import Derived.Maps.AppendAt
namespace Go.Proofs.Ytaogkdhloogmhaa
open Go.RowKit
set_option linter.unusedVariables false

def mk64 (n : Nat) : Array Value := madeCells #[.int .i64 0] n
theorem mk64_eq (zs : List Int) : mk64 zs.length = vsOf zs 0 := by
  apply Array.toList_inj.1
  rw [mk64, toList_madeCells_one]
  simp [vsOf]
theorem info2 : ∃ i, Try.prog.info? 2 = some i ∧ i.zero = some (.int .i64 0) ∧ i.size = 1 ∧ i.bytes = 8 := by
  have h : ((Try.prog.info? 2).map fun i => (i.zero, i.size, i.bytes)) = some (some (.int .i64 0), 1, 8) := by kernel_rfl
  generalize Try.prog.info? 2 = o at *
  cases o with
  | none => simp at h
  | some i => simp at h; exact ⟨i, rfl, h.1, h.2.1, h.2.2⟩
theorem make64 (n : Nat) (h : n ≤ 1048576) (w : World) :
    Sem.run Try.prog (Instr.makeSlice 27 (.int .i64 (n : Int)) (.int .i64 (n : Int))) w = .ok (.slice (some ⟨w.heap.size, 0, none⟩) n n) (w.alloc (.cells (mk64 n) 2)) := by
  obtain ⟨i, h1, h2, h3, h4⟩ := info2
  have := run_make (P := Try.prog) w 27 2 i (.int .i64 0) Try.underlying27 h1 h2 .i64 .i64 (n : Int) (n : Int) (by omega) (Int.le_refl _) (by rw [h4]; omega) (by omega)
  rw [this, h3]
  simp [mk64, Value.cells]

end Go.Proofs.Ytaogkdhloogmhaa
namespace Go.Proofs.Ytaogkdhloogmhaa
open Go.RowKit
set_option linter.unusedVariables false

end Go.Proofs.Ytaogkdhloogmhaa
namespace Go.Proofs.Ytaogkdhloogmhaa
open Go.RowKit
set_option linter.unusedVariables false

end Go.Proofs.Ytaogkdhloogmhaa
namespace Go.Proofs.Ytaogkdhloogmhaa
open Go.RowKit Go.Shelf
set_option linter.unusedVariables false
attribute [local go_sem] Oper.semAt_some

end Go.Proofs.Ytaogkdhloogmhaa
namespace Go.Proofs.Ytaogkdhloogmhaa
open Go.RowKit
set_option linter.unusedVariables false

end Go.Proofs.Ytaogkdhloogmhaa
namespace Go.Proofs.Ytaogkdhloogmhaa
open Go.RowKit Go.Shelf
set_option linter.unusedVariables false
attribute [local go_sem] Oper.semAt_some

end Go.Proofs.Ytaogkdhloogmhaa
