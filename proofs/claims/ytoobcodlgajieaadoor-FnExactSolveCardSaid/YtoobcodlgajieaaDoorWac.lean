/-
  ROWS OF SLICES PUT TOGETHER: slices.Grow of none, slices.Concat, at []int64; impl.clausesWith.
  WHAT FOLLOWS AT ONCE, as lists; values.follow, impl.listsRight.
  WHAT FOLLOWS AT ONCE: impl.UnitRun.
  UNITS AS THE MODEL FINDS THEM: the values of literals in a row; spec.l08Unit, spec.l08More.
  WHAT FOLLOWS AT ONCE, as the model runs it: spec.l08Run.
-/
import Derived.Test.YtoobcodlgajieaaDoorVab
import Derived.Test.YtoobcodlgajieaaDoorVaa
import Derived.Test.YtoobcodlgajieaaDoorWab
namespace Go.Proofs.YtoobcodlgajieaaDoor
open Go.RowKit
set_option linter.unusedVariables false

end Go.Proofs.YtoobcodlgajieaaDoor
namespace Go.Proofs.YtoobcodlgajieaaDoor
open Go.RowKit
set_option linter.unusedVariables false
variable {fh : List Value}

end Go.Proofs.YtoobcodlgajieaaDoor
namespace Go.Proofs.YtoobcodlgajieaaDoor
open Go.RowKit
set_option linter.unusedVariables false

theorem cls_own {w : World} {B : Nat} {e : TypeId} {sl : Option Addr} {cap : Nat} {ls : List LCl} (h : w.ownsRow B e 1 (.slice sl ls.length cap) ls.length (hdC ls)) (he : ∀ r ∈ ls, ClIn w r) : Cls w sl ls := by
  refine ⟨?_, he⟩
  rcases h.2 with ⟨_, h0⟩ | ⟨g, cp, cur, hv, hb, hg, _⟩
  · exact .inl (List.eq_nil_of_length_eq_zero h0)
  · cases hv
    refine .inr ⟨g, 0, rfl, (Array.getElem?_eq_some_iff.1 hg).1, fun i hi => ?_⟩
    rw [Nat.zero_add, h.cellAt i (by omega)]
    simp [hdC, hi]
end Go.Proofs.YtoobcodlgajieaaDoor
namespace Go.Proofs.YtoobcodlgajieaaDoor
open Go.RowKit
set_option linter.unusedVariables false

end Go.Proofs.YtoobcodlgajieaaDoor
namespace Go.Proofs.YtoobcodlgajieaaDoor
open Go.RowKit
set_option linter.unusedVariables false

end Go.Proofs.YtoobcodlgajieaaDoor
