/-
  THE LAW 7: the walk.
-/
import Derived.Test.YtdbebcigikbjgaaGreatAq
import Derived.Test.YtdbebcigikbjgaaGreatPb
import Derived.Test.YtdbebcigikbjgaaGreatPf
import Derived.Test.YtdbebcigikbjgaaGreatPj
namespace Go.Proofs.YtdbebcigikbjgaaGreat
open Go.RowKit
set_option linter.unusedVariables false

theorem dom_bare {rs rs' : List LSt} (id top : Int) (h : bareS rs = bareS rs') : rs.flatMap (domF id top) = rs'.flatMap (domF id top) := by
  have e : ∀ l : List LSt, l.flatMap (domF id top) = (bareS l).flatMap (fun r => FF r.1 id top r.2.2) := fun l => by
    unfold bareS
    rw [List.flatMap_map]
    rfl
  rw [e, e, h]


end Go.Proofs.YtdbebcigikbjgaaGreat
