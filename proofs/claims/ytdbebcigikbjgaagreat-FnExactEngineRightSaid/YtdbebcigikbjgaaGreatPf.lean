/-
  THE LAW 11: the walk.
-/
import Derived.Test.YtdbebcigikbjgaaGreatAq
import Derived.Test.YtdbebcigikbjgaaGreatPd
namespace Go.Proofs.YtdbebcigikbjgaaGreat
open Go.RowKit
set_option linter.unusedVariables false

theorem IdsR_bare {rs rs' : List LSt} (ps : List LPr) (zs : List Int) (h : bareS rs = bareS rs') (g : IdsR rs ps zs) : IdsR rs' ps zs :=
  ⟨g.1, TabR_bare ps h g.2.1, g.2.2.1, by rw [← idsL_bare h]; exact g.2.2.2⟩
theorem BIds {rs rs' : List LSt} (ps : List LPr) (zs : List Int) (h : bareS rs = bareS rs') : B (IdsR rs ps zs) = B (IdsR rs' ps zs) := B_iff ⟨IdsR_bare ps zs h, IdsR_bare ps zs h.symm⟩


end Go.Proofs.YtdbebcigikbjgaaGreat
