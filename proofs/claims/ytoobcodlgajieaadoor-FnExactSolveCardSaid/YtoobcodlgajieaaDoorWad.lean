/-
  WHAT FOLLOWS AT ONCE, as the model runs it: spec.l08Run, the walk.
-/
import Derived.Test.YtoobcodlgajieaaDoorWac
import Derived.Deep.LoopGhost
namespace Go.Proofs.YtoobcodlgajieaaDoor
open Go.RowKit
set_option linter.unusedVariables false

end Go.Proofs.YtoobcodlgajieaaDoor
