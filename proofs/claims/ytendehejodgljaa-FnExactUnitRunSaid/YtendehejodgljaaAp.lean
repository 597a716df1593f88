/-
  TWO TABLES HELD AGAINST EACH OTHER.
-/
import Derived.Test.YtendehejodgljaaAo
import Derived.Deep.RegionHeldLaw
namespace Go.Proofs.Ytendehejodgljaa
open Go.RowKit
set_option linter.unusedVariables false





end Go.Proofs.Ytendehejodgljaa
