/-
  TWO TABLES HELD AGAINST EACH OTHER.
-/
import Derived.Test.YtdmnnclbcljdmaaAo
import Derived.Deep.RegionHeldLaw
namespace Go.Proofs.Ytdmnnclbcljdmaa
open Go.RowKit
set_option linter.unusedVariables false





end Go.Proofs.Ytdmnnclbcljdmaa
