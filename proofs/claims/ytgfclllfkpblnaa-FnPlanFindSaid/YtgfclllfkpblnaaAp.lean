/-
  TWO TABLES HELD AGAINST EACH OTHER.
-/
import Derived.Test.YtgfclllfkpblnaaAo
import Derived.Deep.RegionHeldLaw
namespace Go.Proofs.Ytgfclllfkpblnaa
open Go.RowKit
set_option linter.unusedVariables false





end Go.Proofs.Ytgfclllfkpblnaa
