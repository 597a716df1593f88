/-
  TWO TABLES HELD AGAINST EACH OTHER.
-/
import Derived.Test.YtnkiaickkbkjnaaAo
import Derived.Deep.RegionHeldLaw
namespace Go.Proofs.Ytnkiaickkbkjnaa
open Go.RowKit
set_option linter.unusedVariables false





end Go.Proofs.Ytnkiaickkbkjnaa
