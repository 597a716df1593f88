/-
  TWO TABLES HELD AGAINST EACH OTHER.
-/
import Derived.Test.YtllaiigjkchahaaDoorAo
import Derived.Deep.RegionHeldLaw
namespace Go.Proofs.YtllaiigjkchahaaDoor
open Go.RowKit
set_option linter.unusedVariables false





end Go.Proofs.YtllaiigjkchahaaDoor
