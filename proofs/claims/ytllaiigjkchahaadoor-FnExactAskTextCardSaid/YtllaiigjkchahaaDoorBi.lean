/-
  THE LAW 8 (FnExactLemmasText): the walk.
-/
import Derived.Test.YtllaiigjkchahaaDoorBh
namespace Go.Proofs.YtllaiigjkchahaaDoor
open Go.RowKit
set_option linter.unusedVariables false

end Go.Proofs.YtllaiigjkchahaaDoor
