/-
  THE LAW FnExactLogLines, beside what the listed tables give.
-/
import Derived.Test.YtmffoannknkjkaaDoorPd
import Derived.Test.YtmffoannknkjkaaDoorOc
namespace Go.Proofs.YtmffoannknkjkaaDoor
end Go.Proofs.YtmffoannknkjkaaDoor
