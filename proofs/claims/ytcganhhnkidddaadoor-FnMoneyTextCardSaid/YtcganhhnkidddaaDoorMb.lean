/-
  SUMS AND DIFFERENCES: both sides come to the same pair of numbers.
-/
import Derived.Test.YtcganhhnkidddaaDoorMa
namespace Go.Proofs.YtcganhhnkidddaaDoor
open Go.RowKit

def toldV (v : Int) : Int := if isM v then v else 0
def toldC (v : Int) : Int := if isM v then 0 else 4
abbrev M (v c : Int) : Value := .agg #[.int .i64 v, .int .i64 c]
def twoV (a b v : Int) : Int := if isM a && isM b then toldV v else 0
def twoC (a b v : Int) : Int := if isM a && isM b then toldC v else 1

set_option maxHeartbeats 400000 in
theorem eqOut_same (v c : Int) (w : World) :
    Calls Tryd.prog 12 #[M v c, M v c] w fun e w' => e = .returned (.bool true) ∧ Below w.heap.size w w' := by
  unfold M
  go_enter Tryd.func12, Tryd.ntmps12
  go_wp2
  go_ret
  exact ⟨rfl, bA (bA0 _ _) _⟩

end Go.Proofs.YtcganhhnkidddaaDoor
