/-
  WHAT THE LISTED TABLES GIVE, AND THE LAW FnExactMoneyText's WALK.
-/
import Derived.Test.YtcganhhnkidddaaDoorTb
import Derived.Test.YtcganhhnkidddaaDoorTc
import Derived.Test.YtcganhhnkidddaaDoorMb
namespace Go.Proofs.YtcganhhnkidddaaDoor
open Go.RowKit
set_option linter.unusedVariables false

set_option maxHeartbeats 400000 in
theorem lawText (v : Int) (w : World) (ht : PowTab w) :
    Calls Tryd.prog 4 #[.int .i64 v] w fun e w' => e = .returned (.bool true) ∧ Below w.heap.size w w' := by
  have HI : Hid (∀ w1, Below w.heap.size w w1 → Calls Tryd.prog 7 #[.int .i64 v] w1 fun e w' => e = .returned (.string ⟨(mtextOf v).toArray⟩) ∧ Below w1.heap.size w1 w') :=
    fun w1 hb => imt_any v w1 (ht.below hb)
  have HS : Hid (∀ w1, Calls Tryd.prog 11 #[.int .i64 v] w1 fun e w' => e = .returned (.string ⟨(mtextOf v).toArray⟩) ∧ Below w1.heap.size w1 w') := fun w1 => smt_any v w1
  generalize mtextOf v = l at *
  clear ht
  go_enter Tryd.func4, Tryd.ntmps4
  go_wp2_with fail
  refine (HS.out _).mono ?_
  rintro e w1 ⟨rfl, b1⟩
  have B1 : Hid (Below w.heap.size w w1) := b1
  clear b1
  go_wp2_with fail
  refine (HI.out _ B1.out).mono ?_
  rintro e w2 ⟨rfl, b2⟩
  have B2 : Hid (Below w.heap.size w w2) := bT B1.out b2
  clear b2
  go_wp2
  go_ret
  exact ⟨rfl, B2.out⟩

end Go.Proofs.YtcganhhnkidddaaDoor
