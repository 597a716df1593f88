/-
  THE LAW FnExactNumBytes: its walk.
-/
import Derived.Test.YtnkdkbchendpmaaDoorNb
namespace Go.Proofs.YtnkdkbchendpmaaDoor
open Go.RowKit
set_option linter.unusedVariables false

set_option maxHeartbeats 400000 in
theorem law5 (n : Int) (hn : n < 9223372036854775808) (w : World) :
    Calls Tryd.prog 5 #[.int .i64 n] w fun e w' => e = .returned (.bool true) ∧ Below w.heap.size w w' := by
  have HI : Hid (∀ w1, Calls Tryd.prog 18 #[.int .i64 n] w1 fun e w' => e = .returned (.string ⟨(numT n).toArray⟩) ∧ Below w1.heap.size w1 w') := fun w1 => inb_any n hn w1
  have HS : Hid (∀ w1, Calls Tryd.prog 17 #[.int .i64 n] w1 fun e w' => e = .returned (.string ⟨(numT n).toArray⟩) ∧ Below w1.heap.size w1 w') := fun w1 => snb_any n hn w1
  generalize numT n = l at *
  go_enter Tryd.func5, Tryd.ntmps5
  go_wp2_with fail
  refine (HS.out _).mono ?_
  rintro e w1 ⟨rfl, b1⟩
  have B1 : Hid (Below w.heap.size w w1) := b1
  clear b1
  go_wp2_with fail
  refine (HI.out _).mono ?_
  rintro e w2 ⟨rfl, b2⟩
  have B2 : Hid (Below w.heap.size w w2) := bT B1.out b2
  clear b2
  go_wp2
  go_ret
  exact ⟨rfl, B2.out⟩
theorem i64_lt {a : Int} (h : (Lit.int .i64 a).wf = true) : a < 9223372036854775808 := by
  have h3 : -9223372036854775808 ≤ a ∧ a ≤ 9223372036854775807 := by simpa [Lit.wf, IntKind.min, IntKind.max, IntKind.signed, IntKind.bits] using h
  omega

end Go.Proofs.YtnkdkbchendpmaaDoor
