/-
  THE LAWS FnExactMoneyAdd AND FnExactMoneySub: their walks.
-/
import Derived.Test.YtcganhhnkidddaaMb
namespace Go.Proofs.Ytcganhhnkidddaa
open Go.RowKit

set_option maxHeartbeats 400000 in
theorem law6 (a b : Int) (w : World) :
    Calls Try.prog 6 #[.int .i64 a, .int .i64 b] w fun e w' => e = .returned (.bool true) ∧ Below w.heap.size w w' := by
  go_enter Try.func6, Try.ntmps6
  go_wp2_with fail
  refine (sadd_any _ _ _).mono ?_
  rintro e w1 ⟨rfl, hb1⟩
  go_wp2_with fail
  refine (add_any _ _ _).mono ?_
  rintro e w2 ⟨rfl, hb2⟩
  obtain ⟨hc, hf⟩ := bcell hb2; have hz := bZ hb2
  go_wp2_with fail
  refine (eqOut_same _ _ _).mono ?_
  rintro e w3 ⟨rfl, hb3⟩
  go_wp2_with fail
  go_ret
  exact ⟨rfl, bT (bA (bT (bA hb1 _) hb2) _) hb3⟩

set_option maxHeartbeats 400000 in
theorem law7 (a b : Int) (w : World) :
    Calls Try.prog 7 #[.int .i64 a, .int .i64 b] w fun e w' => e = .returned (.bool true) ∧ Below w.heap.size w w' := by
  go_enter Try.func7, Try.ntmps7
  go_wp2_with fail
  refine (ssub_any _ _ _).mono ?_
  rintro e w1 ⟨rfl, hb1⟩
  go_wp2_with fail
  refine (sub_any _ _ _).mono ?_
  rintro e w2 ⟨rfl, hb2⟩
  obtain ⟨hc, hf⟩ := bcell hb2; have hz := bZ hb2
  go_wp2_with fail
  refine (eqOut_same _ _ _).mono ?_
  rintro e w3 ⟨rfl, hb3⟩
  go_wp2_with fail
  go_ret
  exact ⟨rfl, bT (bA (bT (bA hb1 _) hb2) _) hb3⟩

end Go.Proofs.Ytcganhhnkidddaa
