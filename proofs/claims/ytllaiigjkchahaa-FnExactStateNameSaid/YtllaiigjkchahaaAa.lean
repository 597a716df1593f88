/-
  THE NAMES OF A BID'S STATES: both StateName, and the walk of the law FnExactStateName.
-/
import Derived.Test.YtllaiigjkchahaaRows
import Derived.Lib.Hide
import Derived.WalkKit
import Derived.Below
import Derived.Tactics2
namespace Go.Proofs.Ytllaiigjkchahaa
open Go.RowKit
set_option linter.unusedVariables false

def nameB (z : Int) : ByteArray :=
  if z = 1 then ⟨#[97, 99, 116, 105, 118, 101]⟩ else if z = 2 then ⟨#[102, 114, 111, 122, 101, 110]⟩ else if z = 3 then ⟨#[111, 117, 116]⟩ else if z = 4 then ⟨#[119, 111, 110]⟩ else ⟨#[]⟩

set_option maxHeartbeats 1000000 in
theorem ssn_any (z : Int) (w : World) : Calls Try.prog 4 #[.int .i64 z] w fun e w' => e = .returned (.string (nameB z)) ∧ w = w' := by
  by_cases h1 : z = 1
  · subst h1
    go_enter Try.func4, Try.ntmps4
    go_wp2
    go_ret
    exact ⟨rfl, rfl⟩
  by_cases h2 : z = 2
  · subst h2
    go_enter Try.func4, Try.ntmps4
    go_wp2
    go_ret
    exact ⟨rfl, rfl⟩
  by_cases h3 : z = 3
  · subst h3
    go_enter Try.func4, Try.ntmps4
    go_wp2
    go_ret
    exact ⟨rfl, rfl⟩
  by_cases h4 : z = 4
  · subst h4
    go_enter Try.func4, Try.ntmps4
    go_wp2
    go_ret
    exact ⟨rfl, rfl⟩
  have e : nameB z = ⟨#[]⟩ := by unfold nameB; rw [if_neg h1, if_neg h2, if_neg h3, if_neg h4]
  rw [e]
  clear e
  go_enter Try.func4, Try.ntmps4
  go_wp2
  go_ret
  exact ⟨rfl, rfl⟩

set_option maxHeartbeats 1000000 in
theorem isn_any (z : Int) (w : World) : Calls Try.prog 5 #[.int .i64 z] w fun e w' => e = .returned (.string (nameB z)) ∧ w = w' := by
  by_cases h1 : z = 1
  · subst h1
    go_enter Try.func5, Try.ntmps5
    go_wp2
    go_ret
    exact ⟨rfl, rfl⟩
  by_cases h2 : z = 2
  · subst h2
    go_enter Try.func5, Try.ntmps5
    go_wp2
    go_ret
    exact ⟨rfl, rfl⟩
  by_cases h3 : z = 3
  · subst h3
    go_enter Try.func5, Try.ntmps5
    go_wp2
    go_ret
    exact ⟨rfl, rfl⟩
  by_cases h4 : z = 4
  · subst h4
    go_enter Try.func5, Try.ntmps5
    go_wp2
    go_ret
    exact ⟨rfl, rfl⟩
  have e : nameB z = ⟨#[]⟩ := by unfold nameB; rw [if_neg h1, if_neg h2, if_neg h3, if_neg h4]
  rw [e]
  clear e
  go_enter Try.func5, Try.ntmps5
  go_wp2
  go_ret
  exact ⟨rfl, rfl⟩

set_option maxHeartbeats 1000000 in
theorem law3 (z : Int) (w : World) : Calls Try.prog 3 #[.int .i64 z] w fun e w' => e = .returned (.bool true) ∧ Below w.heap.size w w' := by
  go_enter Try.func3, Try.ntmps3
  go_wp2_with fail
  refine (ssn_any _ _).mono ?_
  rintro e w1 ⟨rfl, rfl⟩
  go_wp2_with fail
  refine (isn_any _ _).mono ?_
  rintro e w1 ⟨rfl, rfl⟩
  go_wp2
  go_ret
  exact ⟨rfl, Below.refl _ _⟩

end Go.Proofs.Ytllaiigjkchahaa
