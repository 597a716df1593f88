/-
  THE OTHER BOUNDS: money from nought on, from one on, the count of parts.
-/
import Derived.Test.YtcganhhnkidddaaMa
namespace Go.Proofs.Ytcganhhnkidddaa
open Go.RowKit
set_option linter.unusedVariables false

def isN (a : Int) : Bool := decide (0 ≤ a ∧ a ≤ 1000000000000)
set_option maxHeartbeats 400000 in
theorem isN_meth (a : Int) (w : World) :
    Calls Try.prog 51 #[.int .i64 a] w fun e w' => e = .returned (.bool (isN a)) ∧ w' = w := by
  by_cases h1 : 0 ≤ a
  · by_cases h2 : a ≤ 1000000000000
    · have e : isN a = true := by simp [isN]; omega
      rw [e]; clear e
      go_enter Try.func51, Try.ntmps51
      go_wp2
      go_ret
      exact ⟨rfl, rfl⟩
    · have e : isN a = false := by simp [isN]; omega
      rw [e]; clear e
      go_enter Try.func51, Try.ntmps51
      go_wp2
      go_ret
      exact ⟨rfl, rfl⟩
  · have e : isN a = false := by simp [isN]; omega
    rw [e]; clear e
    go_enter Try.func51, Try.ntmps51
    go_wp2
    go_ret
    exact ⟨rfl, rfl⟩

def isO (a : Int) : Bool := decide (1 ≤ a ∧ a ≤ 1000000000000)
set_option maxHeartbeats 400000 in
theorem isO_meth (a : Int) (w : World) :
    Calls Try.prog 52 #[.int .i64 a] w fun e w' => e = .returned (.bool (isO a)) ∧ w' = w := by
  by_cases h1 : 1 ≤ a
  · by_cases h2 : a ≤ 1000000000000
    · have e : isO a = true := by simp [isO]; omega
      rw [e]; clear e
      go_enter Try.func52, Try.ntmps52
      go_wp2
      go_ret
      exact ⟨rfl, rfl⟩
    · have e : isO a = false := by simp [isO]; omega
      rw [e]; clear e
      go_enter Try.func52, Try.ntmps52
      go_wp2
      go_ret
      exact ⟨rfl, rfl⟩
  · have e : isO a = false := by simp [isO]; omega
    rw [e]; clear e
    go_enter Try.func52, Try.ntmps52
    go_wp2
    go_ret
    exact ⟨rfl, rfl⟩

def isP (a : Int) : Bool := decide (1 ≤ a ∧ a ≤ 100)
set_option maxHeartbeats 400000 in
theorem isP_meth (a : Int) (w : World) :
    Calls Try.prog 53 #[.int .i64 a] w fun e w' => e = .returned (.bool (isP a)) ∧ w' = w := by
  by_cases h1 : 1 ≤ a
  · by_cases h2 : a ≤ 100
    · have e : isP a = true := by simp [isP]; omega
      rw [e]; clear e
      go_enter Try.func53, Try.ntmps53
      go_wp2
      go_ret
      exact ⟨rfl, rfl⟩
    · have e : isP a = false := by simp [isP]; omega
      rw [e]; clear e
      go_enter Try.func53, Try.ntmps53
      go_wp2
      go_ret
      exact ⟨rfl, rfl⟩
  · have e : isP a = false := by simp [isP]; omega
    rw [e]; clear e
    go_enter Try.func53, Try.ntmps53
    go_wp2
    go_ret
    exact ⟨rfl, rfl⟩

set_option maxHeartbeats 400000 in
theorem inBound1_any (a : Int) (w : World) :
    Calls Try.prog 37 #[.int .i64 1, .int .i64 a] w fun e w' => e = .returned (.bool (isN a)) ∧ Below w.heap.size w w' := by
  go_enter Try.func37, Try.ntmps37
  go_wp2_with (go_at_call 51; refine (isN_meth _ _).mono ?_; rintro e w' ⟨rfl, rfl⟩)
  go_ret
  exact ⟨rfl, (Below.refl _ _).alloc (Nat.le_refl _) _⟩

set_option maxHeartbeats 400000 in
theorem inBound2_any (a : Int) (w : World) :
    Calls Try.prog 37 #[.int .i64 2, .int .i64 a] w fun e w' => e = .returned (.bool (isO a)) ∧ Below w.heap.size w w' := by
  go_enter Try.func37, Try.ntmps37
  go_wp2_with (go_at_call 52; refine (isO_meth _ _).mono ?_; rintro e w' ⟨rfl, rfl⟩)
  go_ret
  exact ⟨rfl, (Below.refl _ _).alloc (Nat.le_refl _) _⟩

set_option maxHeartbeats 400000 in
theorem inBound3_any (a : Int) (w : World) :
    Calls Try.prog 37 #[.int .i64 3, .int .i64 a] w fun e w' => e = .returned (.bool (isP a)) ∧ Below w.heap.size w w' := by
  go_enter Try.func37, Try.ntmps37
  go_wp2_with (go_at_call 53; refine (isP_meth _ _).mono ?_; rintro e w' ⟨rfl, rfl⟩)
  go_ret
  exact ⟨rfl, (Below.refl _ _).alloc (Nat.le_refl _) _⟩

end Go.Proofs.Ytcganhhnkidddaa
