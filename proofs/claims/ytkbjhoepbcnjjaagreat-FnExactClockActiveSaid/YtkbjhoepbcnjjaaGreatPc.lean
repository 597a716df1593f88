/-
  THE LAW FnExactPlanIds: the walk; and a plan of the laws, opened.
-/
import Derived.Test.YtkbjhoepbcnjjaaGreatPb
namespace Go.Proofs.YtkbjhoepbcnjjaaGreat
open Go.RowKit
set_option linter.unusedVariables false

theorem Row2.plM {w : World} {b n : Nat} {ts : List LPl} (h : Row2 w b n ts) : PlM w b n := by
  obtain ⟨vs, h1, h2, _⟩ := h
  exact ⟨vs, h1, by omega⟩
theorem Row2.apart {w : World} {b n : Nat} {ts : List LPl} (h : Row2 w b n ts) {C : Nat} {v : Value} {m : Nat} {xs : List Value} (ho : w.ownsRow C 2 1 v m xs) : v.ownBlock ≠ some b := by
  obtain ⟨vs, h1, _⟩ := h
  rcases ho.2 with ⟨rfl, _⟩ | ⟨g, cap, cur, rfl, _, hg, _⟩
  · intro e; cases e
  · intro e
    cases e
    rw [h1] at hg
    simp at hg


end Go.Proofs.YtkbjhoepbcnjjaaGreat
