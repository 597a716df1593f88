/-
  WHAT FOLLOWS AT ONCE, as lists; values.follow, impl.listsRight.
  WHAT FOLLOWS AT ONCE: impl.UnitRun.
  UNITS AS THE MODEL FINDS THEM: the values of literals in a row; spec.l08Unit, spec.l08More.
  WHAT FOLLOWS AT ONCE, as the model runs it: spec.l08Run.
-/
import Derived.Test.YtnihhbfgbilimaaGreatDoorPt
namespace Go.Proofs.YtnihhbfgbilimaaGreatDoor
open Go.RowKit
set_option linter.unusedVariables false

theorem KeepB.trans {b : Nat} {w W V : World} (h : KeepB b w W) (g : KeepB b W V) : KeepB b w V := ⟨Nat.le_trans h.1 g.1, fun k h1 h2 => (g.2 k (Nat.lt_of_lt_of_le h1 h.1) h2).trans (h.2 k h1 h2)⟩

/-- Clauses of a right Cnf have literals of its variables. -/
theorem cnfR_lits {vars : Int} {css : List (List Int)} (h : CnfR vars css) (hw : ∀ l ∈ css, ∀ z ∈ l, wfI z) : ∀ l ∈ css, ∀ z ∈ l, OkZ vars z := by
  intro l hl z hz
  obtain ⟨i, hi, rfl⟩ := List.getElem_of_mem hl
  have g := h.2.2 i hi
  have e : css.getD i [] = css[i] := by simp [hi]
  rw [e] at g
  exact (lv_in h.1.1 h.1.2 (hw _ hl z hz)).1 (g.2.1 z hz)

end Go.Proofs.YtnihhbfgbilimaaGreatDoor
