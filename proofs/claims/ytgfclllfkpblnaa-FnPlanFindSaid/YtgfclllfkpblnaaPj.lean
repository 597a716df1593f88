/-
  THE FIRST FAULT OF A PLAN: the model's walk.
-/
import Derived.Test.YtgfclllfkpblnaaPi
namespace Go.Proofs.Ytgfclllfkpblnaa
open Go.RowKit
set_option linter.unusedVariables false

/-- The first j may stand beside p. -/
def MayTo (ps : List LPr) (pre : List LPl) (p : LPl) (j : Nat) : Prop := ∀ o ∈ pre.take j, mayL ps o.1 o.2 p.1 p.2 = true
theorem MayTo.zero (ps : List LPr) (pre : List LPl) (p : LPl) : MayTo ps pre p 0 := fun o ho => by simp at ho
theorem MayTo.step {ps : List LPr} {pre : List LPl} {p : LPl} {j : Nat} (h : MayTo ps pre p j) (hj : j < pre.length) (g : mayL ps pre[j].1 pre[j].2 p.1 p.2 = true) : MayTo ps pre p (j + 1) := fun o ho => by
  rw [List.take_succ_eq_append_getElem hj, List.mem_append] at ho
  rcases ho with ho | ho
  · exact h o ho
  · simp at ho; subst ho; exact g
theorem may_all {ps : List LPr} {pl : List LPl} {p : LPl} {k : Nat} (h : MayTo ps pl p k) : (pl.take k).all (fun o => mayL ps o.1 o.2 p.1 p.2) = true := List.all_eq_true.2 h
theorem may_not {ps : List LPr} {pl : List LPl} {p : LPl} {j k : Nat} (hj : j < pl.length) (hk : j < k) (g : mayL ps pl[j].1 pl[j].2 p.1 p.2 = false) : (pl.take k).all (fun o => mayL ps o.1 o.2 p.1 p.2) = false := by
  rw [List.all_eq_false]
  refine ⟨pl[j], ?_, by simp [g]⟩
  rw [List.mem_take_iff_getElem]
  exact ⟨j, by omega, rfl⟩


end Go.Proofs.Ytgfclllfkpblnaa
