/-
  THE LAW 8: the walk.
-/
import Derived.Test.YtdmnnclbcljdmaaQf
namespace Go.Proofs.Ytdmnnclbcljdmaa
open Go.RowKit
set_option linter.unusedVariables false

theorem totC_bare {a b : List LCl} (h : bareC a = bareC b) : totC a = totC b := by
  have e : ∀ l : List LCl, totC l = ((bareC l).map List.length).sum := fun l => by simp [totC, bareC, Function.comp_def]
  rw [e, e, h]
/-- What a Cnf handed in is. -/
structure InC (w : World) (sl : Option Addr) (cs : List LCl) : Prop where
  ln : cs.length ≤ maxLen
  cl : Cls w sl cs
  wf : WfC cs


end Go.Proofs.Ytdmnnclbcljdmaa
