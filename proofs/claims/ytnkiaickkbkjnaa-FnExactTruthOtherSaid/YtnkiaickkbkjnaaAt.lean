/-
  A TABLE OF ONE'S OWN, marked: what turns and what does not.
-/
import Derived.Test.YtnkiaickkbkjnaaAs
namespace Go.Proofs.Ytnkiaickkbkjnaa
open Go.RowKit
set_option linter.unusedVariables false

theorem totD_nonneg (rs : List LSt) (j : Nat) : (0 : Int) ≤ (totD (rs.take j) : Int) := by omega





end Go.Proofs.Ytnkiaickkbkjnaa
