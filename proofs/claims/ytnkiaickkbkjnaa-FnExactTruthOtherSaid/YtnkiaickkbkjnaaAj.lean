/-
  A ROW OF PAIRS' ENDS, GATHERED AND SORTED: the thinking, and how the row lies behind the sort.
-/
import Derived.Test.YtnkiaickkbkjnaaAe
namespace Go.Proofs.Ytnkiaickkbkjnaa
open Go.RowKit Go.Maps
set_option linter.unusedVariables false

def encE (x : Int × Int) : List Value := [.int .i64 x.1, .int .i64 x.2]
def enCells (ks : List (Int × Int)) : List Value := ks.flatMap encE
theorem enCells_len (ks : List (Int × Int)) : (enCells ks).length = ks.length * 2 := by
  induction ks with
  | nil => rfl
  | cons a r ih => rw [show enCells (a :: r) = encE a ++ enCells r from rfl, List.length_append, ih]; simp [encE]; omega
theorem enCells_add (ks : List (Int × Int)) (x : Int × Int) : enCells (ks ++ [x]) = enCells ks ++ [.int .i64 x.1, .int .i64 x.2] := by simp [enCells, encE]
theorem enCells_at (ks : List (Int × Int)) (i : Nat) (h : i < ks.length) : (enCells ks)[i * 2]? = some (.int .i64 ks[i].1) ∧ (enCells ks)[i * 2 + 1]? = some (.int .i64 ks[i].2) := by
  induction ks generalizing i with
  | nil => simp at h
  | cons a r ih =>
    cases i with
    | zero => simp [enCells, encE]
    | succ i =>
      have := ih i (by simpa using h)
      rw [show (i + 1) * 2 = i * 2 + 2 by omega, show i * 2 + 2 + 1 = (i * 2 + 1) + 2 by omega]
      simpa [enCells, encE] using this

end Go.Proofs.Ytnkiaickkbkjnaa
