/-
  THE SOLVER'S FACE: what is deferred; impl.Solve, impl.SolveCount.
-/
import Derived.Test.YtaogkdhloogmhaaHaf
import Derived.Test.YtaogkdhloogmhaaHaj
import Derived.Test.YtaogkdhloogmhaaHah
import Derived.Test.YtaogkdhloogmhaaHaa
import Derived.Test.YtaogkdhloogmhaaGac
import Derived.Recover
import Derived.Laws.CopyOwn
import Derived.Laws.EntriesVeiled
namespace Go.Proofs.Ytaogkdhloogmhaa
open Go.RowKit
set_option linter.unusedVariables false

/-- May it be solved? -/
def SolOk (vars : Int) (css : List (List Int)) (bud : Int) : Prop := CnfR vars css ∧ 0 ≤ bud ∧ bud ≤ 300
/-- What Solve answers, and its code. -/
noncomputable def solA (vars : Int) (css : List (List Int)) (bud : Int) : Res × Int := if B (SolOk vars css bud) = true then (solF css vars.toNat bud.toNat 0 [] [], 0) else ((0, [], [], 0), 1)
theorem solA_yes {vars : Int} {css : List (List Int)} {bud : Int} (h : SolOk vars css bud) : solA vars css bud = (solF css vars.toNat bud.toNat 0 [] [], 0) := by unfold solA; rw [B_yes h]; rfl
theorem solA_no {vars : Int} {css : List (List Int)} {bud : Int} (h : ¬ SolOk vars css bud) : solA vars css bud = ((0, [], [], 0), 1) := by unfold solA; rw [B_no h]; rfl
/-- What an answer is. -/
def SPost (w : World) (A : Res × Int) (e : Ending) (w' : World) : Prop := ∃ (vt vl : Value) (ls : List LCl), e = .returned (.agg #[.int .i64 A.1.1, vt, vl, .int .i64 A.1.2.2.2, .int .i64 A.2]) ∧ SoV w.heap.size A.1 vt vl ls w' ∧ Below w.heap.size w w'
theorem vL_nil : vL [] = List.replicate 97 (.int .i64 0) := by
  apply List.ext_getElem?
  intro k
  by_cases hk : k < 97
  · rw [vL_at [] k hk, val_no (by simp) (by simp), List.getElem?_replicate, if_pos hk]
  · rw [List.getElem?_eq_none (by rw [vL_len]; omega), List.getElem?_eq_none (by rw [List.length_replicate]; omega)]

theorem Only.setRow {g : Nat} (X : World) (cells : Array Value) : Only g X (X.setRow g cells) := ⟨rfl, rfl, rfl, by simp, fun k _ hk => setRow_other _ _ _ _ hk⟩
end Go.Proofs.Ytaogkdhloogmhaa
