/-
  THE FIRST CLAUSE THAT IS NOT TRUE: spec.CnfFault, spec.CnfTrue.
-/
import Derived.Test.YtdmfljejlhlbnaaJau
namespace Go.Proofs.Ytdmfljejlhlbnaa
open Go.RowKit
set_option linter.unusedVariables false

/-- A literal is true, as the model asks it. -/
def MlT (ts : List Int) (z : Int) : Prop := (0 < z ∧ z ∈ ts) ∨ (z < 0 ∧ wrap64 (-z) ∉ ts)
/-- One of the first k is true. -/
def AnyTo (ts zs : List Int) (k : Nat) : Prop := ∃ i, i < k ∧ MlT ts (zs.getD i 0)
theorem AnyTo.zero (ts zs : List Int) : ¬ AnyTo ts zs 0 := fun ⟨i, h, _⟩ => absurd h (Nat.not_lt_zero _)
theorem AnyTo.step (ts zs : List Int) (k : Nat) : AnyTo ts zs (k + 1) ↔ AnyTo ts zs k ∨ MlT ts (zs.getD k 0) := by
  constructor
  · rintro ⟨i, hi, h⟩
    by_cases e : i = k
    · subst e; exact .inr h
    · exact .inl ⟨i, by omega, h⟩
  · rintro (⟨i, hi, h⟩ | h)
    · exact ⟨i, by omega, h⟩
    · exact ⟨k, by omega, h⟩
end Go.Proofs.Ytdmfljejlhlbnaa
