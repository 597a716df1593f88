/-
  LISTS THAT RISE, a station that is right, an Id among others.
-/
import Derived.Test.YtllaiigjkchahaaDoorAa
import Derived.Lib.Hide
namespace Go.Proofs.YtllaiigjkchahaaDoor
open Go.RowKit
set_option linter.unusedVariables false

/-- The first k of zs rise, and lie within two bounds. -/
def UpTo (lo hi : Int) (zs : List Int) (k : Nat) : Prop := ∀ i, i < k → (lo ≤ zs.getD i 0 ∧ zs.getD i 0 ≤ hi) ∧ (0 < i → zs.getD (i - 1) 0 < zs.getD i 0)
def InRise (lo hi : Int) (zs : List Int) : Prop := UpTo lo hi zs zs.length
theorem UpTo.zero (lo hi : Int) (zs : List Int) : UpTo lo hi zs 0 := fun i h => absurd h (Nat.not_lt_zero _)
theorem UpTo.step {lo hi : Int} {zs : List Int} {k : Nat} (h : UpTo lo hi zs k) (h1 : lo ≤ zs.getD k 0) (h2 : zs.getD k 0 ≤ hi) (h3 : 0 < k → zs.getD (k - 1) 0 < zs.getD k 0) : UpTo lo hi zs (k + 1) := by
  intro i hi
  by_cases e : i = k
  · subst e; exact ⟨⟨h1, h2⟩, h3⟩
  · exact h i (by omega)
theorem UpTo.no {lo hi : Int} {zs : List Int} {k : Nat} (hk : k < zs.length) (h : ¬ (lo ≤ zs.getD k 0 ∧ zs.getD k 0 ≤ hi ∧ (0 < k → zs.getD (k - 1) 0 < zs.getD k 0))) : ¬ InRise lo hi zs := fun g => h ⟨(g k hk).1.1, (g k hk).1.2, (g k hk).2⟩



/-- A station but for its Id. -/
def StOK (s : Int) (zs : List Int) : Prop := (1 ≤ s ∧ s ≤ 1000) ∧ (1 ≤ zs.length ∧ zs.length ≤ 8) ∧ InRise 2 51 zs
abbrev SV (i s : Int) (sl : Option Addr) (n cap : Nat) : Value := .agg #[.int .i64 i, .int .i64 s, .slice sl n cap]


def RiseTo (zs : List Int) (k : Nat) : Prop := ∀ i, i < k → 0 < i → zs.getD (i - 1) 0 < zs.getD i 0
theorem InRise.iff (lo hi : Int) (zs : List Int) : InRise lo hi zs ↔ RiseTo zs zs.length ∧ zs.all (inB lo hi) = true := by
  constructor
  · intro h
    refine ⟨fun i h1 h2 => (h i h1).2 h2, ?_⟩
    rw [List.all_eq_true]
    intro x hx
    obtain ⟨i, hi, rfl⟩ := List.getElem_of_mem hx
    have := (h i hi).1
    simp only [List.getD_eq_getElem?_getD, hi, List.getElem?_eq_getElem, Option.getD_some] at this
    simp [inB, this]
  · rintro ⟨h1, h2⟩ i h
    refine ⟨?_, fun h0 => h1 i h h0⟩
    have := List.all_eq_true.1 h2 zs[i] (List.getElem_mem h)
    simp only [inB, decide_eq_true_eq] at this
    simpa [h] using this


end Go.Proofs.YtllaiigjkchahaaDoor
