/-
  A TABLE OF ONE'S OWN, marked: what turns and what does not.
-/
import Derived.Test.YtdbebcigikbjgaaGreatAs
namespace Go.Proofs.YtdbebcigikbjgaaGreat
open Go.RowKit
set_option linter.unusedVariables false

theorem totD_nonneg (rs : List LSt) (j : Nat) : (0 : Int) ≤ (totD (rs.take j) : Int) := by omega


/-- A row of m pairs. -/
def PrM (w : World) (b m : Nat) : Prop := ∃ vs : Array Value, w.heap[b]? = some (.cells vs 71) ∧ vs.size = m * 3
theorem PrM.set {w : World} {b m : Nat} (h : PrM w b m) (o : Nat) (v : Value) : PrM (w.setCell ⟨b, o, none⟩ v) b m := by
  obtain ⟨vs, h1, h2⟩ := h
  exact ⟨_, heap_setCell_same w b o vs 71 v h1, by simp [h2]⟩
theorem PrM.there {w : World} {b m : Nat} (h : PrM w b m) (j : Nat) (hj : j < m * 3) : (∃ v, w.cell? ⟨b, j, none⟩ = some v) ∧ w.frozen? ⟨b, j, none⟩ = false := by
  obtain ⟨vs, h1, h2⟩ := h
  exact ⟨⟨vs[j]'(by omega), by simp [World.cell?, h1, show j < vs.size by omega]⟩, by simp [World.frozen?, h1]⟩



end Go.Proofs.YtdbebcigikbjgaaGreat
