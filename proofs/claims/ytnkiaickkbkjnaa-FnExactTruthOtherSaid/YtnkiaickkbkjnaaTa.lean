/-
  A TABLE OF THE LAWS, OPENED: what an argument that reads as one is.
-/
import Derived.Test.YtnkiaickkbkjnaaAf
import Derived.ChangeSame
import Derived.ChangeSlices
import Derived.ChangeArms
import Derived.Deep.Strs
import Derived.Deep.Slices
namespace Go.Proofs.Ytnkiaickkbkjnaa
open Go.RowKit Go.ChangeShapes Go.WideShapes
set_option linter.unusedVariables false

theorem add_at (c o i : Nat) : (⟨c, o, none⟩ : Addr).add i = ⟨c, o + i, none⟩ := by
  unfold Addr.add
  by_cases h : i = 0 <;> simp [h]
theorem addr_none {w : World} {x : Addr} {v : Value} (h : w.cell? (x.add 0) = some v) : ∃ c o, x = ⟨c, o, none⟩ ∧ c < w.heap.size := by
  obtain ⟨c, o, spot⟩ := x
  have hs' : spot = none := by simpa [Addr.add] using World.cell?_spot h
  subst hs'
  rw [add_at] at h
  refine ⟨c, o, rfl, ?_⟩
  unfold World.cell? at h
  cases e : w.heap[c]? with
  | none => simp [e] at h
  | some ob => exact (Array.getElem?_eq_some_iff.1 e).1
theorem cells2' : Try.prog.cellsOf 2 = 1 := by kernel_rfl

section
variable {H : Type} {enc : TypeId × Value → H} {W : World} {base : Nat} {sp : Nat → Bool} {held : Bool}

theorem open_i64 {fuel : Nat} {cs : List Value} {x : DataW H × List MemPlace} (h : DataW.trod enc Try.prog W base sp held fuel 2 cs = some x) : ∃ a, cs = [.int .i64 a] ∧ (Lit.int .i64 a).wf = true := by
  obtain ⟨a, hk, _, hw⟩ := DataW.trod_int Try.underlying2 h
  exact ⟨a, hk, hw⟩
end

end Go.Proofs.Ytnkiaickkbkjnaa
