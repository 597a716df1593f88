/-
  LISTS OF LITERALS HANDED IN, OPENED.
-/
import Derived.Test.YtoobcodlgajieaaDoorTc
namespace Go.Proofs.YtoobcodlgajieaaDoor
open Go.RowKit Go.ChangeShapes Go.WideShapes
set_option linter.unusedVariables false
section
variable {H : Type} {enc : TypeId × Value → H} {W : World} {base : Nat} {sp : Nat → Bool} {held : Bool}
/-- Lists of literals handed in. -/
theorem open_cls {a : Option Addr} {len cap : Nat} {d : DataW H} {ps : List MemPlace} (h : DataW.Trod enc Tryd.prog W base sp held 23 (.slice a len cap) d ps) :
    ∃ cl : List LCl, len = cl.length ∧ InC W a cl := by
  obtain ⟨fuel, hf⟩ := h
  obtain ⟨sl, cap', cl, e, h1⟩ := open_rows hf
  simp [Value.cells] at e
  obtain ⟨rfl, rfl, rfl⟩ := e
  exact ⟨cl, rfl, h1⟩
end
end Go.Proofs.YtoobcodlgajieaaDoor
