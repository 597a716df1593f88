/-
  CLAUSES, AS THE LAWS ARE GIVEN THEM, OPENED.
-/
import Derived.Test.YtcnpdjjfcfkcfaaDoorTl
import Derived.Test.YtcnpdjjfcfkcfaaDoorCe
namespace Go.Proofs.YtcnpdjjfcfkcfaaDoor
open Go.RowKit Go.ChangeShapes Go.WideShapes
set_option linter.unusedVariables false
section
variable {H : Type} {enc : TypeId × Value → H} {W : World} {base : Nat} {sp : Nat → Bool} {held : Bool}
/-- A Cnf handed in. -/
theorem open_cnf {c0 c1 : Value} {d : DataW H} {ps : List MemPlace} (h : DataW.Trod enc Tryd.prog W base sp held 53 (.agg #[c0, c1]) d ps) :
    ∃ vars sl cap cl, c0 = .int .i64 vars ∧ c1 = .slice sl (List.length cl) cap ∧ InC W sl cl := by
  obtain ⟨fuel, hf⟩ := h
  obtain ⟨y0, y1, n, hx, _, f0, f1⟩ := trod_struct2 Tryd.underlying53 hf
  simp only [Value.cells, c_cells2, c_cellsB, List.drop_zero, List.take_succ_cons, List.take_zero, List.drop_succ_cons] at f0 f1
  obtain ⟨a, ha, _, _⟩ := DataW.trod_int Tryd.underlying2 f0
  obtain ⟨sl, cap, cl, h1, hi⟩ := open_rows f1
  simp at ha h1
  exact ⟨a, sl, cap, cl, ha, h1, ⟨hi.1, hi.2.1, hi.2.2⟩⟩
end
end Go.Proofs.YtcnpdjjfcfkcfaaDoor
