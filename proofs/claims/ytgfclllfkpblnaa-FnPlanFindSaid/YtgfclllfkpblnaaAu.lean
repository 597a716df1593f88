/-
  THE IDS OF A TABLE, as both sides answer them.
-/
import Derived.Test.YtgfclllfkpblnaaAm
import Derived.Test.YtgfclllfkpblnaaAg
namespace Go.Proofs.Ytgfclllfkpblnaa
open Go.RowKit
set_option linter.unusedVariables false

/-- The Ids of a right table; none of another. -/
noncomputable def idsA (rs : List LSt) (ps : List LPr) : List Int := if B (TabR rs ps) = true then idsL rs else []


/-- An empty row just made. -/
theorem own_none (w : World) : (w.alloc (.cells #[] 2)).ownsRow w.heap.size 2 1 (.slice (some ⟨w.heap.size, 0, none⟩) 0 0) 0 [] :=
  ⟨rfl, .inr ⟨w.heap.size, 0, #[], rfl, Nat.le_refl _, by show (w.heap.push _)[w.heap.size]? = _; simp, Nat.le_refl _, Nat.zero_le _, rfl, rfl⟩⟩


end Go.Proofs.Ytgfclllfkpblnaa
