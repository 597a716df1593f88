/-
  A LINE BEHIND A TABLE, AS THE MODEL READS IT, whatever line: spec.l04Line.
-/
import Derived.Test.YtdndhhkpbcpalaaDoorKl
import Derived.Test.YtdndhhkpbcpalaaDoorKm
import Derived.Test.YtdndhhkpbcpalaaDoorKn
namespace Go.Proofs.YtdndhhkpbcpalaaDoor
open Go.RowKit
set_option linter.unusedVariables false

/-- spec.l04Line. -/
theorem sl_any (C : Nat) (v1 v2 : Value) (rs : List LSt) (ps : List LPr) (s : ByteArray) (w : World) (h : OwT w C v1 v2 rs ps) (hB : C ≤ w.heap.size) (hr : rs.length ≤ 100000) (hp : ps.length ≤ 100000) (hs : s.size ≤ 20000) :
    Calls Tryd.prog 10 #[.agg #[v1, v2], .string s] w fun e w' => LinePost C v1 v2 w (lineP (bare rs) ps s.data.toList) e w' := by
  by_cases h1 : (splitL 32 s.data.toList).headD [] = staW ∧ 2 ≤ (numsM ((splitL 32 s.data.toList).drop 1)).length ∧ ps = []
  · exact sl_sta C v1 v2 rs ps s w h hB hr hp hs h1.1 h1.2.1 h1.2.2
  · by_cases h2 : ((splitL 32 s.data.toList).headD [] = samW ∨ (splitL 32 s.data.toList).headD [] = besW) ∧ (numsM ((splitL 32 s.data.toList).drop 1)).length = 2
    · rcases h2.1 with h3 | h3
      · exact sl_same C v1 v2 rs ps s w h hB hr hp hs h3 h2.2
      · exact sl_bes C v1 v2 rs ps s w h hB hr hp hs h3 h2.2
    · exact sl_no C v1 v2 rs ps s w h hB hr hp hs ⟨h1, h2⟩

end Go.Proofs.YtdndhhkpbcpalaaDoor
