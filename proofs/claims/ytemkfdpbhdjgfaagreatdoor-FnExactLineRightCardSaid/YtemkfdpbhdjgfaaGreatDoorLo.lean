/-
  THE LAW FnExactLineRight: the program's answer, and the walk.
-/
import Derived.Test.YtemkfdpbhdjgfaaGreatDoorLn
import Derived.Test.YtemkfdpbhdjgfaaGreatDoorLl
namespace Go.Proofs.YtemkfdpbhdjgfaaGreatDoor
open Go.RowKit
set_option linter.unusedVariables false

set_option maxRecDepth 100000 in
set_option maxHeartbeats 1000000 in
/-- impl.LineRight. -/
theorem ilr_any (s : ByteArray) (a : Addr) (w : World) (hs : s.size ≤ 1048576) (hp : PowTab w) (hg : w.cell? ⟨0, 0, none⟩ = some (.iface 340 (.pointer (some a)))) (h0 : 0 < w.heap.size) :
    Calls Tryz.prog 5 #[.string s] w fun e w' => e = .returned (.bool (lineI s.data.toList)) ∧ Below w.heap.size w w' := by
  have RD := Lib.hid (rdl_any s a w hs hp hg h0)
  have HG := Lib.hid hg
  have IS := Lib.hid (fun W => is_same a W)
  have IN := Lib.hid (fun W => is_nil a W)
  generalize lineI s.data.toList = r at *
  clear hp hg
  go_enter Tryz.func5, Tryz.ntmps5
  go_wp2_with fail
  refine RD.out.mono ?_
  rintro e w1 ⟨⟨v1, v2, v3, rfl, h1, h2⟩, b1⟩
  have hc := (b1.cell (p := ⟨0, 0, none⟩) h0).trans HG.out
  have hl : 0 < w1.heap.size := Nat.lt_of_lt_of_le h0 b1.size
  have D1 := Lib.hid b1
  clear b1 RD
  cases r
  · have e3 := h2 rfl
    subst e3
    clear h1 h2
    go_wp2_with fail
    refine (IS.out _).mono ?_
    rintro e w2 ⟨rfl, rfl⟩
    go_wp2
    go_ret
    exact ⟨rfl, D1.out⟩
  · have e3 := h1 rfl
    subst e3
    clear h1 h2
    go_wp2_with fail
    refine (IN.out _).mono ?_
    rintro e w2 ⟨rfl, rfl⟩
    go_wp2
    go_ret
    exact ⟨rfl, D1.out⟩

set_option maxRecDepth 100000 in
set_option maxHeartbeats 1000000 in
theorem law3 (s : ByteArray) (a : Addr) (w : World) (hp : PowTab w) (hg : w.cell? ⟨0, 0, none⟩ = some (.iface 340 (.pointer (some a)))) (h0 : 0 < w.heap.size) :
    Calls Tryz.prog 3 #[.string s] w fun e w' => e = .returned (.bool true) ∧ Below w.heap.size w w' := by
  by_cases hs : s.size ≤ 1048576
  case neg =>
    have hs' : (1048576 : Int) < (s.size : Int) := by omega
    clear hp hg
    go_enter Tryz.func3, Tryz.ntmps3
    go_wp2
    go_ret
    exact ⟨rfl, Below.refl _ _⟩
  have hs' : ¬ (1048576 : Int) < (s.size : Int) := by omega
  have S1 := Lib.hid (slr_any s w hs)
  rw [line_same] at S1
  have I1 : Hid (∀ W, Below w.heap.size w W → Calls Tryz.prog 5 #[.string s] W fun e w' => e = .returned (.bool (lineI s.data.toList)) ∧ Below W.heap.size W w') := fun W hW => ilr_any s a W hs (hp.below hW) ((hW.cell (p := ⟨0, 0, none⟩) h0).trans hg) (Nat.lt_of_lt_of_le h0 hW.size)
  generalize lineI s.data.toList = r at *
  have hrr : (r != r) = false := by simp
  clear hp hg
  go_enter Tryz.func3, Tryz.ntmps3
  go_wp2_with fail
  refine S1.out.mono ?_
  rintro e w1 ⟨rfl, b1⟩
  have D1 := Lib.hid b1
  clear b1
  go_wp2_with fail
  refine (I1.out _ D1.out).mono ?_
  rintro e w2 ⟨rfl, b2⟩
  have D2 := Lib.hid (bT D1.out b2)
  clear b2
  go_wp2
  go_ret
  exact ⟨rfl, D2.out⟩

end Go.Proofs.YtemkfdpbhdjgfaaGreatDoor
