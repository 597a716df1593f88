/-
  WHEN A TABLE IS RIGHT: the thinking.
  ARE CLAUSES RIGHT? The model's answer.
  ARE CLAUSES RIGHT? The model's answer is the program's.
  THE VALUE OF A LITERAL: spec.l01Has, both LitValue, the law's walk.
  VALUES BY VARIABLE: an array of 97 numbers that stands for a trail; its methods of, put, take.
  IS A TRAIL RIGHT? Both sides.
  UNITS: which literals of a clause are not false, the first clause that is false or a unit; notFalse, passing, firstDue.
  ROWS PUT TOGETHER: slices.Grow of none, slices.Concat, at numbers.
  ROWS OF SLICES PUT TOGETHER: slices.Grow of none, slices.Concat, at []int64; impl.clausesWith.
-/
import Derived.Test.YtoobcodlgajieaaDoorPu
import Derived.Shelf.Spec.TrailingZeros
import Derived.ChangeSame
import Derived.ChangeSlices
import Derived.ChangeArms
import Derived.Deep.Strs
import Derived.Deep.Slices
import Derived.Recover
import Derived.Laws.CopyOwn
import Derived.Laws.Rows
import Derived.Laws.Tables
import Derived.Test.YtoobcodlgajieaaDoorProg
import Derived.DeepKeys4
import Derived.MapViews
import Derived.Maps.Own
import Derived.Maps.OwnOps
import Derived.Maps.OwnSet
import Derived.Maps.RangeWalk
import Derived.Sort.OwnSorted
import Derived.Laws.StructEq
import Derived.Deep.RegionHeld3
import Derived.Deep.CutRange
namespace Go.Proofs.YtoobcodlgajieaaDoor
open Go.RowKit
set_option linter.unusedVariables false




/-- What a literal is by a trail. -/
noncomputable def lvL (zs : List Int) (x : Int) : Int := @ite _ (x ∈ zs) (Classical.propDecidable _) 1 (@ite _ (wrap64 (-x) ∈ zs) (Classical.propDecidable _) (-1) 0)
noncomputable def litF (zs : List Int) (x : Int) : Int := if zs.length ≤ 400 then lvL zs x else 0
theorem lvL_yes {zs : List Int} {x : Int} (h : x ∈ zs) : lvL zs x = 1 := by unfold lvL; rw [if_pos h]
theorem lvL_neg {zs : List Int} {x : Int} (h : x ∉ zs) (h2 : wrap64 (-x) ∈ zs) : lvL zs x = -1 := by unfold lvL; rw [if_neg h, if_pos h2]
theorem lvL_no {zs : List Int} {x : Int} (h : x ∉ zs) (h2 : wrap64 (-x) ∉ zs) : lvL zs x = 0 := by unfold lvL; rw [if_neg h, if_neg h2]
theorem litF_long {zs : List Int} {x : Int} (h : 400 < zs.length) : litF zs x = 0 := by unfold litF; rw [if_neg (by omega)]
theorem litF_short {zs : List Int} {x : Int} (h : zs.length ≤ 400) : litF zs x = lvL zs x := by unfold litF; rw [if_pos h]

set_option maxHeartbeats 1000000 in
/-- impl.LitValue. -/
theorem ilv_any (sl : Option Addr) (cap : Nat) (zs : List Int) (x : Int) (w : World) (hn : zs.length ≤ maxLen) (hz : Ints w sl zs) :
    Calls Tryd.prog 16 #[.slice sl zs.length cap, .int .i64 x] w fun e w' => e = .returned (.int .i64 (litF zs x)) ∧ Below w.heap.size w w' := by
  unfold maxLen at hn
  by_cases hl : 400 < zs.length
  · rw [litF_long hl]
    have hl' : (400 : Int) < (zs.length : Int) := by omega
    clear hz
    generalize zs.length = n at *
    go_enter Tryd.func16, Tryd.ntmps16
    go_wp2
    go_ret
    exact ⟨rfl, Below.refl _ _⟩
  · rw [litF_short (by omega)]
    have hl' : ¬ (400 : Int) < (zs.length : Int) := by omega
    have E : Hid (∀ y W, Below w.heap.size w W → Calls Tryd.prog 57 #[.slice sl zs.length cap, .int .i64 y] W fun e w' => e = .returned (.bool (B (y ∈ zs))) ∧ Below W.heap.size W w') := fun y W hW => has_any sl cap y zs W (by omega) (hz.below hW)
    clear hz
    by_cases h1 : x ∈ zs
    · have E1 := Lib.hid (E.out x w (Below.refl _ _))
      rw [B_yes h1] at E1
      rw [lvL_yes h1]
      clear E h1
      generalize zs.length = n at *
      go_enter Tryd.func16, Tryd.ntmps16
      go_wp2_with fail
      refine E1.out.mono ?_
      rintro e w1 ⟨rfl, b1⟩
      go_wp2
      go_ret
      exact ⟨rfl, b1⟩
    · have E1 := Lib.hid (E.out x w (Below.refl _ _))
      rw [B_no h1] at E1
      have E2 := Lib.hid (E.out (wrap64 (-x)))
      by_cases h2 : wrap64 (-x) ∈ zs
      · rw [lvL_neg h1 h2]
        rw [B_yes h2] at E2
        clear E h1 h2
        generalize zs.length = n at *
        generalize hy : wrap64 (-x) = y at *
        go_enter Tryd.func16, Tryd.ntmps16
        go_wp2_with fail
        refine E1.out.mono ?_
        rintro e w1 ⟨rfl, b1⟩
        have P1 := Lib.hid b1
        clear b1
        go_wp2_with fail
        refine (E2.out _ P1.out).mono ?_
        rintro e w2 ⟨rfl, b2⟩
        have P2 := Lib.hid (bT P1.out b2)
        clear b2
        go_wp2
        go_ret
        exact ⟨rfl, P2.out⟩
      · rw [lvL_no h1 h2]
        rw [B_no h2] at E2
        clear E h1 h2
        generalize zs.length = n at *
        generalize hy : wrap64 (-x) = y at *
        go_enter Tryd.func16, Tryd.ntmps16
        go_wp2_with fail
        refine E1.out.mono ?_
        rintro e w1 ⟨rfl, b1⟩
        have P1 := Lib.hid b1
        clear b1
        go_wp2_with fail
        refine (E2.out _ P1.out).mono ?_
        rintro e w2 ⟨rfl, b2⟩
        have P2 := Lib.hid (bT P1.out b2)
        clear b2
        go_wp2
        go_ret
        exact ⟨rfl, P2.out⟩






end Go.Proofs.YtoobcodlgajieaaDoor
