import Derived.Test.YtnihhbfgbilimaaGreatDoorRows
import Derived.WalkKit
import Derived.WalkSpells
import Derived.WalkLawsBesides
import Derived.Laws.EntriesVeiled
import Derived.Deep.QuietTactic
import Derived.BigQuiet
import Derived.Lib.Hide
import Derived.Laws.AppendOwn
import Derived.RangeFuncNested
import Derived.RangeFuncBound
import Derived.RangeFuncCalls
import Derived.RangeFuncLeaves
import Derived.RangeFuncBox
import Derived.Shelf.Abstract
import Derived.Shelf.RegionOpen
import Derived.OwnWalkIn
import Derived.TacticsInMore
import Derived.LoopNIn
import Derived.LoopIn
import Derived.Maps.AppendAt
import Derived.Deep.AppendLies
import Derived.WalkSmall
import Derived.OwnWalk
import Derived.Deep.RegionHeldLaw
import Derived.Lib.AppendZerosOnto
import Derived.Deep.Upon
import Derived.OpenShut
import Derived.Lib.SliceRun
import Derived.Deep.LoopGhost
import Derived.Lib.TrailingZeros
import Derived.RegionTactic
import Derived.ChangeAlike
import Derived.Deep.RegionWith
import Derived.Deep.RegionLaw
import Derived.Deep.DeepCutAuto
import Derived.Shelf.Spec.TrailingZeros
import Derived.ChangeSame
import Derived.ChangeSlices
import Derived.ChangeArms
import Derived.Deep.Strs
import Derived.Deep.Slices
import Derived.Recover
import Derived.Laws.CopyOwn
import Derived.Laws.Rows
import Derived.Laws.Tables
import Derived.Test.YtnihhbfgbilimaaGreatDoorProg
import Derived.DeepKeys4
import Derived.MapViews
import Derived.Maps.Own
import Derived.Maps.OwnOps
import Derived.Maps.OwnSet
import Derived.Maps.RangeWalk
namespace Go.Proofs.YtnihhbfgbilimaaGreatDoor
open Go.RowKit
set_option linter.unusedVariables false
abbrev EV (x : Int × Int) : Value := .agg #[.int .i64 x.1, .int .i64 x.2]
end Go.Proofs.YtnihhbfgbilimaaGreatDoor
namespace Go.Proofs.YtnihhbfgbilimaaGreatDoor
open Go.RowKit Go.Maps
set_option linter.unusedVariables false
def PAt3 (w : World) (b : Nat) (x y z : Int) : Prop := w.heap[b]? = some (.cells #[.int .i64 x, .int .i64 y, .int .i64 z] 165)
theorem PAt3.lt {w : World} {b : Nat} {x y z : Int} (h : PAt3 w b x y z) : b < w.heap.size := (Array.getElem?_eq_some_iff.1 h).1
theorem PAt3.below {w w' : World} {b : Nat} {x y z : Int} (h : PAt3 w b x y z) (hb : Below w.heap.size w w') : PAt3 w' b x y z := (hb.block b h.lt).trans h
theorem PAt3.cells {w : World} {b : Nat} {x y z : Int} (h : PAt3 w b x y z) : b < w.heap.size ∧ w.cell? ⟨b, 0, none⟩ = some (.int .i64 x) ∧ w.cell? ⟨b, 1, none⟩ = some (.int .i64 y) ∧ w.cell? ⟨b, 2, none⟩ = some (.int .i64 z) := by
 have hl := h.lt
 unfold PAt3 at h
 refine ⟨hl, ?_, ?_, ?_⟩ <;> simp [World.cell?, h]
end Go.Proofs.YtnihhbfgbilimaaGreatDoor
namespace Go.Proofs.YtnihhbfgbilimaaGreatDoor
open Go.RowKit Go.Maps
set_option linter.unusedVariables false
def encE (x : Int × Int) : List Value := [.int .i64 x.1, .int .i64 x.2]
def enCells (ks : List (Int × Int)) : List Value := ks.flatMap encE
theorem enCells_add (ks : List (Int × Int)) (x : Int × Int) : enCells (ks ++ [x]) = enCells ks ++ [.int .i64 x.1, .int .i64 x.2] := by simp [enCells, encE]
theorem enCells_at (ks : List (Int × Int)) (i : Nat) (h : i < ks.length) : (enCells ks)[i * 2]? = some (.int .i64 ks[i].1) ∧ (enCells ks)[i * 2 + 1]? = some (.int .i64 ks[i].2) := by
 induction ks generalizing i with
 | nil => simp at h
 | cons a r ih =>
  cases i with
  | zero => simp [enCells, encE]
  | succ i =>
   have := ih i (by simpa using h)
   rw [show (i + 1) * 2 = i * 2 + 2 by omega, show i * 2 + 2 + 1 = (i * 2 + 1) + 2 by omega]
   simpa [enCells, encE] using this
end Go.Proofs.YtnihhbfgbilimaaGreatDoor
