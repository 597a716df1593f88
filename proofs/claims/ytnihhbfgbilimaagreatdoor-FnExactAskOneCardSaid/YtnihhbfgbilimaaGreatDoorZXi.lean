import Derived.Test.YtnihhbfgbilimaaGreatDoorRows
import Derived.WalkKit
import Derived.WalkSpells
import Derived.WalkLawsBesides
import Derived.Laws.EntriesVeiled
import Derived.Deep.QuietTactic
import Derived.BigQuiet
import Derived.Lib.Hide
import Derived.Laws.AppendOwn
import Derived.RangeFuncNested
import Derived.RangeFuncBound
import Derived.RangeFuncCalls
import Derived.RangeFuncLeaves
import Derived.RangeFuncBox
import Derived.Shelf.Abstract
import Derived.Shelf.RegionOpen
import Derived.OwnWalkIn
import Derived.TacticsInMore
import Derived.LoopNIn
import Derived.LoopIn
import Derived.Maps.AppendAt
import Derived.Deep.AppendLies
import Derived.WalkSmall
import Derived.OwnWalk
import Derived.Deep.RegionHeldLaw
import Derived.Lib.AppendZerosOnto
import Derived.Deep.Upon
import Derived.OpenShut
import Derived.Lib.SliceRun
import Derived.Deep.LoopGhost
import Derived.Lib.TrailingZeros
import Derived.RegionTactic
import Derived.ChangeAlike
import Derived.Deep.RegionWith
import Derived.Deep.RegionLaw
import Derived.Deep.DeepCutAuto
import Derived.Shelf.Spec.TrailingZeros
import Derived.ChangeSame
import Derived.ChangeSlices
import Derived.ChangeArms
import Derived.Deep.Strs
import Derived.Deep.Slices
import Derived.Recover
import Derived.Laws.CopyOwn
import Derived.Laws.Rows
import Derived.Laws.Tables
import Derived.Test.YtnihhbfgbilimaaGreatDoorProg
import Derived.DeepKeys4
import Derived.MapViews
import Derived.Maps.Own
import Derived.Maps.OwnOps
import Derived.Maps.OwnSet
import Derived.Maps.RangeWalk
import Derived.Test.YtnihhbfgbilimaaGreatDoorVaa
import Derived.Deep.RegionHeld3
import Derived.Sort.OwnSorted
import Derived.Laws.StructEq
import Derived.Ground.SlsfProg
import Derived.Shelf.SlSortCmp.WholeK
import Derived.Shelf.SlSortCmp.NoneTotal
import Derived.Shelf.RegionOpenPlain
import Derived.Lib.Overlaps
import Derived.Laws.Externs
namespace Go.Proofs.YtnihhbfgbilimaaGreatDoor
open Go.RowKit
set_option linter.unusedVariables false
abbrev EV (x : Int × Int) : Value := .agg #[.int .i64 x.1, .int .i64 x.2]
end Go.Proofs.YtnihhbfgbilimaaGreatDoor
namespace Go.Proofs.YtnihhbfgbilimaaGreatDoor
open Go.RowKit Go.Maps
set_option linter.unusedVariables false
def PAt3 (w : World) (b : Nat) (x y z : Int) : Prop := w.heap[b]? = some (.cells #[.int .i64 x, .int .i64 y, .int .i64 z] 165)
theorem PAt3.lt {w : World} {b : Nat} {x y z : Int} (h : PAt3 w b x y z) : b < w.heap.size := (Array.getElem?_eq_some_iff.1 h).1
theorem PAt3.below {w w' : World} {b : Nat} {x y z : Int} (h : PAt3 w b x y z) (hb : Below w.heap.size w w') : PAt3 w' b x y z := (hb.block b h.lt).trans h
theorem PAt3.cells {w : World} {b : Nat} {x y z : Int} (h : PAt3 w b x y z) : b < w.heap.size ∧ w.cell? ⟨b, 0, none⟩ = some (.int .i64 x) ∧ w.cell? ⟨b, 1, none⟩ = some (.int .i64 y) ∧ w.cell? ⟨b, 2, none⟩ = some (.int .i64 z) := by
 have hl := h.lt
 unfold PAt3 at h
 refine ⟨hl, ?_, ?_, ?_⟩ <;> simp [World.cell?, h]
end Go.Proofs.YtnihhbfgbilimaaGreatDoor
namespace Go.Proofs.YtnihhbfgbilimaaGreatDoor
open Go.RowKit Go.Maps
set_option linter.unusedVariables false
def encE (x : Int × Int) : List Value := [.int .i64 x.1, .int .i64 x.2]
def enCells (ks : List (Int × Int)) : List Value := ks.flatMap encE
theorem enCells_add (ks : List (Int × Int)) (x : Int × Int) : enCells (ks ++ [x]) = enCells ks ++ [.int .i64 x.1, .int .i64 x.2] := by simp [enCells, encE]
theorem enCells_at (ks : List (Int × Int)) (i : Nat) (h : i < ks.length) : (enCells ks)[i * 2]? = some (.int .i64 ks[i].1) ∧ (enCells ks)[i * 2 + 1]? = some (.int .i64 ks[i].2) := by
 induction ks generalizing i with
 | nil => simp at h
 | cons a r ih =>
  cases i with
  | zero => simp [enCells, encE]
  | succ i =>
   have := ih i (by simpa using h)
   rw [show (i + 1) * 2 = i * 2 + 2 by omega, show i * 2 + 2 + 1 = (i * 2 + 1) + 2 by omega]
   simpa [enCells, encE] using this
set_option maxHeartbeats 1000000 in
theorem lh_any (sl : Option Addr) (cap : Nat) (zs : List Int) (x : Int) (w : World) (hn : zs.length ≤ maxLen) (hz : Ints w sl zs) :
  Calls Tryz.prog 87 #[.slice sl zs.length cap, .int .i64 x] w fun e w' => e = .returned (.bool (B (x ∈ zs))) ∧ w' = w := by
 unfold maxLen at hn
 have HZ := Lib.hid hz
 clear hz
 generalize hR : B (x ∈ zs) = r
 have HR := Lib.hid hR
 clear hR
 generalize hN : zs.length = n at *
 have HN := Lib.hid hN
 clear hN
 go_enter Tryz.func87, Tryz.ntmps87
 go_wp2
 go_loopw [5] (fun i wr => ∃ k : Nat, i = .int .i64 k ∧ k ≤ n ∧ Hid (NotIn zs x k) ∧ wr = w) (fun i _ => n - (intOf i).toNat)
 case atStart => exact ⟨0, rfl, Nat.zero_le _, fun i h => absurd h (Nat.not_lt_zero _), rfl⟩
 case round =>
  obtain ⟨k, rfl, hk, NI, rfl⟩ := hrel
  have hk0 : (0 : Int) ≤ (k : Int) := by omega
  by_cases h1 : k < n
  ·have h1' : (k : Int) < (n : Int) := by omega
   have hlt : k < zs.length := by rw [HN.out]; exact h1
   obtain ⟨c, o, rfl, ZI⟩ : ∃ c o, sl = some ⟨c, o, none⟩ ∧ IntsAt wr c o zs := by
    rcases HZ.out with e | h
    ·rw [e] at hlt; simp at hlt
    ·exact h
   have hc := ZI.2 k hlt
   by_cases hx : zs.getD k 0 = x
   ·have R := Lib.hid (show r = true by rw [← HR.out]; exact B_yes (by rw [← hx]; simp [hlt]))
    have hx' : (zs.getD k 0 == x) = true := beq_iff_eq.2 hx
    generalize zs.getD k 0 = z at *
    clear hlt ZI hx
    go_wp2
    go_ret
    exact ⟨by rw [R.out]; rfl, rfl⟩
   ·have hx' : (zs.getD k 0 == x) = false := beq_eq_false_iff_ne.2 hx
    have NI2 := Lib.hid (show NotIn zs x (k + 1) from fun i hi => by
     by_cases e : i = k
     ·subst e; exact hx
     ·exact NI.out i (by omega))
    generalize zs.getD k 0 = z at *
    clear hlt ZI hx NI
    go_wp2
    go_roundw
    case rel => exact ⟨k + 1, by go_num, by omega, NI2, trivial⟩
    case measure => simp [intOf]; omega
  ·have h1' : ¬ (k : Int) < (n : Int) := by omega
   have R := Lib.hid (show r = false by
    rw [← HR.out]
    refine B_no (notIn_mem ?_)
    have := NI.out
    rwa [show k = zs.length by rw [HN.out]; omega] at this)
   clear NI
   go_wp2
   go_ret
   exact ⟨by rw [R.out]; rfl, rfl⟩
end Go.Proofs.YtnihhbfgbilimaaGreatDoor
namespace Go.Proofs.YtnihhbfgbilimaaGreatDoor
open Go.RowKit Go.Maps
set_option linter.unusedVariables false
end Go.Proofs.YtnihhbfgbilimaaGreatDoor
