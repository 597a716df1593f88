/-
  MARKS: put, drop, first.
-/
import Derived.Test.YtnihhbfgbilimaaGreatDoorVac
import Derived.Test.YtnihhbfgbilimaaGreatDoorPy
import Derived.RegionTactic
import Derived.ChangeAlike
namespace Go.Proofs.YtnihhbfgbilimaaGreatDoor
open Go.RowKit
set_option linter.unusedVariables false
set_option linter.unusedSimpArgs false

/-- Words in a block. -/
def WAt (w : World) (c : Nat) (ws : List (BitVec 64)) : Prop := w.heap[c]? = some (.cells (ws.map fun x => Value.int .u64 (x.toNat : Int)).toArray 87)
theorem WAt.lt {w : World} {c : Nat} {ws : List (BitVec 64)} (h : WAt w c ws) : c < w.heap.size := (Array.getElem?_eq_some_iff.1 h).1
theorem WAt.cell {w : World} {c : Nat} {ws : List (BitVec 64)} (h : WAt w c ws) (k : Nat) (hk : k < ws.length) : w.cell? ⟨c, k, none⟩ = some (.int .u64 ((ws.getD k 0#64).toNat : Int)) := by
  unfold WAt at h
  simp [World.cell?, h, hk, List.getD_eq_getElem?_getD]
theorem WAt.frozen {w : World} {c : Nat} {ws : List (BitVec 64)} (h : WAt w c ws) (k : Nat) : w.frozen? ⟨c, k, none⟩ = false := by
  unfold WAt at h
  simp [World.frozen?, h]
theorem WAt.set {w : World} {c : Nat} {ws : List (BitVec 64)} (h : WAt w c ws) (k : Nat) (x : BitVec 64) : WAt (w.setCell ⟨c, k, none⟩ (.int .u64 (x.toNat : Int))) c (ws.set k x) := by
  have := heap_setCell_same w c k _ 87 (.int .u64 (x.toNat : Int)) h
  rw [List.setIfInBounds_toArray, ← List.map_set] at this
  exact this

set_option maxRecDepth 100000 in
set_option maxHeartbeats 1000000 in
/-- marks.put. -/
theorem mput_any (c : Nat) (ws : List (BitVec 64)) (n : Nat) (q : Nat) (w : World) (hw : WAt w c ws) (hn : ws.length = n) (hq : q / 64 < n) (hs : q ≤ 1000000000) :
    Calls Tryz.prog 258 #[.slice (some ⟨c, 0, none⟩) n n, .int .i64 (q : Int)] w fun e w' => e = .returned (.tuple #[]) ∧ WAt w' c (putM ws q) ∧ Only c w w' := by
  have hlt := hw.lt
  have hcell := hw.cell (q / 64) (by omega)
  have hfr := hw.frozen (q / 64)
  have hb : IntKind.u64.wrap (2 ^ (q % 64)) = ((bit1 (q % 64)).toNat : Int) := by
    have := bit1_word (k := q % 64) (by omega)
    rwa [Int.one_mul] at this
  have P : Hid (WAt (w.setCell ⟨c, q / 64, none⟩ (.int .u64 ((ws.getD (q / 64) 0#64 ||| bit1 (q % 64)).toNat : Int))).drew c (putM ws q)) := hw.set (q / 64) _
  clear hw hn
  generalize ws.getD (q / 64) 0#64 = x at *
  go_enter Tryz.func258, Tryz.ntmps258
  go_region
  rw [or_word]
  go_end0
  exact ⟨rfl, P.out, ((Only.refl c w).setCell _ _).drew⟩

set_option maxRecDepth 100000 in
set_option maxHeartbeats 1000000 in
/-- marks.drop. -/
theorem mdrop_any (c : Nat) (ws : List (BitVec 64)) (n : Nat) (q : Nat) (w : World) (hw : WAt w c ws) (hn : ws.length = n) (hq : q / 64 < n) (hs : q ≤ 1000000000) :
    Calls Tryz.prog 241 #[.slice (some ⟨c, 0, none⟩) n n, .int .i64 (q : Int)] w fun e w' => e = .returned (.tuple #[]) ∧ WAt w' c (dropM ws q) ∧ Only c w w' := by
  have hlt := hw.lt
  have hcell := hw.cell (q / 64) (by omega)
  have hfr := hw.frozen (q / 64)
  have hb : IntKind.u64.wrap (2 ^ (q % 64)) = ((bit1 (q % 64)).toNat : Int) := by
    have := bit1_word (k := q % 64) (by omega)
    rwa [Int.one_mul] at this
  have P : Hid (WAt (w.setCell ⟨c, q / 64, none⟩ (.int .u64 ((ws.getD (q / 64) 0#64 &&& ~~~(bit1 (q % 64))).toNat : Int))).drew c (dropM ws q)) := hw.set (q / 64) _
  clear hw hn
  generalize ws.getD (q / 64) 0#64 = x at *
  go_enter Tryz.func241, Tryz.ntmps241
  go_region
  rw [andNot_word]
  go_end0
  exact ⟨rfl, P.out, ((Only.refl c w).setCell _ _).drew⟩

end Go.Proofs.YtnihhbfgbilimaaGreatDoor
