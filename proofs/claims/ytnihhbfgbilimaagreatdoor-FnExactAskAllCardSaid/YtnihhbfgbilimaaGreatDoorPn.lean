/-
  A PURSUIT: mark, strike.
-/
import Derived.Test.YtnihhbfgbilimaaGreatDoorPm
import Derived.Deep.LoopGhost
namespace Go.Proofs.YtnihhbfgbilimaaGreatDoor
open Go.RowKit
set_option linter.unusedVariables false
set_option linter.unusedSimpArgs false

theorem box3 {W : World} {b : Nat} {v0 v1 v2 : Value} {t : TypeId} (h : W.heap[b]? = some (.cells #[v0, v1, v2] t)) : b < W.heap.size ∧ W.cell? ⟨b, 0, none⟩ = some v0 ∧ W.cell? ⟨b, 1, none⟩ = some v1 ∧ W.cell? ⟨b, 2, none⟩ = some v2 :=
  ⟨(Array.getElem?_eq_some_iff.1 h).1, by simp [World.cell?, h], by simp [World.cell?, h], by simp [World.cell?, h]⟩
theorem Only.of_below {b : Nat} {u v : World} (h : Below u.heap.size u v) : Only b u v := ⟨h.os, h.tape, h.output, h.size, fun k hk _ => h.block k hk⟩
/-- Counts in a block. -/
def LAt (w : World) (c : Nat) (L : List Int) : Prop := w.heap[c]? = some (.cells (L.map fun x => Value.int .i64 x).toArray 3)
theorem LAt.lt {w : World} {c : Nat} {L : List Int} (h : LAt w c L) : c < w.heap.size := (Array.getElem?_eq_some_iff.1 h).1
theorem LAt.cell {w : World} {c : Nat} {L : List Int} (h : LAt w c L) (k : Nat) (hk : k < L.length) : w.cell? ⟨c, k, none⟩ = some (.int .i64 (L.getD k 0)) := by
  unfold LAt at h
  simp [World.cell?, h, hk, List.getD_eq_getElem?_getD]
theorem LAt.frozen {w : World} {c : Nat} {L : List Int} (h : LAt w c L) (k : Nat) : w.frozen? ⟨c, k, none⟩ = false := by
  unfold LAt at h
  simp [World.frozen?, h]
theorem LAt.set {w : World} {c : Nat} {L : List Int} (h : LAt w c L) (k : Nat) (x : Int) : LAt (w.setCell ⟨c, k, none⟩ (.int .i64 x)) c (L.set k x) := by
  have := heap_setCell_same w c k _ 3 (.int .i64 x) h
  rw [List.setIfInBounds_toArray, ← List.map_set] at this
  exact this
theorem LAt.kept {w w' : World} {c : Nat} {L : List Int} (h : LAt w c L) (e : w'.heap[c]? = w.heap[c]?) : LAt w' c L := e.trans h
theorem WAt.kept {w w' : World} {c : Nat} {ws : List (BitVec 64)} (h : WAt w c ws) (e : w'.heap[c]? = w.heap[c]?) : WAt w' c ws := e.trans h
/-- A pursuit, as it is handed on. -/
abbrev PVl (bb lb n c m : Nat) : Value := .agg #[.pointer (some ⟨bb, 0, none⟩), .slice (some ⟨lb, 0, none⟩) n n, .slice (some ⟨c, 0, none⟩) m m]

set_option maxRecDepth 100000 in
set_option maxHeartbeats 1000000 in
/-- pursuit.mark. -/
theorem mark_any (bb lb c n m : Nat) (L : List Int) (ws : List (BitVec 64)) (p : Nat) (w : World) (hL : LAt w lb L) (hW : WAt w c ws) (hn : L.length = n) (hm : ws.length = m) (hp : p < n) (hq : p / 64 < m) (hne : lb ≠ c) (hs : p ≤ 1000000000) :
    Calls Tryz.prog 253 #[PVl bb lb n c m, .int .i64 (p : Int)] w fun e w' => e = .returned (.tuple #[]) ∧ WAt w' c (if L.getD p 0 < 2 then putM ws p else ws) ∧ Only c w w' := by
  have b0 := bA0 w (.cells #[.pointer (some ⟨bb, 0, none⟩), .slice (some ⟨lb, 0, none⟩) n n, .slice (some ⟨c, 0, none⟩) m m] 285)
  have N := new_at w (.cells #[.pointer (some ⟨bb, 0, none⟩), .slice (some ⟨lb, 0, none⟩) n n, .slice (some ⟨c, 0, none⟩) m m] 285)
  have hL' := hL.kept (b0.block lb hL.lt)
  have hW' := hW.kept (b0.block c hW.lt)
  have hcell := hL'.cell p (by omega)
  have hlt := hL'.lt
  obtain ⟨nl, n0, n1, n2⟩ := box3 N
  have O0 := Lib.hid (Only.of_below (b := c) b0)
  have PU := Lib.hid (mput_any c ws m p _ hW' hm hq hs)
  have HW := Lib.hid hW'
  clear hL hW hL' hW' N b0 hn hm
  generalize L.getD p 0 = x at *
  by_cases hx : x < 2
  · rw [if_pos hx]
    go_enter Tryz.func253, Tryz.ntmps253
    go_wp2_with fail
    refine PU.out.mono ?_
    rintro e w1 ⟨rfl, h1, o1⟩
    have H1 := Lib.hid (And.intro h1 (O0.out.trans o1))
    clear h1 o1
    go_wp2
    go_end0
    exact ⟨rfl, H1.out⟩
  · rw [if_neg hx]
    go_enter Tryz.func253, Tryz.ntmps253
    go_wp2
    go_end0
    exact ⟨rfl, HW.out, O0.out⟩

end Go.Proofs.YtnihhbfgbilimaaGreatDoor
