/-
  WHAT FOLLOWS AT ONCE: impl.listsRight, impl.UnitRun.
-/
import Derived.Test.YtnihhbfgbilimaaGreatDoorPp
import Derived.Deep.RegionWith
import Derived.Deep.RegionLaw
import Derived.Deep.DeepCutAuto
namespace Go.Proofs.YtnihhbfgbilimaaGreatDoor
open Go.RowKit
set_option linter.unusedVariables false

theorem vL_nil : vL [] = List.replicate 97 (.int .i64 0) := by
  apply List.ext_getElem?
  intro k
  by_cases hk : k < 97
  · rw [vL_at [] k hk, val_no (by simp) (by simp), List.getElem?_replicate, if_pos hk]
  · rw [List.getElem?_eq_none (by rw [vL_len]; omega), List.getElem?_eq_none (by rw [List.length_replicate]; omega)]
theorem VAt.blkA {d : Nat} {bt : TypeId} {fh : List Value} {w : World} {b : Nat} {tr : List Int} (h : VAt d bt fh w b tr) : VBlk d bt fh w b := ⟨h.1, vL tr, vL_len tr, h.2⟩
theorem TabB.belowT {w W : World} (h : TabB w) (hb : Below w.heap.size w W) : TabB W := by
  have h0 : 0 < w.heap.size := by
    have := h 0 (by decide)
    refine Nat.pos_of_ne_zero (fun e => ?_)
    have e2 : w.heap[0]? = none := Array.getElem?_eq_none (by omega)
    simp [World.cell?, e2] at this
  intro j hj
  rw [World.cell?_of_block (w := w) (hb.block 0 h0)]
  exact h j hj
theorem nodup_of_map {α β : Type} (f : α → β) : ∀ l : List α, (l.map f).Nodup → l.Nodup
  | [], _ => List.nodup_nil
  | a :: r, h => by
    rw [List.map_cons, List.nodup_cons] at h
    exact List.nodup_cons.2 ⟨fun g => h.1 (List.mem_map.2 ⟨a, g, rfl⟩), nodup_of_map f r h.2⟩
theorem cnfR_dup {vars : Int} {css : List (List Int)} (h : CnfR vars css) : ∀ l ∈ css, l.Nodup ∧ l.length ≤ 1000 := by
  intro l hl
  obtain ⟨i, hi, rfl⟩ := List.getElem_of_mem hl
  have g := h.2.2 i hi
  have e : css.getD i [] = css[i] := by simp [hi]
  rw [e] at g
  exact ⟨nodup_of_map lv _ g.2.2, by have := g.1; omega⟩
theorem SpTo.dup {vars : Int} {l : List Int} (h : SpTo vars l l.length) (hv : vars ≤ 96) : l.Nodup ∧ l.length ≤ 1000 := by
  refine ⟨List.pairwise_iff_getElem.2 (fun i j hi hj hij e => ?_), by have := h.short hv; omega⟩
  have := ((h j hj).2 i hij).1
  simp [List.getD_eq_getElem?_getD, hi, hj] at this
  exact this e

end Go.Proofs.YtnihhbfgbilimaaGreatDoor
