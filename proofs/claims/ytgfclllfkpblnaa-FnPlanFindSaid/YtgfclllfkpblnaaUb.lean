/-
  ROWS PUT TOGETHER: slices.Grow of none, slices.Concat, at places.
-/
import Derived.Test.YtgfclllfkpblnaaUa
import Derived.Lib.AppendZerosOnto
import Derived.Deep.Upon
namespace Go.Proofs.Ytgfclllfkpblnaa
open Go.RowKit
set_option linter.unusedVariables false

theorem at_add (c o i : Nat) : (⟨c, o, none⟩ : Addr).add i = ⟨c, o + i, none⟩ := by
  unfold Addr.add
  by_cases h : i = 0 <;> simp [h]
theorem enCells_one (pl : List LPl) : ∀ u ∈ enCells pl, u.oneCell' = true := by
  intro u hu
  unfold enCells at hu
  obtain ⟨p, _, h⟩ := List.mem_flatMap.1 hu
  simp [encE] at h
  rcases h with rfl | rfl <;> rfl
theorem enCells_app (a b : List LPl) : enCells (a ++ b) = enCells a ++ enCells b := by simp [enCells]
theorem pl_cells {w : World} {c o : Nat} {pl : List LPl} (h : PlAt w c o pl) : ∀ (j : Nat) (u : Value), (enCells pl)[j]? = some u → w.cell? ((⟨c, o, none⟩ : Addr).add j) = some u := by
  intro j u hu
  have hl : j < pl.length * 2 := by
    rw [← enCells_len]
    exact (List.getElem?_eq_some_iff.1 hu).1
  rw [at_add]
  obtain ⟨i, rfl | rfl⟩ : ∃ i, j = i * 2 ∨ j = i * 2 + 1 := ⟨j / 2, by omega⟩
  · have hi : i < pl.length := by omega
    rw [(h.cell i hi).1, ← hu, (enCells_at pl i hi).1]
  · have hi : i < pl.length := by omega
    rw [← Nat.add_assoc, (h.cell i hi).2, ← hu, (enCells_at pl i hi).2]
theorem app_none27 (w : World) (ty : TypeId) (base : Option Addr) (n cap : Nat) (hle : n ≤ cap) (p : Option Addr) (c : Nat) :
    (Builtin.append_ #[30, 30] ty #[.slice base n cap, .slice p 0 c]).run Try.prog w = .ok (.slice base n cap) w := by
  obtain ⟨i, h1, h2, h3, h4⟩ := info_parts info34
  refine run_append_nothing w 30 30 ty 62 i Try.underlying30 h1 base n cap hle _ ?_
  cases p with
  | none => exact Src.ofNil _ Try.underlying30 c
  | some a => exact Src.ofSlice _ Try.underlying30 a 0 c [] (by simp) (fun j u h => by simp at h) (fun u h => by cases h)


/-- All places of the rows, one behind the other. -/
def flatR (rows : List LRow) : List LPl := rows.flatMap fun r => r.2
theorem flatR_step (rows : List LRow) (k : Nat) (h : k < rows.length) : flatR (rows.take (k + 1)) = flatR (rows.take k) ++ rows[k].2 := by
  unfold flatR
  rw [List.take_succ_eq_append_getElem h, List.flatMap_append]
  simp
theorem flatR_le (rows : List LRow) (k : Nat) : (flatR (rows.take k)).length ≤ (flatR rows).length := by
  have := congrArg (fun l => (flatR l).length) (List.take_append_drop k rows)
  simp only [flatR, List.flatMap_append, List.length_append] at this
  unfold flatR
  omega
theorem flatR_map {rs : List LSt} {top : Int} {ids : List Int} {rows : List LRow} (h : rows.map (fun r => r.2) = ids.map (chF rs top)) : flatR rows = plF rs top ids := by
  unfold flatR plF
  rw [List.flatMap_def, List.flatMap_def, h]


end Go.Proofs.Ytgfclllfkpblnaa
