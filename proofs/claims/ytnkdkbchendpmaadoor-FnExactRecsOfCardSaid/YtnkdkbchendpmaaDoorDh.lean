/-
  THE LAWS' RECORDS: what their list is, and how it is kept.
-/
import Derived.Test.YtnkdkbchendpmaaDoorDg
namespace Go.Proofs.YtnkdkbchendpmaaDoor
open Go.RowKit
set_option linter.unusedVariables false

theorem info28' : (Tryd.prog.info? 28).map (fun i => (i.zero, i.size, i.bytes)) = some (some (.agg #[.int .i64 0, .slice none 0 0]), 2, 32) := by kernel_rfl

/-- A row of structs and a row of numbers lie apart. -/
theorem own_ne {w : World} {B B' : Nat} {v v' : Value} {n n' : Nat} {xs xs' : List Value} (h : w.ownsRow B 28 2 v n xs) (h' : w.ownsRow B' 2 1 v' n' xs') : v'.ownBlock = none ∨ v'.ownBlock ≠ v.ownBlock := by
  rcases h'.2 with ⟨rfl, _⟩ | ⟨g', cap', cur', rfl, _, hg', _⟩
  · exact .inl rfl
  · refine .inr fun e => ?_
    rcases h.2 with ⟨rfl, _⟩ | ⟨g, cap, cur, rfl, _, hg, _⟩
    · cases e
    · have e' : g' = g := by simpa [Value.ownBlock] using e
      rw [e', hg] at hg'
      simp at hg'

def recCells (rs : List (Int × Value × List Int)) : List Value := rs.flatMap fun r => [.int .i64 r.1, r.2.1]
theorem recCells_add (rs : List (Int × Value × List Int)) (r : Int × Value × List Int) : recCells (rs ++ [r]) = recCells rs ++ [.int .i64 r.1, r.2.1] := by simp [recCells]
/-- A list of right records, each with numbers of its own. -/
structure RecsIn (B : Nat) (w : World) (v : Value) (rs : List (Int × Value × List Int)) : Prop where
  row : w.ownsRow B 28 2 v rs.length (recCells rs)
  each : ∀ r ∈ rs, w.ownsRow B 2 1 r.2.1 r.2.2.length (valsZ r.2.2) ∧ recR r.1 r.2.2 = true
theorem RecsIn.below {B : Nat} {w w' : World} {v : Value} {rs : List (Int × Value × List Int)} (h : RecsIn B w v rs) (hb : Below w.heap.size w w') : RecsIn B w' v rs :=
  ⟨own_below h.row hb, fun r hr => ⟨own_below (h.each r hr).1 hb, (h.each r hr).2⟩⟩
theorem RecsIn.add {B : Nat} {w w' : World} {v v' : Value} {rs : List (Int × Value × List Int)} (h : RecsIn B w v rs) (k : Int) (u : Value) (zs : List Int) (hu : w.ownsRow B 2 1 u zs.length (valsZ zs)) (hr : recR k zs = true)
    (hg : w.grownBy w' v.ownBlock) (hn : w'.ownsRow B 28 2 v' (rs.length + 1) (recCells rs ++ [.int .i64 k, u])) : RecsIn B w' v' (rs ++ [(k, u, zs)]) := by
  refine ⟨by rw [recCells_add]; simpa using hn, fun r hm => ?_⟩
  rcases List.mem_append.1 hm with hm | hm
  · exact ⟨(h.each r hm).1.kept hg (own_ne h.row (h.each r hm).1), (h.each r hm).2⟩
  · simp at hm; subst hm
    exact ⟨hu.kept hg (own_ne h.row hu), hr⟩

/-- The bytes of a row, as values. -/
def newsOf (w : World) (c o n : Nat) : List Value := (List.range n).map fun i => (w.cell? ⟨c, o + i, none⟩).getD (.int .u8 0)
theorem newsOf_len (w : World) (c o n : Nat) : (newsOf w c o n).length = n := by simp [newsOf]
theorem newsOf_byte {w : World} {c o n : Nat} (h : ∀ i, i < n → ∃ z : Int, 0 ≤ z ∧ z ≤ 255 ∧ w.cell? ⟨c, o + i, none⟩ = some (.int .u8 z)) : ∀ u ∈ newsOf w c o n, ∃ z : Int, u = .int .u8 z ∧ 0 ≤ z ∧ z ≤ 255 := by
  intro u hu
  obtain ⟨i, hi, rfl⟩ := List.mem_map.1 hu
  obtain ⟨z, z1, z2, e⟩ := h i (by simpa using hi)
  exact ⟨z, by rw [e]; rfl, z1, z2⟩
theorem newsOf_cell {w : World} {c o n : Nat} (h : ∀ i, i < n → ∃ z : Int, 0 ≤ z ∧ z ≤ 255 ∧ w.cell? ⟨c, o + i, none⟩ = some (.int .u8 z)) (j : Nat) (u : Value) (hj : (newsOf w c o n)[j]? = some u) : w.cell? ((⟨c, o, none⟩ : Addr).add j) = some u := by
  have hl : j < n := by have := (List.getElem?_eq_some_iff.1 hj).1; rwa [newsOf_len] at this
  have ha : (⟨c, o, none⟩ : Addr).add j = ⟨c, o + j, none⟩ := by
    unfold Addr.add
    by_cases h : j = 0 <;> simp [h]
  obtain ⟨z, z1, z2, e⟩ := h j hl
  have : (newsOf w c o n)[j]? = some (.int .u8 z) := by simp [newsOf, hl, e]
  rw [ha, e, ← this, hj]
theorem rowIn_own {w : World} {B g n cap : Nat} {xs : List Value} (h : w.ownsRow B 5 1 (.slice (some ⟨g, 0, none⟩) n cap) n xs) (hn : n ≤ maxLen) (hx : ∀ u ∈ xs, ∃ z : Int, u = .int .u8 z ∧ 0 ≤ z ∧ z ≤ 255) : RowIn w (some ⟨g, 0, none⟩) n := by
  refine ⟨hn, fun i hi => ?_⟩
  have hc := h.cellAt i (by omega)
  have hl : i < xs.length := by have := h.1; omega
  obtain ⟨z, e, z1, z2⟩ := hx xs[i] (List.getElem_mem hl)
  refine ⟨g, 0, z, rfl, ?_, z1, z2, ?_⟩
  · exact (h.lt g rfl).2
  · rw [Nat.zero_add, hc, List.getElem?_eq_getElem hl, e]

end Go.Proofs.YtnkdkbchendpmaaDoor
