/-
  BYTES MADE OUT OF A TEXT, AND A TEXT PUT BEHIND THEM: the model marks a converted row behind its cells; append writes on all the same.
-/
import Derived.Test.YtcnpdjjfcfkcfaaDoorBd
import Derived.Lib.ConvBytes
namespace Go.Proofs.YtcnpdjjfcfkcfaaDoor
open Go.RowKit
set_option linter.unusedVariables false

/-- Bytes that the call owns; what is frozen of their row lies behind its cells. -/
def OwB (w : World) (B : Nat) (v : Value) (l : List UInt8) : Prop :=
  ∃ g cap cur fz, v = .slice (some ⟨g, 0, none⟩) l.length cap ∧ B ≤ g ∧ w.heap[g]? = some (.cells cur 5 fz) ∧ (∀ i, i < cap → ¬ (fz.1 ≤ i ∧ i < fz.2)) ∧ l.length ≤ cap ∧ cap ≤ maxLen ∧ cur.size = cap ∧ cur.toList.take l.length = Lib.byteCells l
theorem OwB.of {w : World} {B : Nat} {v : Value} {l : List UInt8} (h : w.ownsRow B 5 1 v l.length (Lib.byteCells l)) (hv : v ≠ .slice none 0 0) : OwB w B v l := by
  rcases h.2 with ⟨e, _⟩ | ⟨g, cap, cur, e, hb, hg, h1, h2, h3, h4⟩
  · exact absurd e hv
  · exact ⟨g, cap, cur, (0, 0), e, hb, hg, fun i _ => by simp, h1, h2, by simpa using h3, by simpa using h4⟩
theorem OwB.below {w w' : World} {B : Nat} {v : Value} {l : List UInt8} (h : OwB w B v l) (hb : Below w.heap.size w w') : OwB w' B v l := by
  obtain ⟨g, cap, cur, fz, e, h1, h2, r⟩ := h
  exact ⟨g, cap, cur, fz, e, h1, (hb.block g (Array.getElem?_eq_some_iff.1 h2).1).trans h2, r⟩
theorem OwB.cells {w : World} {B g cap : Nat} {l : List UInt8} (h : OwB w B (.slice (some ⟨g, 0, none⟩) l.length cap) l) : ∀ j (hj : j < l.length), w.cell? ⟨g, j, none⟩ = some (.int .u8 (l[j].toNat : Int)) := by
  obtain ⟨g', cap', cur, fz, e, h1, h2, h3, h4, h5, h6, h7⟩ := h
  cases e
  intro j hj
  have e1 : w.cell? ⟨g, j, none⟩ = cur[j]? := by simp [World.cell?, h2]
  have e2 : (cur.toList.take l.length)[j]? = (Lib.byteCells l)[j]? := by rw [h7]
  rw [List.getElem?_take_of_lt hj] at e2
  rw [e1, ← Array.getElem?_toList, e2]
  simp [Lib.byteCells, hj]
/-- Cells written one by one into such a row. -/
theorem put_all (g o : Nat) (fz : Nat × Nat) : ∀ (ds : List Value) (i : Nat) (cur : Array Value) (w : World), w.heap[g]? = some (.cells cur 5 fz) → (∀ j, j < cur.size → ¬ (fz.1 ≤ j ∧ j < fz.2)) → o + i + ds.length ≤ cur.size → (∀ v ∈ ds, v.oneCell' = true) →
    ∃ cur' : Array Value, cur'.size = cur.size ∧ cur'.toList.take (o + i + ds.length) = cur.toList.take (o + i) ++ ds ∧ (storeCells ⟨g, o, none⟩ ds i).run Tryd.prog w = .ok () (w.setRow g cur') := by
  intro ds
  induction ds with
  | nil =>
    intro i cur w hg hz hl h1
    refine ⟨cur, rfl, by simp, ?_⟩
    rw [setRow_self w g cur 5 fz hg]
    rfl
  | cons v rest ih =>
    intro i cur w hg hz hl h1
    simp only [List.length_cons] at hl
    have hi : o + i < cur.size := by omega
    obtain ⟨c2, s2, t2, r2⟩ := ih (i + 1) (cur.setIfInBounds (o + i) v) (w.setRow g (cur.setIfInBounds (o + i) v)) (setRow_heap w g cur _ 5 fz hg) (by simpa using hz) (by simp; omega) (fun x hx => h1 x (List.mem_cons_of_mem _ hx))
    refine ⟨c2, by rw [s2]; simp, ?_, ?_⟩
    · have e : o + (i + 1) = o + i + 1 := by omega
      rw [e] at t2
      rw [List.length_cons, show o + i + (rest.length + 1) = o + i + 1 + rest.length by omega, t2]
      have e2 : (cur.setIfInBounds (o + i) v).toList.take (o + i + 1) = cur.toList.take (o + i) ++ [v] := by
        rw [Array.toList_setIfInBounds, List.take_succ_eq_append_getElem (by simp; omega), List.take_set_of_le (Nat.le_refl _)]
        simp
      rw [e2]
      simp
    · have ha : (⟨g, o, none⟩ : Addr).add i = ⟨g, o + i, none⟩ := by unfold Addr.add; split <;> simp_all
      have hc : w.cell? ⟨g, o + i, none⟩ = some cur[o + i] := by simp [World.cell?, hg, hi]
      have hf : w.frozen? ⟨g, o + i, none⟩ = false := by
        have := hz (o + i) hi
        obtain ⟨lo, hh⟩ := fz
        simp only [World.frozen?, hg]
        simpa using this
      have hs : (store ((⟨g, o, none⟩ : Addr).add i) v).run Tryd.prog w = .ok () (w.setRow g (cur.setIfInBounds (o + i) v)) := by
        rw [ha, run_store Tryd.prog w _ v _ (h1 v (List.mem_cons_self ..)), hc]
        simp [hf, setCell_eq_setRow w g (o + i) cur 5 fz v hg]
      simp only [storeCells, Sem.run_bind, hs, Result.andThen_ok, r2, setRow_setRow]
/-- A text put behind such bytes. -/
theorem appB {w : World} {B : Nat} {v : Value} {l : List UInt8} (h : OwB w B v l) (d : List UInt8) (hl : l.length + d.length ≤ 100000000) (hB : B ≤ w.heap.size) :
    ∃ v9 w9, (Builtin.append_ #[22, 9] 22 #[v, .string ⟨d.toArray⟩]).run Tryd.prog w = .ok v9 w9 ∧ OwB w9 B v9 (l ++ d) ∧ Below B w w9 := by
  obtain ⟨i0, hi, hz0, hz1, hz2⟩ := info_parts infoU8
  have hcells := h
  obtain ⟨g, cap, cur, fz, rfl, hb, hg, hfz, h1, h2, h3, h4⟩ := h
  have hds : (⟨d.toArray⟩ : ByteArray).size = d.length := by simp [ByteArray.size]
  by_cases hr : l.length + d.length ≤ cap
  · obtain ⟨c9, s9, t9, r9⟩ := put_all g l.length fz (Lib.strCells ⟨d.toArray⟩) 0 cur w hg (by rw [h3]; exact hfz) (by rw [Lib.strCells_length, hds, h3]; omega) (Lib.strCells_oneCell _)
    have hf := Lib.run_firstCells_string (P := Tryd.prog) w 1 ⟨d.toArray⟩
    refine ⟨.slice (some ⟨g, 0, none⟩) (l ++ d).length cap, w.setRow g c9, ?_, ⟨g, cap, c9, fz, rfl, hb, setRow_heap w g cur _ 5 fz hg, hfz, by rw [List.length_append]; exact hr, h2, by rw [s9, h3], ?_⟩, ⟨rfl, rfl, rfl, by simp [World.setRow], fun k hk => setRow_other w g k _ (by omega)⟩⟩
    · rw [hds] at hf
      simp [Builtin.append_, run_underlying Tryd.underlying22, run_underlying Tryd.underlying9, sizeOf, typeInfo, hi, hz1, Builtin.lenOf, hds, hr, hf, Addr.add_lit, r9]
    · rw [Lib.strCells_length, hds, Nat.add_zero] at t9
      rw [List.length_append, t9, h4, Lib.byteCells_append]
      rfl
  · have hr' := Lib.run_append_grow_string (P := Tryd.prog) w 22 9 22 5 i0 (.int .u8 0) Tryd.underlying22 Tryd.underlying9 hi hz0 ⟨g, 0, none⟩ l.length cap (Lib.byteCells l) (by rw [hz1, Lib.byteCells_length]; omega) (fun j u hu => by
      have hj : j < l.length := by
        have := (List.getElem?_eq_some_iff.1 hu).1
        rwa [Lib.byteCells_length] at this
      have := hcells.cells j hj
      rw [show (⟨g, 0, none⟩ : Addr).add j = ⟨g, j, none⟩ by unfold Addr.add; split <;> simp_all, this, ← hu]
      simp [Lib.byteCells, hj]) ⟨d.toArray⟩ (by rw [hds]; omega) (by rw [hds]; omega) (by rw [hz2, hds]; exact growslice_fits (by omega) (by omega))
    have hge := grownCap_ge w (l.length + (⟨d.toArray⟩ : ByteArray).size) cap 5
    have hcm := grownCap_le_maxLen w (l.length + (⟨d.toArray⟩ : ByteArray).size) cap 5 (by rw [hds]; unfold maxLen; omega)
    refine ⟨_, _, hr', ⟨w.heap.size, _, _, (0, 0), by rw [List.length_append, hds], hB, heap_alloc_new w.drew _, fun i _ => by simp, by rw [List.length_append]; rw [hds] at hge ⊢; exact hge, hcm, ?_, ?_⟩, ?_⟩
    · have z1 : (Value.int IntKind.u8 0).cells.size = 1 := rfl
      simp only [Array.size_append, List.size_toArray, size_zeroCells, z1, Lib.byteCells_length, Lib.strCells_length]
      omega
    · rw [Array.toList_append, Array.toList_append, List.length_append, Lib.byteCells_append]
      have e3 : (Lib.byteCells l ++ Lib.strCells ⟨d.toArray⟩).length = l.length + d.length := by rw [List.length_append, Lib.byteCells_length, Lib.strCells_length, hds]
      rw [← e3]
      exact List.take_left
    · exact ((Below.refl B w).drew.alloc (by simpa using hB) _)
end Go.Proofs.YtcnpdjjfcfkcfaaDoor
