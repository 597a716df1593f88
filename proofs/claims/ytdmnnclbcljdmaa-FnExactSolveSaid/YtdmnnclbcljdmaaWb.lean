/-
  CLAUSES THAT ARE OWNED: a row of slices, each with a row of its own; grown by one, put behind others.
-/
import Derived.Test.YtdmnnclbcljdmaaQc
import Derived.Lib.AppendZerosOnto
import Derived.Deep.Upon
namespace Go.Proofs.Ytdmnnclbcljdmaa
open Go.RowKit
set_option linter.unusedVariables false

theorem at_add (c o i : Nat) : (⟨c, o, none⟩ : Addr).add i = ⟨c, o + i, none⟩ := by
  unfold Addr.add
  by_cases h : i = 0 <;> simp [h]
theorem own_kind {w : World} {B : Nat} {e : TypeId} {m : Nat} {v : Value} {n : Nat} {xs : List Value} (h : w.ownsRow B e m v n xs) {j : Nat} (hj : v.ownBlock = some j) : ∃ cur, w.heap[j]? = some (.cells cur e) := by
  rcases h.2 with ⟨rfl, _⟩ | ⟨g, cap, cur, rfl, _, hg, _⟩
  · simp [Value.ownBlock] at hj
  · simp [Value.ownBlock] at hj
    subst hj
    exact ⟨cur, hg⟩
theorem own_diff {w : World} {B B' : Nat} {e e' : TypeId} {m m' : Nat} {v v' : Value} {n n' : Nat} {xs xs' : List Value} (h : w.ownsRow B e m v n xs) (h' : w.ownsRow B' e' m' v' n' xs') (he : e ≠ e') : v.ownBlock = none ∨ v.ownBlock ≠ v'.ownBlock := by
  cases hv : v.ownBlock with
  | none => exact .inl rfl
  | some j =>
    refine .inr fun e2 => ?_
    obtain ⟨c1, h1⟩ := own_kind h hv
    obtain ⟨c2, h2⟩ := own_kind h' e2.symm
    rw [h1] at h2
    simp at h2
    exact he h2.2
theorem valsZ_add (a b : List Int) : valsZ (a ++ b) = valsZ a ++ valsZ b := by simp [valsZ]
def hdC (cs : List LCl) : List Value := cs.map fun r => r.1
theorem hdC_len (cs : List LCl) : (hdC cs).length = cs.length := by simp [hdC]
theorem hdC_add (a b : List LCl) : hdC (a ++ b) = hdC a ++ hdC b := by simp [hdC]
/-- Two rows of their own. -/
def ApartC (r s : LCl) : Prop := r.1.ownBlock = none ∨ r.1.ownBlock ≠ s.1.ownBlock
structure OwC (w : World) (B : Nat) (v : Value) (cs : List LCl) : Prop where
  row : w.ownsRow B 28 1 v cs.length (hdC cs)
  each : ∀ r ∈ cs, w.ownsRow B 2 1 r.1 r.2.length (valsZ r.2)
  diff : cs.Pairwise ApartC
theorem OwC.nil (w : World) (B : Nat) : OwC w B (.slice none 0 0) [] := ⟨⟨rfl, .inl ⟨rfl, rfl⟩⟩, (fun r h => by cases h), List.Pairwise.nil⟩
theorem OwC.below {w w' : World} {B : Nat} {v : Value} {cs : List LCl} (h : OwC w B v cs) (hb : Below w.heap.size w w') : OwC w' B v cs :=
  ⟨own_below h.row hb, fun r hr => own_below (h.each r hr) hb, h.diff⟩
theorem OwC.mono {w : World} {B B' : Nat} {v : Value} {cs : List LCl} (h : OwC w B v cs) (hB : B' ≤ B) : OwC w B' v cs :=
  ⟨own_mono h.row hB, fun r hr => own_mono (h.each r hr) hB, h.diff⟩
theorem own_len {w : World} {B : Nat} {e : TypeId} {m : Nat} {v : Value} {n : Nat} {xs : List Value} (h : w.ownsRow B e m v n xs) : n ≤ maxLen := by
  rcases h.2 with ⟨_, h0⟩ | ⟨g, cap, cur, _, _, _, h1, h2, _⟩
  · rw [h0]; exact Nat.zero_le _
  · exact Nat.le_trans h1 h2
theorem OwC.cls {w : World} {B : Nat} {v : Value} {cs : List LCl} (h : OwC w B v cs) : ∃ sl cap, v = .slice sl cs.length cap ∧ Cls w sl cs := by
  have each : ∀ r ∈ cs, ClIn w r := fun r hr => by
    obtain ⟨sl, cap, e, i⟩ := own_ints (h.each r hr)
    exact ⟨sl, cap, e, i, own_len (h.each r hr)⟩
  have hr := h.row
  rcases hr.2 with ⟨hv, h0⟩ | ⟨g, cap, cur, hv, hb, hg, _⟩
  · exact ⟨none, 0, by rw [hv, h0], .inl (List.eq_nil_of_length_eq_zero h0), each⟩
  · refine ⟨_, cap, hv, .inr ⟨g, 0, rfl, (Array.getElem?_eq_some_iff.1 hg).1, fun i hi => ?_⟩, each⟩
    subst hv
    rw [Nat.zero_add, hr.cellAt i (by omega)]
    simp [hdC, hi]
theorem OwC.v {w : World} {B : Nat} {v : Value} {cs : List LCl} (h : OwC w B v cs) : ∃ sl cap, v = .slice sl cs.length cap := own_v h.row
/-- The rows stay where only the row of slices grows. -/
theorem OwC.add {w wa w9 : World} {B : Nat} {v v9 : Value} {cs : List LCl} {r : LCl} (h : OwC w B v cs) (hb : Below w.heap.size w wa) (hr : wa.ownsRow B 2 1 r.1 r.2.length (valsZ r.2)) (hf : ∀ j, r.1.ownBlock = some j → ∀ s ∈ cs, s.1.ownBlock ≠ some j) (hg : wa.grownBy w9 v.ownBlock) (own9 : w9.ownsRow B 28 1 v9 (cs.length + 1) (hdC cs ++ [r.1])) : OwC w9 B v9 (cs ++ [r]) := by
  have ha := h.below hb
  refine ⟨by rw [List.length_append, hdC_add]; exact own9, fun s hs => ?_, ?_⟩
  · rcases List.mem_append.1 hs with hs | hs
    · exact (ha.each s hs).kept hg (own_diff (ha.each s hs) ha.row (by decide))
    · rw [List.mem_singleton.1 hs]
      exact hr.kept hg (own_diff hr ha.row (by decide))
  · refine List.pairwise_append.2 ⟨h.diff, List.pairwise_singleton _ _, fun s hs t ht => ?_⟩
    rw [List.mem_singleton.1 ht]
    cases e : r.1.ownBlock with
    | none => cases e2 : s.1.ownBlock with
      | none => exact .inl e2
      | some j => exact .inr (by rw [e, e2]; simp)
    | some j => exact .inr (by rw [e]; exact hf j e s hs)
/-- One more, its row new. -/
theorem OwC.new {w wa w9 : World} {B : Nat} {v v9 : Value} {cs : List LCl} {r : LCl} (h : OwC w B v cs) (hb : Below w.heap.size w wa) (hr : wa.ownsRow B 2 1 r.1 r.2.length (valsZ r.2)) (hf : ∀ j, r.1.ownBlock = some j → w.heap.size ≤ j) (hg : wa.grownBy w9 v.ownBlock) (own9 : w9.ownsRow B 28 1 v9 (cs.length + 1) (hdC cs ++ [r.1])) : OwC w9 B v9 (cs ++ [r]) :=
  h.add hb hr (fun j hj s hs e => by have := hf j hj; have := ((h.each s hs).lt j e).2; omega) hg own9
/-- Others put behind them; these were made later. -/
theorem OwC.join {w wa w9 : World} {B : Nat} {v v2 v9 : Value} {cs ds : List LCl} (h : OwC w B v cs) (hb : Below w.heap.size w wa) (h2 : OwC wa w.heap.size v2 ds) (hB : B ≤ w.heap.size) (hg : wa.grownBy w9 v.ownBlock) (own9 : w9.ownsRow B 28 1 v9 (cs ++ ds).length (hdC cs ++ hdC ds)) : OwC w9 B v9 (cs ++ ds) := by
  have ha := h.below hb
  refine ⟨by rw [hdC_add]; exact own9, fun s hs => ?_, ?_⟩
  · rcases List.mem_append.1 hs with hs | hs
    · exact (ha.each s hs).kept hg (own_diff (ha.each s hs) ha.row (by decide))
    · exact own_mono ((h2.each s hs).kept hg (own_diff (h2.each s hs) ha.row (by decide))) hB
  · refine List.pairwise_append.2 ⟨h.diff, h2.diff, fun s hs t ht => ?_⟩
    cases e : s.1.ownBlock with
    | none => exact .inl e
    | some j =>
      refine .inr fun e2 => ?_
      rw [e] at e2
      have := ((h.each s hs).lt j e).2
      have := ((h2.each t ht).lt j e2.symm).1
      omega
theorem cell_at_new (w : World) (a : Value) (t : TypeId) : ∀ (j : Nat) (u : Value), [a][j]? = some u → (w.alloc (.cells #[a] t)).cell? ((⟨w.heap.size, 0, none⟩ : Addr).add j) = some u := by
  intro j u h
  cases j with
  | zero => simp at h; subst h; rw [at_add]; unfold World.cell?; rw [show (w.alloc (.cells #[a] t)).heap[w.heap.size]? = some (.cells #[a] t) from new_at _ _]; rfl
  | succ j => simp at h
/-- A row of two that is written out. -/
theorem own_two (w : World) (a b : Int) : (w.alloc (.cells #[.int .i64 a, .int .i64 b] 2)).ownsRow w.heap.size 2 1 (.slice (some ⟨w.heap.size, 0, none⟩) 2 2) ([a, b] : List Int).length (valsZ [a, b]) :=
  ⟨rfl, .inr ⟨w.heap.size, 2, _, rfl, Nat.le_refl _, new_at _ _, Nat.le_refl _, by unfold maxLen; omega, rfl, rfl⟩⟩
/-- The clauses as lists. -/
theorem bareC_add (a b : List LCl) : bareC (a ++ b) = bareC a ++ bareC b := by simp [bareC]
end Go.Proofs.Ytdmnnclbcljdmaa
