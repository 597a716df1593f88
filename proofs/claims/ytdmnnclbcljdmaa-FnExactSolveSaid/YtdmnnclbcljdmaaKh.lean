/-
  WHAT FOLLOWS AT ONCE: impl.UnitRun.
-/
import Derived.Test.YtdmnnclbcljdmaaKg
namespace Go.Proofs.Ytdmnnclbcljdmaa
open Go.RowKit
set_option linter.unusedVariables false

theorem own_set {w : World} {B : Nat} {e : TypeId} {m : Nat} {v : Value} {n : Nat} {xs : List Value} (h : w.ownsRow B e m v n xs) {b : Nat} (hb : v.ownBlock ≠ some b) (i : Nat) (u : Value) : (w.setCell ⟨b, i, none⟩ u).ownsRow B e m v n xs := by
  refine ⟨h.1, ?_⟩
  rcases h.2 with h | ⟨g, cap, cur, hv, hg, hh, r⟩
  · exact .inl h
  · refine .inr ⟨g, cap, cur, hv, hg, (Below.heap_setCell _ _ _ _ ?_).trans hh, r⟩
    subst hv
    intro e
    exact hb (by simp [Value.ownBlock, e])

/-- The answer's own block, as it is laid. -/
def BoxU (w : World) (b : Nat) : Prop := w.heap[b]? = some (.cells #[.slice none 0 0, .int .i64 0, .int .i64 0] 53)
theorem BoxU.facts {w : World} {b : Nat} (h : BoxU w b) : b < w.heap.size ∧ w.cell? ⟨b, 0, none⟩ = some (.slice none 0 0) ∧ w.cell? ⟨b, 1, none⟩ = some (.int .i64 0) ∧ w.cell? ⟨b, 2, none⟩ = some (.int .i64 0) ∧ w.frozen? ⟨b, 0, none⟩ = false ∧ w.frozen? ⟨b, 1, none⟩ = false ∧ w.frozen? ⟨b, 2, none⟩ = false := by
  unfold BoxU at h
  exact ⟨(Array.getElem?_eq_some_iff.1 h).1, by simp [World.cell?, h], by simp [World.cell?, h], by simp [World.cell?, h], by simp [World.frozen?, h], by simp [World.frozen?, h], by simp [World.frozen?, h]⟩
theorem BoxU.below {w w' : World} {b : Nat} (h : BoxU w b) (hb : Below w.heap.size w w') : BoxU w' b := (hb.block b h.facts.1).trans h
def set3 (w : World) (b : Nat) (v0 v1 v2 : Value) : World := ((w.setCell ⟨b, 0, none⟩ v0).setCell ⟨b, 1, none⟩ v1).setCell ⟨b, 2, none⟩ v2
theorem set3_below {W w : World} {n b : Nat} (h : Below n W w) (hb : n ≤ b) (v0 v1 v2 : Value) : Below n W (set3 w b v0 v1 v2) :=
  ((h.setCell (p := ⟨b, 0, none⟩) hb v0).setCell (p := ⟨b, 1, none⟩) hb v1).setCell (p := ⟨b, 2, none⟩) hb v2
theorem own_set3 {w : World} {B : Nat} {e : TypeId} {m : Nat} {v : Value} {n : Nat} {xs : List Value} (h : w.ownsRow B e m v n xs) {b : Nat} (hb : v.ownBlock ≠ some b) (v0 v1 v2 : Value) : (set3 w b v0 v1 v2).ownsRow B e m v n xs :=
  own_set (own_set (own_set h hb 0 v0) hb 1 v1) hb 2 v2

/-- Is it run at all? -/
def UBig (dss : List (List Int)) (ts : List Int) : Prop := 400 < dss.length ∨ 400 < ts.length
def UOk (vars : Int) (css dss : List (List Int)) (ts : List Int) : Prop := CnfR vars css ∧ MoR vars dss ∧ SpTo vars ts ts.length
noncomputable def uRun (css dss : List (List Int)) (ts : List Int) : List Int × Int := resF (css ++ dss) (97 - ts.length) ts
noncomputable def uAll (vars : Int) (css dss : List (List Int)) (ts : List Int) : List Int × Int × Int :=
  if B (UBig dss ts) = true then ([], 0, 2) else if B (UOk vars css dss ts) = true then ((uRun css dss ts).1, (uRun css dss ts).2, 0) else ([], 0, 1)
theorem uAll_big {vars : Int} {css dss : List (List Int)} {ts : List Int} (h : UBig dss ts) : uAll vars css dss ts = ([], 0, 2) := by unfold uAll; rw [B_yes h]; rfl
theorem uAll_no {vars : Int} {css dss : List (List Int)} {ts : List Int} (h : ¬ UBig dss ts) (h2 : ¬ UOk vars css dss ts) : uAll vars css dss ts = ([], 0, 1) := by unfold uAll; rw [B_no h, B_no h2]; rfl
theorem uAll_yes {vars : Int} {css dss : List (List Int)} {ts : List Int} (h : ¬ UBig dss ts) (h2 : UOk vars css dss ts) : uAll vars css dss ts = ((uRun css dss ts).1, (uRun css dss ts).2, 0) := by unfold uAll; rw [B_no h, B_yes h2]; rfl
abbrev UV (v : Value) (f c : Int) : Value := .agg #[v, .int .i64 f, .int .i64 c]
/-- What an answer is. -/
def UPost (w : World) (R : List Int × Int × Int) (e : Ending) (w' : World) : Prop := ∃ v, e = .returned (UV v R.2.1 R.2.2) ∧ w'.ownsRow w.heap.size 2 1 v R.1.length (valsZ R.1) ∧ Below w.heap.size w w'

/-- Clauses of a right Cnf have literals of its variables. -/
theorem cnfR_lits {vars : Int} {css : List (List Int)} (h : CnfR vars css) (hw : ∀ l ∈ css, ∀ z ∈ l, wfI z) : ∀ l ∈ css, ∀ z ∈ l, OkZ vars z := by
  intro l hl z hz
  obtain ⟨i, hi, rfl⟩ := List.getElem_of_mem hl
  have g := h.2.2 i hi
  have e : css.getD i [] = css[i] := by simp [hi]
  rw [e] at g
  exact (lv_in h.1.1 h.1.2 (hw _ hl z hz)).1 (g.2.1 z hz)
theorem moR_lits {vars : Int} {dss : List (List Int)} (h : MoR vars dss) : ∀ l ∈ dss, ∀ z ∈ l, OkZ vars z := by
  intro l hl z hz
  obtain ⟨i, hi, rfl⟩ := List.getElem_of_mem hz
  have := ((h l hl) i hi).1
  simpa [hi] using this

theorem resF_len (css : List (List Int)) : ∀ (n : Nat) (tr : List Int), (resF css n tr).1.length ≤ tr.length + n
  | 0, tr => Nat.le_refl _
  | n + 1, tr => by
    unfold resF
    split
    · exact Nat.le_add_right _ _
    · have := resF_len css n (tr ++ [(dueL tr 0 css).2])
      rw [List.length_append, List.length_singleton] at this
      omega
/-- Old rows stay where old blocks do. -/
theorem Ints.kept {w W : World} {sl : Option Addr} {zs : List Int} (h : Ints w sl zs) (hs : w.heap.size ≤ W.heap.size) (hk : ∀ k, k < w.heap.size → W.heap[k]? = w.heap[k]?) : Ints W sl zs := by
  rcases h with h | ⟨c, o, e, hl, hc⟩
  · exact .inl h
  · exact .inr ⟨c, o, e, by omega, fun i hi => (World.cell?_of_block (hk c hl)).trans (hc i hi)⟩
theorem ClIn.kept {w W : World} {r : LCl} (h : ClIn w r) (hs : w.heap.size ≤ W.heap.size) (hk : ∀ k, k < w.heap.size → W.heap[k]? = w.heap[k]?) : ClIn W r := by
  obtain ⟨sl, cap, e, hi, hl⟩ := h
  exact ⟨sl, cap, e, hi.kept hs hk, hl⟩
theorem cls_own {w : World} {B : Nat} {e : TypeId} {sl : Option Addr} {cap : Nat} {ls : List LCl} (h : w.ownsRow B e 1 (.slice sl ls.length cap) ls.length (hdC ls)) (he : ∀ r ∈ ls, ClIn w r) : Cls w sl ls := by
  refine ⟨?_, he⟩
  rcases h.2 with ⟨_, h0⟩ | ⟨g, cp, cur, hv, hb, hg, _⟩
  · exact .inl (List.eq_nil_of_length_eq_zero h0)
  · cases hv
    refine .inr ⟨g, 0, rfl, (Array.getElem?_eq_some_iff.1 hg).1, fun i hi => ?_⟩
    rw [Nat.zero_add, h.cellAt i (by omega)]
    simp [hdC, hi]
theorem own_kept {w W : World} {B : Nat} {e : TypeId} {m : Nat} {v : Value} {n : Nat} {xs : List Value} (h : w.ownsRow B e m v n xs) (hk : ∀ k, B ≤ k → k < w.heap.size → W.heap[k]? = w.heap[k]?) : W.ownsRow B e m v n xs := by
  refine ⟨h.1, ?_⟩
  rcases h.2 with h | ⟨g, cap, cur, hv, hg, hh, r⟩
  · exact .inl h
  · exact .inr ⟨g, cap, cur, hv, hg, (hk g hg (Array.getElem?_eq_some_iff.1 hh).1).trans hh, r⟩


end Go.Proofs.Ytdmnnclbcljdmaa
