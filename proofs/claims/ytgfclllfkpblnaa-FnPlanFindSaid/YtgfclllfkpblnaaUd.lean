/-
  THE TRUES OF A PLAN: impl.TruesOf.
-/
import Derived.Test.YtgfclllfkpblnaaUc
import Derived.Test.YtgfclllfkpblnaaPx
namespace Go.Proofs.Ytgfclllfkpblnaa
open Go.RowKit
set_option linter.unusedVariables false

/-- The variables of the first k places that are in the plan. -/
noncomputable def trK (pl places : List LPl) (k : Nat) : List Int := ((List.range k).filter fun i => B (places.getD i (0, 0) ∈ pl)).map fun (i : Nat) => (i : Int) + 1
theorem trK_zero (pl places : List LPl) : trK pl places 0 = [] := rfl
theorem trK_yes (pl places : List LPl) (k : Nat) (h : B (places.getD k (0, 0) ∈ pl) = true) : trK pl places (k + 1) = trK pl places k ++ [(k : Int) + 1] := by
  have e : List.filter (fun i => B (places.getD i (0, 0) ∈ pl)) [k] = [k] := by rw [List.filter_cons_of_pos (p := fun i => B (places.getD i (0, 0) ∈ pl)) h]; rfl
  unfold trK
  rw [List.range_succ, List.filter_append, List.map_append, e]
  rfl
theorem trK_no (pl places : List LPl) (k : Nat) (h : B (places.getD k (0, 0) ∈ pl) = false) : trK pl places (k + 1) = trK pl places k := by
  have e : List.filter (fun i => B (places.getD i (0, 0) ∈ pl)) [k] = [] := by rw [List.filter_cons_of_neg (p := fun i => B (places.getD i (0, 0) ∈ pl)) (by rw [h]; exact Bool.false_ne_true)]; rfl
  unfold trK
  rw [List.range_succ, List.filter_append, List.map_append, e]
  exact List.append_nil _
theorem trK_len (pl places : List LPl) (k : Nat) : (trK pl places k).length ≤ k := by
  unfold trK
  rw [List.length_map]
  exact Nat.le_trans (List.length_filter_le _ _) (by simp)
/-- What TruesOf answers. -/
noncomputable def trA (rs : List LSt) (ps : List LPr) (top : Int) (pl : List LPl) : List Int := if planB rs ps top pl = true then trK pl (plF rs top (pidsL pl)) (plF rs top (pidsL pl)).length else []
theorem planB_ids {rs : List LSt} {ps : List LPr} {top : Int} {pl : List LPl} (h : planB rs ps top pl = true) : pl.length ≤ 400 ∧ IdsR rs ps (pidsL pl) := by
  unfold planB at h
  rw [Bool.and_eq_true] at h
  have h1 : pl.length ≤ 400 := of_decide_eq_true h.1
  refine ⟨h1, ?_⟩
  have h2 := h.2
  unfold faultA at h2
  rw [if_pos h1] at h2
  cases hb : B (IdsR rs ps (pidsL pl)) with
  | true => exact B_true hb
  | false => rw [hb] at h2; simp at h2
theorem plF_le {rs : List LSt} {ps : List LPr} (top : Int) (ids : List Int) (h : TabR rs ps) : (plF rs top ids).length ≤ 96 * ids.length := by
  induction ids with
  | nil => simp [plF]
  | cons a t ih =>
    have e : plF rs top (a :: t) = chF rs top a ++ plF rs top t := by simp [plF]
    have := dom_le rs ps a top h
    rw [e, List.length_append, List.length_cons]
    unfold chF
    rw [List.length_map]
    omega
theorem pidsA_eq {pl : List LPl} (h : pl.length ≤ 400) : pidsA pl = pidsL pl := by unfold pidsA; rw [if_pos h]


end Go.Proofs.Ytgfclllfkpblnaa
