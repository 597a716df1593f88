/-
  THE SOLVER, as lists: the least variable that is open, those that are true, the run of the search; what its states keep.
-/
import Derived.Test.YtdmnnclbcljdmaaKh
namespace Go.Proofs.Ytdmnnclbcljdmaa
open Go.RowKit
set_option linter.unusedVariables false

/-- The least variable from k on, of n, that has no value; 0 of none. -/
noncomputable def opn (T : List Int) : Nat → Nat → Nat
  | 0, _ => 0
  | n + 1, k => if val T (k : Int) = 0 then k else opn T n (k + 1)
theorem opn_yes {T : List Int} {n k : Nat} (hn : 0 < n) (h : val T (k : Int) = 0) : opn T n k = k := by
  obtain ⟨m, rfl⟩ : ∃ m, n = m + 1 := ⟨n - 1, by omega⟩
  rw [opn, if_pos h]
theorem opn_no {T : List Int} {n k : Nat} (hn : 0 < n) (h : ¬ val T (k : Int) = 0) : opn T n k = opn T (n - 1) (k + 1) := by
  obtain ⟨m, rfl⟩ : ∃ m, n = m + 1 := ⟨n - 1, by omega⟩
  rw [opn, if_neg h]
  rfl
theorem opn_spec (T : List Int) : ∀ (n k : Nat), ¬ opn T n k = 0 → (k ≤ opn T n k ∧ opn T n k < k + n) ∧ val T (opn T n k : Int) = 0
  | 0, k, h => absurd rfl h
  | n + 1, k, h => by
    by_cases hv : val T (k : Int) = 0
    · rw [opn_yes (by omega) hv]; exact ⟨⟨by omega, by omega⟩, hv⟩
    · rw [opn_no (by omega) hv] at h ⊢
      obtain ⟨⟨h1, h2⟩, h3⟩ := opn_spec T n (k + 1) h
      exact ⟨⟨by simp only [Nat.add_sub_cancel]; omega, by simp only [Nat.add_sub_cancel]; omega⟩, h3⟩
/-- The variables up to n that are true. -/
noncomputable def trL (T : List Int) : Nat → List Int
  | 0 => []
  | n + 1 => if val T ((n : Int) + 1) = 1 then trL T n ++ [(n : Int) + 1] else trL T n
theorem trL_yes {T : List Int} {n : Nat} (h : val T ((n : Int) + 1) = 1) : trL T (n + 1) = trL T n ++ [(n : Int) + 1] := by rw [trL, if_pos h]
theorem trL_no {T : List Int} {n : Nat} (h : ¬ val T ((n : Int) + 1) = 1) : trL T (n + 1) = trL T n := by rw [trL, if_neg h]
theorem trL_len (T : List Int) : ∀ n, (trL T n).length ≤ n
  | 0 => Nat.le_refl _
  | n + 1 => by
    have := trL_len T n
    unfold trL
    split
    · simp; omega
    · omega

theorem dueL_sign (tr : List Int) : ∀ (css : List (List Int)) (k : Nat), (dueL tr k css).1 = -1 ∨ 0 ≤ (dueL tr k css).1
  | [], k => .inl rfl
  | l :: r, k => by
    unfold dueL
    cases unitOf tr l with
    | none => exact dueL_sign tr r (k + 1)
    | some z => exact .inr (by simp only []; omega)
theorem resF_sign (css : List (List Int)) : ∀ (n : Nat) (tr : List Int), (resF css n tr).2 = -1 ∨ 0 ≤ (resF css n tr).2
  | 0, tr => .inl rfl
  | n + 1, tr => by
    unfold resF
    split
    · exact dueL_sign tr css 0
    · exact resF_sign css n _
theorem resF_ext (css : List (List Int)) : ∀ (n : Nat) (tr : List Int), ∃ fl, (resF css n tr).1 = tr ++ fl
  | 0, tr => ⟨[], by simp [resF]⟩
  | n + 1, tr => by
    unfold resF
    split
    · exact ⟨[], by simp⟩
    · obtain ⟨fl, h⟩ := resF_ext css n (tr ++ [(dueL tr 0 css).2])
      exact ⟨(dueL tr 0 css).2 :: fl, by rw [h]; simp⟩
theorem resF_sp {vars : Int} (css : List (List Int)) (hw : ∀ l ∈ css, ∀ z ∈ l, OkZ vars z) : ∀ (n : Nat) (tr : List Int), SpTo vars tr tr.length → SpTo vars (resF css n tr).1 (resF css n tr).1.length
  | 0, tr, h => h
  | n + 1, tr, h => by
    unfold resF
    by_cases hd : (dueL tr 0 css).2 = 0
    · rw [if_pos hd]; exact h
    · rw [if_neg hd]
      obtain ⟨g1, l, g2, g3⟩ := dueL_lit tr css 0 hd
      exact resF_sp css hw n _ (h.add (hw l g2 _ g3) (val_zero g1).1 (val_zero g1).2)

def negL (D : List Int) : List Int := D.map fun z => -z
theorem negL_len (D : List Int) : (negL D).length = D.length := by simp [negL]
/-- The search: its verdict, trues, lemmas and steps, from a state on, within so many steps. -/
noncomputable def solF (css : List (List Int)) (V : Nat) : Nat → Int → List (List Int) → List Int → Int × List Int × List (List Int) × Int
  | 0, st, L, _ => (3, [], L, st)
  | n + 1, st, L, D =>
    if (uRun css L D).2 = -1 then
      if opn (uRun css L D).1 V 1 = 0 then (1, trL (uRun css L D).1 V, L, st + 1) else solF css V n (st + 1) L (D ++ [(opn (uRun css L D).1 V 1 : Int)])
    else if D.length = 0 then (2, [], L ++ [negL D], st + 1) else solF css V n (st + 1) (L ++ [negL D]) D.dropLast
section
variable {css : List (List Int)} {V n : Nat} {st : Int} {L : List (List Int)} {D : List Int}
theorem solF_stop (hn : n = 0) : solF css V n st L D = (3, [], L, st) := by subst hn; rfl
theorem solF_yes (hn : 0 < n) (h : (uRun css L D).2 = -1) (h2 : opn (uRun css L D).1 V 1 = 0) : solF css V n st L D = (1, trL (uRun css L D).1 V, L, st + 1) := by
  obtain ⟨m, rfl⟩ : ∃ m, n = m + 1 := ⟨n - 1, by omega⟩
  rw [solF, if_pos h, if_pos h2]
theorem solF_push (hn : 0 < n) (h : (uRun css L D).2 = -1) (h2 : ¬ opn (uRun css L D).1 V 1 = 0) : solF css V n st L D = solF css V (n - 1) (st + 1) L (D ++ [(opn (uRun css L D).1 V 1 : Int)]) := by
  obtain ⟨m, rfl⟩ : ∃ m, n = m + 1 := ⟨n - 1, by omega⟩
  rw [solF, if_pos h, if_neg h2]
  rfl
theorem solF_no (hn : 0 < n) (h : ¬ (uRun css L D).2 = -1) (h2 : D.length = 0) : solF css V n st L D = (2, [], L ++ [negL D], st + 1) := by
  obtain ⟨m, rfl⟩ : ∃ m, n = m + 1 := ⟨n - 1, by omega⟩
  rw [solF, if_neg h, if_pos h2]
theorem solF_pop (hn : 0 < n) (h : ¬ (uRun css L D).2 = -1) (h2 : ¬ D.length = 0) : solF css V n st L D = solF css V (n - 1) (st + 1) (L ++ [negL D]) D.dropLast := by
  obtain ⟨m, rfl⟩ : ∃ m, n = m + 1 := ⟨n - 1, by omega⟩
  rw [solF, if_neg h, if_neg h2]
  rfl
end
/-- What a state keeps. -/
structure SOk (css : List (List Int)) (V : Nat) (L : List (List Int)) (D : List Int) : Prop where
  cl : ∀ l ∈ css, ∀ z ∈ l, OkZ (V : Int) z
  lm : ∀ l ∈ L, ∀ z ∈ l, OkZ (V : Int) z
  ds : SpTo (V : Int) D D.length
theorem SOk.all {css : List (List Int)} {V : Nat} {L : List (List Int)} {D : List Int} (h : SOk css V L D) : ∀ l ∈ css ++ L, ∀ z ∈ l, OkZ (V : Int) z := fun l hl => by
  rcases List.mem_append.1 hl with h1 | h1
  · exact h.cl l h1
  · exact h.lm l h1
theorem sp_ok {vars : Int} {D : List Int} (h : SpTo vars D D.length) : ∀ z ∈ D, OkZ vars z := by
  intro z hz
  obtain ⟨i, hi, rfl⟩ := List.getElem_of_mem hz
  have := (h i hi).1
  simpa [hi] using this
theorem SOk.push {css : List (List Int)} {V : Nat} {L : List (List Int)} {D : List Int} (h : SOk css V L D) (h2 : ¬ opn (uRun css L D).1 V 1 = 0) : SOk css V L (D ++ [(opn (uRun css L D).1 V 1 : Int)]) := by
  refine ⟨h.cl, h.lm, ?_⟩
  obtain ⟨⟨h3, h4⟩, h5⟩ := opn_spec _ _ _ h2
  have nz := val_zero h5
  obtain ⟨fl, hf⟩ : ∃ fl, (uRun css L D).1 = D ++ fl := resF_ext _ _ _
  generalize opn (uRun css L D).1 V 1 = z at *
  rw [hf] at nz
  exact h.ds.add ⟨by omega, by omega, by omega⟩ (fun hm => nz.1 (by simp [hm])) (fun hm => nz.2 (by simp [hm]))
theorem SOk.learn {css : List (List Int)} {V : Nat} {L : List (List Int)} {D : List Int} (h : SOk css V L D) : SOk css V (L ++ [negL D]) D.dropLast := by
  refine ⟨h.cl, fun l hl z hz => ?_, fun i hi => ?_⟩
  · rcases List.mem_append.1 hl with h1 | h1
    · exact h.lm l h1 z hz
    · rw [List.mem_singleton.1 h1] at hz
      obtain ⟨y, hy, rfl⟩ := List.mem_map.1 hz
      obtain ⟨o1, o2, o3⟩ := sp_ok h.ds y hy
      exact ⟨by omega, by omega, by omega⟩
  · have hi' : i < D.length - 1 := by simpa using hi
    have hg : ∀ j, j < D.length - 1 → D.dropLast.getD j 0 = D.getD j 0 := fun j hj => by
      have hj2 : j < D.length := by omega
      simp [hj, hj2]
    have := h.ds i (by omega)
    rw [hg i hi']
    refine ⟨this.1, fun j hj => ?_⟩
    rw [hg j (by omega), hg i hi']
    exact this.2 j hj
theorem SOk.short {css : List (List Int)} {V : Nat} {L : List (List Int)} {D : List Int} (h : SOk css V L D) (hV : V ≤ 96) : D.length ≤ 96 := h.ds.short (by omega)
end Go.Proofs.Ytdmnnclbcljdmaa
