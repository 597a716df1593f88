/-
  THE VALUE OF A LITERAL: spec.l01Has, both LitValue, the law's walk.
  VALUES BY VARIABLE: an array of 97 numbers that stands for a trail; its methods of, put, take.
  IS A TRAIL RIGHT? Both sides.
  UNITS: which literals of a clause are not false, the first clause that is false or a unit; notFalse, passing, firstDue.
  ROWS PUT TOGETHER: slices.Grow of none, slices.Concat, at numbers.
  ROWS OF SLICES PUT TOGETHER: slices.Grow of none, slices.Concat, at []int64; impl.clausesWith.
  WHAT FOLLOWS AT ONCE, as lists; values.follow, impl.listsRight.
  WHAT FOLLOWS AT ONCE: impl.UnitRun.
  THE SOLVER, as lists: the least variable that is open, those that are true, the run of the search; what its states keep.
  THE SEARCH, as lists: a greater budget changes nothing; a Yes makes every clause true; each lemma follows from the clauses and the lemmas ahead of it, and a No ends with the empty one.
  UNITS AS THE MODEL FINDS THEM: the values of literals in a row; spec.l08Unit, spec.l08More.
-/
import Derived.Test.YtoobcodlgajieaaDoorPw
import Derived.Test.YtoobcodlgajieaaDoorKWae
import Derived.Recover
import Derived.Laws.CopyOwn
import Derived.Laws.Rows
import Derived.Laws.Tables
namespace Go.Proofs.YtoobcodlgajieaaDoor
open Go.RowKit
set_option linter.unusedVariables false


variable {fh : List Value}

variable {fh : List Value}



variable {fh : List Value}



section
variable {css : List (List Int)} {V n : Nat} {st : Int} {L : List (List Int)} {D : List Int}
end

/-- More steps find nothing else. -/
theorem solF_more (css : List (List Int)) (V : Nat) : ∀ (n m : Nat) (st : Int) (L : List (List Int)) (D : List Int), n ≤ m → (solF css V n st L D).1 ≠ 3 → solF css V m st L D = solF css V n st L D
  | 0, m, st, L, D, _, h => absurd rfl h
  | n + 1, m, st, L, D, hm, h => by
    obtain ⟨k, rfl⟩ : ∃ k, m = k + 1 := ⟨m - 1, by omega⟩
    by_cases h1 : (uRun css L D).2 = -1
    · by_cases h2 : opn (uRun css L D).1 V 1 = 0
      · rw [solF_yes (by omega) h1 h2, solF_yes (by omega) h1 h2]
      · rw [solF_push (by omega) h1 h2] at h ⊢
        rw [solF_push (n := n + 1) (by omega) h1 h2]
        exact solF_more css V n k _ _ _ (by omega) h
    · by_cases h2 : D.length = 0
      · rw [solF_no (by omega) h1 h2, solF_no (by omega) h1 h2]
      · rw [solF_pop (by omega) h1 h2] at h ⊢
        rw [solF_pop (n := n + 1) (by omega) h1 h2]
        exact solF_more css V n k _ _ _ (by omega) h
/-- It does no more steps than it has. -/
theorem solF_steps (css : List (List Int)) (V : Nat) : ∀ (n : Nat) (st : Int) (L : List (List Int)) (D : List Int), (solF css V n st L D).2.2.2 ≤ st + n
  | 0, st, L, D => by simp [solF]
  | n + 1, st, L, D => by
    unfold solF
    split
    · split
      · simp only []; omega
      · have := solF_steps css V n (st + 1) L (D ++ [(opn (uRun css L D).1 V 1 : Int)])
        omega
    · split
      · simp only []; omega
      · have := solF_steps css V n (st + 1) (L ++ [negL D]) D.dropLast
        omega

/-- Where nothing is due any more, every clause has a literal that is not false, and a lone one is true. -/
theorem due_none (tr : List Int) : ∀ (css : List (List Int)) (k : Nat), (dueL tr k css).1 = -1 → ∀ l ∈ css, unitOf tr l = none
  | [], k, _, l, hl => by cases hl
  | a :: r, k, h, l, hl => by
    unfold dueL at h
    cases hu : unitOf tr a with
    | none =>
      simp only [hu] at h
      rcases List.mem_cons.1 hl with rfl | hl
      · exact hu
      · exact due_none tr r (k + 1) h l hl
    | some z =>
      simp only [hu] at h
      omega
/-- The run ends where nothing is due. -/
theorem resF_fix {vars : Int} (css : List (List Int)) (hv : vars ≤ 96) (hw : ∀ l ∈ css, ∀ z ∈ l, OkZ vars z) : ∀ (n : Nat) (tr : List Int), SpTo vars tr tr.length → 97 ≤ tr.length + n → (dueL (resF css n tr).1 0 css).2 = 0 ∧ (resF css n tr).2 = (dueL (resF css n tr).1 0 css).1
  | 0, tr, h, hn => by have := h.short hv; omega
  | n + 1, tr, h, hn => by
    unfold resF
    by_cases hd : (dueL tr 0 css).2 = 0
    · rw [if_pos hd]; exact ⟨hd, rfl⟩
    · rw [if_neg hd]
      obtain ⟨g1, l, g2, g3⟩ := dueL_lit tr css 0 hd
      exact resF_fix css hv hw n _ (h.add (hw l g2 _ g3) (val_zero g1).1 (val_zero g1).2) (by simp; omega)
theorem opn_none (T : List Int) : ∀ (n k : Nat), 0 < k → opn T n k = 0 → ∀ v, k ≤ v → v < k + n → ¬ val T (v : Int) = 0
  | 0, k, _, _, v, h1, h2 => by omega
  | n + 1, k, hk, h, v, h1, h2 => by
    by_cases hv : val T (k : Int) = 0
    · rw [opn_yes (by omega) hv] at h; omega
    · rw [opn_no (by omega) hv] at h
      by_cases e : v = k
      · rw [e]; exact hv
      · exact opn_none T n (k + 1) (by omega) h v (by omega) (by omega)
theorem trL_mem (T : List Int) : ∀ (n : Nat) (z : Int), z ∈ trL T n ↔ (1 ≤ z ∧ z ≤ n) ∧ val T z = 1
  | 0, z => ⟨(fun h => by cases h), fun h => by omega⟩
  | n + 1, z => by
    by_cases hv : val T ((n : Int) + 1) = 1
    · rw [trL_yes hv, List.mem_append, trL_mem T n z, List.mem_singleton]
      constructor
      · rintro (⟨⟨h1, h2⟩, h3⟩ | rfl)
        · exact ⟨⟨h1, by omega⟩, h3⟩
        · exact ⟨⟨by omega, by omega⟩, hv⟩
      · rintro ⟨⟨h1, h2⟩, h3⟩
        by_cases e : z = (n : Int) + 1
        · exact .inr e
        · exact .inl ⟨⟨h1, by omega⟩, h3⟩
    · rw [trL_no hv, trL_mem T n z]
      constructor
      · rintro ⟨⟨h1, h2⟩, h3⟩
        exact ⟨⟨h1, by omega⟩, h3⟩
      · rintro ⟨⟨h1, h2⟩, h3⟩
        refine ⟨⟨h1, ?_⟩, h3⟩
        by_cases e : z = (n : Int) + 1
        · rw [e] at h3; exact absurd h3 hv
        · omega
/-- A clause is true by these trues. -/
def ClTrue (ts l : List Int) : Prop := ∃ z ∈ l, (0 < z ∧ z ∈ ts) ∨ (z < 0 ∧ -z ∉ ts)
/-- Where each variable has a value and nothing is due, every clause is true. -/
theorem run_true {V : Nat} {css : List (List Int)} {T : List Int} (hw : ∀ l ∈ css, ∀ z ∈ l, OkZ (V : Int) z) (hT : SpTo (V : Int) T T.length) (hd : (dueL T 0 css).1 = -1) (ho : opn T V 1 = 0) : ∀ l ∈ css, ClTrue (trL T V) l := by
  intro l hl
  have hu := due_none T css 0 hd l hl
  have hc := hT.consA
  have full : ∀ z ∈ l, 0 ≤ val T z → z ∈ T := fun z hz hv => by
    obtain ⟨o1, o2, o3⟩ := hw l hl z hz
    have nz : ¬ val T z = 0 := by
      by_cases hp : 0 < z
      · have := opn_none T V 1 (by omega) ho z.toNat (by omega) (by omega)
        rwa [show ((z.toNat : Nat) : Int) = z by omega] at this
      · have := opn_none T V 1 (by omega) ho (-z).toNat (by omega) (by omega)
        rw [show (((-z).toNat : Nat) : Int) = -z by omega] at this
        have e := val_minus hc z
        omega
    rcases val_cases T z with ⟨_, h⟩ | ⟨e, _⟩ | ⟨e, _⟩
    · exact h
    · omega
    · exact absurd e nz
  have : ∃ z ∈ l, z ∈ T := by
    cases hx : nfl T l with
    | nil =>
      unfold unitOf at hu
      rw [hx] at hu
      cases hu
    | cons a r =>
      have hm : a ∈ nfl T l := by rw [hx]; simp
      obtain ⟨m1, m2⟩ := List.mem_filter.1 hm
      exact ⟨a, m1, full a m1 (by simpa using m2)⟩
  obtain ⟨z, hz, hzT⟩ := this
  obtain ⟨o1, o2, o3⟩ := hw l hl z hz
  refine ⟨z, hz, ?_⟩
  by_cases hp : 0 < z
  · exact .inl ⟨hp, (trL_mem T V z).2 ⟨⟨by omega, by omega⟩, val_yes hzT⟩⟩
  · refine .inr ⟨by omega, fun hm => ?_⟩
    have h1 := ((trL_mem T V (-z)).1 hm).2
    have h2 := val_minus hc z
    rw [val_yes hzT] at h2
    omega
/-- What a Yes tells makes every clause true. -/
theorem solF_true {css : List (List Int)} {V : Nat} (hV : V ≤ 96) : ∀ (n : Nat) (st : Int) (L : List (List Int)) (D : List Int), SOk css V L D → (solF css V n st L D).1 = 1 → ∀ l ∈ css, ClTrue (solF css V n st L D).2.1 l
  | 0, st, L, D, _, h => by simp [solF] at h
  | n + 1, st, L, D, hok, h => by
    by_cases h1 : (uRun css L D).2 = -1
    · by_cases h2 : opn (uRun css L D).1 V 1 = 0
      · rw [solF_yes (by omega) h1 h2]
        have hf := resF_fix (vars := (V : Int)) (css ++ L) (by omega) hok.all (97 - D.length) D hok.ds (by have := hok.short hV; omega)
        have hsp := resF_sp (vars := (V : Int)) (css ++ L) hok.all (97 - D.length) D hok.ds
        have hd : (dueL (uRun css L D).1 0 (css ++ L)).1 = -1 := by rw [← h1]; exact hf.2.symm
        intro l hl
        exact run_true (css := css ++ L) hok.all hsp hd h2 l (List.mem_append_left _ hl)
      · rw [solF_push (by omega) h1 h2] at h ⊢
        exact solF_true hV n _ _ _ (hok.push h2) h
    · by_cases h2 : D.length = 0
      · rw [solF_no (by omega) h1 h2] at h; simp at h
      · rw [solF_pop (by omega) h1 h2] at h ⊢
        exact solF_true hV n _ _ _ hok.learn h

end Go.Proofs.YtoobcodlgajieaaDoor
