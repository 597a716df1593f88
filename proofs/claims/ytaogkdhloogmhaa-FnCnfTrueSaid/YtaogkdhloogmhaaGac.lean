/-
  WHAT FOLLOWS AT ONCE, as lists; values.follow, impl.listsRight.
  WHAT FOLLOWS AT ONCE: impl.UnitRun.
  THE SOLVER, as lists: the least variable that is open, those that are true, the run of the search; what its states keep.
  UNITS AS THE MODEL FINDS THEM: the values of literals in a row; spec.l08Unit, spec.l08More.
  WHAT FOLLOWS AT ONCE, as the model runs it: spec.l08Run.
  THE SOLVER'S STATE, and what turns it: push, pop, spend, conflict, learn, told.
  THE SEARCH: solver.run.
-/
import Derived.Test.YtaogkdhloogmhaaHao
import Derived.Test.YtaogkdhloogmhaaHai
import Derived.Test.YtaogkdhloogmhaaHam
import Derived.Test.YtaogkdhloogmhaaHaf
import Derived.Test.YtaogkdhloogmhaaHaj
import Derived.Test.YtaogkdhloogmhaaHah
import Derived.Test.YtaogkdhloogmhaaHae
import Derived.Test.YtaogkdhloogmhaaHab
import Derived.Test.YtaogkdhloogmhaaHaa
import Derived.Test.YtaogkdhloogmhaaGab
import Derived.RegionTactic
import Derived.ChangeAlike
import Derived.Deep.RegionWith
import Derived.Deep.LoopGhost
namespace Go.Proofs.Ytaogkdhloogmhaa
open Go.RowKit
set_option linter.unusedVariables false
variable {fh : List Value}

/-- The run, within so many rounds. -/
noncomputable def resF (css : List (List Int)) : Nat → List Int → List Int × Int
  | 0, tr => (tr, -1)
  | n + 1, tr => if (dueL tr 0 css).2 = 0 then (tr, (dueL tr 0 css).1) else resF css n (tr ++ [(dueL tr 0 css).2])
theorem resF_end (css : List (List Int)) (n : Nat) (tr : List Int) (hn : 0 < n) (h : (dueL tr 0 css).2 = 0) : resF css n tr = (tr, (dueL tr 0 css).1) := by
  obtain ⟨m, rfl⟩ : ∃ m, n = m + 1 := ⟨n - 1, by omega⟩
  rw [resF, if_pos h]
theorem resF_step (css : List (List Int)) (n : Nat) (tr : List Int) (hn : 0 < n) (h : ¬ (dueL tr 0 css).2 = 0) : resF css n tr = resF css (n - 1) (tr ++ [(dueL tr 0 css).2]) := by
  obtain ⟨m, rfl⟩ : ∃ m, n = m + 1 := ⟨n - 1, by omega⟩
  rw [resF, if_neg h]
  rfl
/-- A unit's literal has no value, and stands in a clause. -/
theorem dueL_lit (tr : List Int) : ∀ (css : List (List Int)) (k : Nat), ¬ (dueL tr k css).2 = 0 → val tr (dueL tr k css).2 = 0 ∧ ∃ l ∈ css, (dueL tr k css).2 ∈ l
  | [], k, h => absurd rfl h
  | l :: r, k, h => by
    unfold dueL at h ⊢
    cases hu : unitOf tr l with
    | none =>
      simp only [hu] at h ⊢
      obtain ⟨h1, l', h2, h3⟩ := dueL_lit tr r (k + 1) h
      exact ⟨h1, l', List.mem_cons_of_mem _ h2, h3⟩
    | some z =>
      simp only [hu] at h ⊢
      unfold unitOf at hu
      match hx : nfl tr l with
      | [] => rw [hx] at hu; simp at hu; exact absurd hu.symm h
      | [a] =>
        rw [hx] at hu
        simp only at hu
        by_cases ha : val tr a = 0
        · rw [if_pos ha] at hu
          have e : a = z := by simpa using hu
          subst e
          have hm : a ∈ nfl tr l := by rw [hx]; simp
          exact ⟨ha, l, by simp, (List.mem_filter.1 hm).1⟩
        · rw [if_neg ha] at hu; simp at hu
      | a :: c :: s => rw [hx] at hu; simp at hu
theorem val_zero {tr : List Int} {z : Int} (h : val tr z = 0) : z ∉ tr ∧ -z ∉ tr := by
  rcases val_cases tr z with ⟨e, _⟩ | ⟨e, _⟩ | ⟨_, h1⟩
  · omega
  · omega
  · exact h1
theorem SpTo.add {vars : Int} {tr : List Int} {z : Int} (h : SpTo vars tr tr.length) (ho : OkZ vars z) (h1 : z ∉ tr) (h2 : -z ∉ tr) : SpTo vars (tr ++ [z]) (tr ++ [z]).length := by
  have hg : ∀ i, i < tr.length → (tr ++ [z]).getD i 0 = tr.getD i 0 := fun i hi => by simp [List.getElem?_append_left hi]
  have hz : (tr ++ [z]).getD tr.length 0 = z := by simp
  intro i hi
  simp only [List.length_append, List.length_singleton] at hi
  by_cases e : i = tr.length
  · subst e
    rw [hz]
    refine ⟨ho, fun j hj => ?_⟩
    rw [hg j hj, hz]
    refine ⟨fun e => h1 ?_, fun e => h2 ?_⟩
    · rw [← e]; simp [hj]
    · rw [← e]; simp [hj]
  · rw [hg i (by omega)]
    refine ⟨(h i (by omega)).1, fun j hj => ?_⟩
    rw [hg j (by omega), hg i (by omega)]
    exact (h i (by omega)).2 j hj
end Go.Proofs.Ytaogkdhloogmhaa
namespace Go.Proofs.Ytaogkdhloogmhaa
open Go.RowKit
set_option linter.unusedVariables false

/-- The answer's own block, as it is laid. -/
def BoxU (w : World) (b : Nat) : Prop := w.heap[b]? = some (.cells #[.slice none 0 0, .int .i64 0, .int .i64 0] 81)
theorem BoxU.facts {w : World} {b : Nat} (h : BoxU w b) : b < w.heap.size ∧ w.cell? ⟨b, 0, none⟩ = some (.slice none 0 0) ∧ w.cell? ⟨b, 1, none⟩ = some (.int .i64 0) ∧ w.cell? ⟨b, 2, none⟩ = some (.int .i64 0) ∧ w.frozen? ⟨b, 0, none⟩ = false ∧ w.frozen? ⟨b, 1, none⟩ = false ∧ w.frozen? ⟨b, 2, none⟩ = false := by
  unfold BoxU at h
  exact ⟨(Array.getElem?_eq_some_iff.1 h).1, by simp [World.cell?, h], by simp [World.cell?, h], by simp [World.cell?, h], by simp [World.frozen?, h], by simp [World.frozen?, h], by simp [World.frozen?, h]⟩
theorem BoxU.below {w w' : World} {b : Nat} (h : BoxU w b) (hb : Below w.heap.size w w') : BoxU w' b := (hb.block b h.facts.1).trans h
def set3 (w : World) (b : Nat) (v0 v1 v2 : Value) : World := ((w.setCell ⟨b, 0, none⟩ v0).setCell ⟨b, 1, none⟩ v1).setCell ⟨b, 2, none⟩ v2
theorem set3_below {W w : World} {n b : Nat} (h : Below n W w) (hb : n ≤ b) (v0 v1 v2 : Value) : Below n W (set3 w b v0 v1 v2) :=
  ((h.setCell (p := ⟨b, 0, none⟩) hb v0).setCell (p := ⟨b, 1, none⟩) hb v1).setCell (p := ⟨b, 2, none⟩) hb v2
theorem own_set3 {w : World} {B : Nat} {e : TypeId} {m : Nat} {v : Value} {n : Nat} {xs : List Value} (h : w.ownsRow B e m v n xs) {b : Nat} (hb : v.ownBlock ≠ some b) (v0 v1 v2 : Value) : (set3 w b v0 v1 v2).ownsRow B e m v n xs :=
  own_set (own_set (own_set h hb 0 v0) hb 1 v1) hb 2 v2

noncomputable def uRun (css dss : List (List Int)) (ts : List Int) : List Int × Int := resF (css ++ dss) (97 - ts.length) ts
abbrev UV (v : Value) (f c : Int) : Value := .agg #[v, .int .i64 f, .int .i64 c]
/-- What an answer is. -/
def UPost (w : World) (R : List Int × Int × Int) (e : Ending) (w' : World) : Prop := ∃ v, e = .returned (UV v R.2.1 R.2.2) ∧ w'.ownsRow w.heap.size 2 1 v R.1.length (valsZ R.1) ∧ Below w.heap.size w w'

/-- Clauses of a right Cnf have literals of its variables. -/
theorem cnfR_lits {vars : Int} {css : List (List Int)} (h : CnfR vars css) (hw : ∀ l ∈ css, ∀ z ∈ l, wfI z) : ∀ l ∈ css, ∀ z ∈ l, OkZ vars z := by
  intro l hl z hz
  obtain ⟨i, hi, rfl⟩ := List.getElem_of_mem hl
  have g := h.2.2 i hi
  have e : css.getD i [] = css[i] := by simp [hi]
  rw [e] at g
  exact (lv_in h.1.1 h.1.2 (hw _ hl z hz)).1 (g.2.1 z hz)
/-- Old rows stay where old blocks do. -/
theorem Ints.kept {w W : World} {sl : Option Addr} {zs : List Int} (h : Ints w sl zs) (hs : w.heap.size ≤ W.heap.size) (hk : ∀ k, k < w.heap.size → W.heap[k]? = w.heap[k]?) : Ints W sl zs := by
  rcases h with h | ⟨c, o, e, hl, hc⟩
  · exact .inl h
  · exact .inr ⟨c, o, e, by omega, fun i hi => (World.cell?_of_block (hk c hl)).trans (hc i hi)⟩
theorem ClIn.kept {w W : World} {r : LCl} (h : ClIn w r) (hs : w.heap.size ≤ W.heap.size) (hk : ∀ k, k < w.heap.size → W.heap[k]? = w.heap[k]?) : ClIn W r := by
  obtain ⟨sl, cap, e, hi, hl⟩ := h
  exact ⟨sl, cap, e, hi.kept hs hk, hl⟩
theorem cls_own {w : World} {B : Nat} {e : TypeId} {sl : Option Addr} {cap : Nat} {ls : List LCl} (h : w.ownsRow B e 1 (.slice sl ls.length cap) ls.length (hdC ls)) (he : ∀ r ∈ ls, ClIn w r) : Cls w sl ls := by
  refine ⟨?_, he⟩
  rcases h.2 with ⟨_, h0⟩ | ⟨g, cp, cur, hv, hb, hg, _⟩
  · exact .inl (List.eq_nil_of_length_eq_zero h0)
  · cases hv
    refine .inr ⟨g, 0, rfl, (Array.getElem?_eq_some_iff.1 hg).1, fun i hi => ?_⟩
    rw [Nat.zero_add, h.cellAt i (by omega)]
    simp [hdC, hi]
theorem own_kept {w W : World} {B : Nat} {e : TypeId} {m : Nat} {v : Value} {n : Nat} {xs : List Value} (h : w.ownsRow B e m v n xs) (hk : ∀ k, B ≤ k → k < w.heap.size → W.heap[k]? = w.heap[k]?) : W.ownsRow B e m v n xs := by
  refine ⟨h.1, ?_⟩
  rcases h.2 with h | ⟨g, cap, cur, hv, hg, hh, r⟩
  · exact .inl h
  · exact .inr ⟨g, cap, cur, hv, hg, (hk g hg (Array.getElem?_eq_some_iff.1 hh).1).trans hh, r⟩


end Go.Proofs.Ytaogkdhloogmhaa
namespace Go.Proofs.Ytaogkdhloogmhaa
open Go.RowKit
set_option linter.unusedVariables false

/-- The least variable from k on, of n, that has no value; 0 of none. -/
noncomputable def opn (T : List Int) : Nat → Nat → Nat
  | 0, _ => 0
  | n + 1, k => if val T (k : Int) = 0 then k else opn T n (k + 1)
theorem opn_yes {T : List Int} {n k : Nat} (hn : 0 < n) (h : val T (k : Int) = 0) : opn T n k = k := by
  obtain ⟨m, rfl⟩ : ∃ m, n = m + 1 := ⟨n - 1, by omega⟩
  rw [opn, if_pos h]
theorem opn_no {T : List Int} {n k : Nat} (hn : 0 < n) (h : ¬ val T (k : Int) = 0) : opn T n k = opn T (n - 1) (k + 1) := by
  obtain ⟨m, rfl⟩ : ∃ m, n = m + 1 := ⟨n - 1, by omega⟩
  rw [opn, if_neg h]
  rfl
theorem opn_spec (T : List Int) : ∀ (n k : Nat), ¬ opn T n k = 0 → (k ≤ opn T n k ∧ opn T n k < k + n) ∧ val T (opn T n k : Int) = 0
  | 0, k, h => absurd rfl h
  | n + 1, k, h => by
    by_cases hv : val T (k : Int) = 0
    · rw [opn_yes (by omega) hv]; exact ⟨⟨by omega, by omega⟩, hv⟩
    · rw [opn_no (by omega) hv] at h ⊢
      obtain ⟨⟨h1, h2⟩, h3⟩ := opn_spec T n (k + 1) h
      exact ⟨⟨by simp only [Nat.add_sub_cancel]; omega, by simp only [Nat.add_sub_cancel]; omega⟩, h3⟩
/-- The variables up to n that are true. -/
noncomputable def trL (T : List Int) : Nat → List Int
  | 0 => []
  | n + 1 => if val T ((n : Int) + 1) = 1 then trL T n ++ [(n : Int) + 1] else trL T n
theorem trL_yes {T : List Int} {n : Nat} (h : val T ((n : Int) + 1) = 1) : trL T (n + 1) = trL T n ++ [(n : Int) + 1] := by rw [trL, if_pos h]
theorem trL_no {T : List Int} {n : Nat} (h : ¬ val T ((n : Int) + 1) = 1) : trL T (n + 1) = trL T n := by rw [trL, if_neg h]
theorem trL_len (T : List Int) : ∀ n, (trL T n).length ≤ n
  | 0 => Nat.le_refl _
  | n + 1 => by
    have := trL_len T n
    unfold trL
    split
    · simp; omega
    · omega

theorem dueL_sign (tr : List Int) : ∀ (css : List (List Int)) (k : Nat), (dueL tr k css).1 = -1 ∨ 0 ≤ (dueL tr k css).1
  | [], k => .inl rfl
  | l :: r, k => by
    unfold dueL
    cases unitOf tr l with
    | none => exact dueL_sign tr r (k + 1)
    | some z => exact .inr (by simp only []; omega)
theorem resF_sign (css : List (List Int)) : ∀ (n : Nat) (tr : List Int), (resF css n tr).2 = -1 ∨ 0 ≤ (resF css n tr).2
  | 0, tr => .inl rfl
  | n + 1, tr => by
    unfold resF
    split
    · exact dueL_sign tr css 0
    · exact resF_sign css n _
theorem resF_ext (css : List (List Int)) : ∀ (n : Nat) (tr : List Int), ∃ fl, (resF css n tr).1 = tr ++ fl
  | 0, tr => ⟨[], by simp [resF]⟩
  | n + 1, tr => by
    unfold resF
    split
    · exact ⟨[], by simp⟩
    · obtain ⟨fl, h⟩ := resF_ext css n (tr ++ [(dueL tr 0 css).2])
      exact ⟨(dueL tr 0 css).2 :: fl, by rw [h]; simp⟩
theorem resF_sp {vars : Int} (css : List (List Int)) (hw : ∀ l ∈ css, ∀ z ∈ l, OkZ vars z) : ∀ (n : Nat) (tr : List Int), SpTo vars tr tr.length → SpTo vars (resF css n tr).1 (resF css n tr).1.length
  | 0, tr, h => h
  | n + 1, tr, h => by
    unfold resF
    by_cases hd : (dueL tr 0 css).2 = 0
    · rw [if_pos hd]; exact h
    · rw [if_neg hd]
      obtain ⟨g1, l, g2, g3⟩ := dueL_lit tr css 0 hd
      exact resF_sp css hw n _ (h.add (hw l g2 _ g3) (val_zero g1).1 (val_zero g1).2)

def negL (D : List Int) : List Int := D.map fun z => -z
theorem negL_len (D : List Int) : (negL D).length = D.length := by simp [negL]
/-- The search: its verdict, trues, lemmas and steps, from a state on, within so many steps. -/
noncomputable def solF (css : List (List Int)) (V : Nat) : Nat → Int → List (List Int) → List Int → Int × List Int × List (List Int) × Int
  | 0, st, L, _ => (3, [], L, st)
  | n + 1, st, L, D =>
    if (uRun css L D).2 = -1 then
      if opn (uRun css L D).1 V 1 = 0 then (1, trL (uRun css L D).1 V, L, st + 1) else solF css V n (st + 1) L (D ++ [(opn (uRun css L D).1 V 1 : Int)])
    else if D.length = 0 then (2, [], L ++ [negL D], st + 1) else solF css V n (st + 1) (L ++ [negL D]) D.dropLast
section
variable {css : List (List Int)} {V n : Nat} {st : Int} {L : List (List Int)} {D : List Int}
theorem solF_stop (hn : n = 0) : solF css V n st L D = (3, [], L, st) := by subst hn; rfl
theorem solF_yes (hn : 0 < n) (h : (uRun css L D).2 = -1) (h2 : opn (uRun css L D).1 V 1 = 0) : solF css V n st L D = (1, trL (uRun css L D).1 V, L, st + 1) := by
  obtain ⟨m, rfl⟩ : ∃ m, n = m + 1 := ⟨n - 1, by omega⟩
  rw [solF, if_pos h, if_pos h2]
theorem solF_push (hn : 0 < n) (h : (uRun css L D).2 = -1) (h2 : ¬ opn (uRun css L D).1 V 1 = 0) : solF css V n st L D = solF css V (n - 1) (st + 1) L (D ++ [(opn (uRun css L D).1 V 1 : Int)]) := by
  obtain ⟨m, rfl⟩ : ∃ m, n = m + 1 := ⟨n - 1, by omega⟩
  rw [solF, if_pos h, if_neg h2]
  rfl
theorem solF_no (hn : 0 < n) (h : ¬ (uRun css L D).2 = -1) (h2 : D.length = 0) : solF css V n st L D = (2, [], L ++ [negL D], st + 1) := by
  obtain ⟨m, rfl⟩ : ∃ m, n = m + 1 := ⟨n - 1, by omega⟩
  rw [solF, if_neg h, if_pos h2]
theorem solF_pop (hn : 0 < n) (h : ¬ (uRun css L D).2 = -1) (h2 : ¬ D.length = 0) : solF css V n st L D = solF css V (n - 1) (st + 1) (L ++ [negL D]) D.dropLast := by
  obtain ⟨m, rfl⟩ : ∃ m, n = m + 1 := ⟨n - 1, by omega⟩
  rw [solF, if_neg h, if_neg h2]
  rfl
end
/-- What a state keeps. -/
structure SOk (css : List (List Int)) (V : Nat) (L : List (List Int)) (D : List Int) : Prop where
  cl : ∀ l ∈ css, ∀ z ∈ l, OkZ (V : Int) z
  lm : ∀ l ∈ L, ∀ z ∈ l, OkZ (V : Int) z
  ds : SpTo (V : Int) D D.length
theorem SOk.all {css : List (List Int)} {V : Nat} {L : List (List Int)} {D : List Int} (h : SOk css V L D) : ∀ l ∈ css ++ L, ∀ z ∈ l, OkZ (V : Int) z := fun l hl => by
  rcases List.mem_append.1 hl with h1 | h1
  · exact h.cl l h1
  · exact h.lm l h1
theorem sp_ok {vars : Int} {D : List Int} (h : SpTo vars D D.length) : ∀ z ∈ D, OkZ vars z := by
  intro z hz
  obtain ⟨i, hi, rfl⟩ := List.getElem_of_mem hz
  have := (h i hi).1
  simpa [hi] using this
theorem SOk.push {css : List (List Int)} {V : Nat} {L : List (List Int)} {D : List Int} (h : SOk css V L D) (h2 : ¬ opn (uRun css L D).1 V 1 = 0) : SOk css V L (D ++ [(opn (uRun css L D).1 V 1 : Int)]) := by
  refine ⟨h.cl, h.lm, ?_⟩
  obtain ⟨⟨h3, h4⟩, h5⟩ := opn_spec _ _ _ h2
  have nz := val_zero h5
  obtain ⟨fl, hf⟩ : ∃ fl, (uRun css L D).1 = D ++ fl := resF_ext _ _ _
  generalize opn (uRun css L D).1 V 1 = z at *
  rw [hf] at nz
  exact h.ds.add ⟨by omega, by omega, by omega⟩ (fun hm => nz.1 (by simp [hm])) (fun hm => nz.2 (by simp [hm]))
theorem SOk.learn {css : List (List Int)} {V : Nat} {L : List (List Int)} {D : List Int} (h : SOk css V L D) : SOk css V (L ++ [negL D]) D.dropLast := by
  refine ⟨h.cl, fun l hl z hz => ?_, fun i hi => ?_⟩
  · rcases List.mem_append.1 hl with h1 | h1
    · exact h.lm l h1 z hz
    · rw [List.mem_singleton.1 h1] at hz
      obtain ⟨y, hy, rfl⟩ := List.mem_map.1 hz
      obtain ⟨o1, o2, o3⟩ := sp_ok h.ds y hy
      exact ⟨by omega, by omega, by omega⟩
  · have hi' : i < D.length - 1 := by simpa using hi
    have hg : ∀ j, j < D.length - 1 → D.dropLast.getD j 0 = D.getD j 0 := fun j hj => by
      have hj2 : j < D.length := by omega
      simp [hj, hj2]
    have := h.ds i (by omega)
    rw [hg i hi']
    refine ⟨this.1, fun j hj => ?_⟩
    rw [hg j (by omega), hg i hi']
    exact this.2 j hj
theorem SOk.short {css : List (List Int)} {V : Nat} {L : List (List Int)} {D : List Int} (h : SOk css V L D) (hV : V ≤ 96) : D.length ≤ 96 := h.ds.short (by omega)
end Go.Proofs.Ytaogkdhloogmhaa
namespace Go.Proofs.Ytaogkdhloogmhaa
open Go.RowKit
set_option linter.unusedVariables false

/-- The values of the literals from -V to V. -/
noncomputable def sArr (V : Nat) (tr : List Int) : Array Value := ((List.range (2 * V + 1)).map fun k : Nat => Value.int .i64 (val tr ((k : Int) - (V : Int)))).toArray
def SVAt (w : World) (b V : Nat) (tr : List Int) : Prop := w.heap[b]? = some (.cells (sArr V tr) 2)
theorem sArr_at (V : Nat) (tr : List Int) (k : Nat) (h : k < 2 * V + 1) : (sArr V tr)[k]? = some (.int .i64 (val tr ((k : Int) - (V : Int)))) := by simp [sArr, h]
theorem SVAt.lt {w : World} {b V : Nat} {tr : List Int} (h : SVAt w b V tr) : b < w.heap.size := (Array.getElem?_eq_some_iff.1 h).1
theorem SVAt.cell {w : World} {b V : Nat} {tr : List Int} (h : SVAt w b V tr) (k : Nat) (hk : k < 2 * V + 1) : w.cell? ⟨b, k, none⟩ = some (.int .i64 (val tr ((k : Int) - (V : Int)))) := by
  have : w.cell? ⟨b, k, none⟩ = (sArr V tr)[k]? := by unfold SVAt at h; simp [World.cell?, h]
  rw [this, sArr_at V tr k hk]
theorem SVAt.frozen {w : World} {b V : Nat} {tr : List Int} (h : SVAt w b V tr) (k : Nat) : w.frozen? ⟨b, k, none⟩ = false := by unfold SVAt at h; simp [World.frozen?, h]
theorem SVAt.below {w w' : World} {b V : Nat} {tr : List Int} (h : SVAt w b V tr) (hb : Below w.heap.size w w') : SVAt w' b V tr := (hb.block b h.lt).trans h
theorem sArr_put (V : Nat) (tr : List Int) (z : Int) (i j : Nat) (hi : (i : Int) = z + V) (hj : (j : Int) = (V : Int) - z) (h1 : z ∉ tr) (h2 : -z ∉ tr) (h0 : z ≠ 0) : ((sArr V tr).setIfInBounds i (.int .i64 1)).setIfInBounds j (.int .i64 (-1)) = sArr V (tr ++ [z]) := by
  apply Array.ext
  · simp [sArr]
  · intro k a1 a2
    simp only [Array.size_setIfInBounds] at a1
    rw [Array.getElem_setIfInBounds (by simpa using a1)]
    have hs : (sArr V (tr ++ [z]))[k] = .int .i64 (val (tr ++ [z]) ((k : Int) - (V : Int))) := by simp [sArr]
    rw [hs]
    by_cases hjk : j = k
    · subst hjk
      rw [if_pos rfl, show ((j : Int) - (V : Int)) = -z by omega, val_neg (by simp; exact ⟨h2, by omega⟩) (by simp)]
    · rw [if_neg hjk, Array.getElem_setIfInBounds (by simpa using a1)]
      by_cases hik : i = k
      · subst hik
        rw [if_pos rfl, show ((i : Int) - (V : Int)) = z by omega, val_yes (by simp)]
      · rw [if_neg hik]
        have ht : (sArr V tr)[k]'(by simpa using a1) = .int .i64 (val tr ((k : Int) - (V : Int))) := by simp [sArr]
        rw [ht]
        have e1 : (((k : Int) - (V : Int)) ∈ tr ++ [z]) ↔ ((k : Int) - (V : Int)) ∈ tr := by
          simp only [List.mem_append, List.mem_singleton]
          exact ⟨fun h => by rcases h with h | h; exact h; omega, .inl⟩
        have e2 : (-((k : Int) - (V : Int)) ∈ tr ++ [z]) ↔ -((k : Int) - (V : Int)) ∈ tr := by
          simp only [List.mem_append, List.mem_singleton]
          exact ⟨fun h => by rcases h with h | h; exact h; omega, .inl⟩
        rw [val_iff e1 e2]
theorem SVAt.put {w : World} {b V : Nat} {tr : List Int} (h : SVAt w b V tr) (z : Int) (i j : Nat) (hi : (i : Int) = z + V) (hj : (j : Int) = (V : Int) - z) (h1 : z ∉ tr) (h2 : -z ∉ tr) (h0 : z ≠ 0) : SVAt ((w.setCell ⟨b, i, none⟩ (.int .i64 1)).setCell ⟨b, j, none⟩ (.int .i64 (-1))) b V (tr ++ [z]) := by
  have := heap_setCell_same _ b j _ 2 (.int .i64 (-1)) (heap_setCell_same w b i (sArr V tr) 2 (.int .i64 1) h)
  rw [sArr_put V tr z i j hi hj h1 h2 h0] at this
  exact this

theorem unit_true {tr zs : List Int} {z : Int} (hz : z ∈ zs) (h : val tr z = 1) : unitOf tr zs = none := by
  have hm : z ∈ nfl tr zs := List.mem_filter.2 ⟨hz, by simp [h]⟩
  unfold unitOf
  match hx : nfl tr zs with
  | [] => rw [hx] at hm; simp at hm
  | [a] =>
    rw [hx] at hm
    have : z = a := by simpa using hm
    subst this
    simp [h]
  | a :: c :: r => rfl
theorem unit_two {tr zs : List Int} (h : 2 ≤ (nfl tr zs).length) : unitOf tr zs = none := by
  unfold unitOf
  match hx : nfl tr zs with
  | [] => rw [hx] at h; simp at h
  | [a] => rw [hx] at h; simp at h
  | a :: c :: r => rfl
/-- What the model tells of a clause. -/
def uR (o : Option Int) : Int × Bool := match o with
  | none => (0, false)
  | some z => (z, z == 0)

set_option maxRecDepth 100000 in
set_option maxHeartbeats 2000000 in
/-- spec.l08Unit. -/
theorem su_any (b V : Nat) (tr : List Int) (sl : Option Addr) (cap : Nat) (zs : List Int) (w : World) (hV : V ≤ 96) (hv : SVAt w b V tr) (hn : zs.length ≤ maxLen) (hw : ∀ z ∈ zs, OkZ (V : Int) z) (hz : Ints w sl zs) :
    Calls Try.prog 58 #[.slice (some ⟨b, 0, none⟩) (2 * V + 1) (2 * V + 1), .slice sl zs.length cap, .int .i64 (V : Int)] w fun e w' => e = .returned (.tuple #[.int .i64 (uR (unitOf tr zs)).1, .bool (uR (unitOf tr zs)).2]) ∧ w' = w := by
  unfold maxLen at hn
  have VC := Lib.hid (show ∀ z, OkZ (V : Int) z → ∃ i : Nat, (i : Int) = z + V ∧ i < 2 * V + 1 ∧ w.cell? ⟨b, i, none⟩ = some (.int .i64 (val tr z)) from fun z h => by
    have h2 := h.2.1
    have h3 := h.2.2
    refine ⟨(z + V).toNat, by omega, by omega, ?_⟩
    rw [hv.cell _ (by omega), show (((z + V).toNat : Nat) : Int) - (V : Int) = z by omega])
  have OK := Lib.hid (show ∀ k, k < zs.length → OkZ (V : Int) (zs.getD k 0) from fun k hk => hw _ (by simp [hk]))
  have UT := Lib.hid (show ∀ k, k < zs.length → val tr (zs.getD k 0) = 1 → unitOf tr zs = none from fun k hk h => unit_true (by simp [hk]) h)
  have ST := Lib.hid (fun k h => nfl_step tr zs k h)
  have MO := Lib.hid (fun k => nfl_more tr zs k)
  have U2 := Lib.hid (show 2 ≤ (nfl tr zs).length → unitOf tr zs = none from unit_two)
  have UE := Lib.hid (show ∀ k op, zs.length ≤ k → ((nfl tr (zs.take k) = [] ∧ op = 0) ∨ (nfl tr (zs.take k) = [op] ∧ op ≠ 0 ∧ val tr op = 0)) → unitOf tr zs = some op from fun k op hk h => by
    rw [List.take_of_length_le hk] at h
    unfold unitOf
    rcases h with ⟨h1, h2⟩ | ⟨h1, _, h3⟩
    · rw [h1, h2]
    · rw [h1]; simp [h3])
  have HZ := Lib.hid hz
  have N0 := Lib.hid (show nfl tr (zs.take 0) = [] by simp [nfl])
  have hlt := hv.lt
  clear hv hw hz
  generalize unitOf tr zs = U at *
  generalize hN : zs.length = n at *
  have HN := Lib.hid hN
  clear hN
  generalize hM : 2 * V + 1 = M at *
  go_enter Try.func58, Try.ntmps58
  go_wp2
  go_loopw [8, 9] (fun o i wr => ∃ (k : Nat) (op : Int), i = .int .i64 k ∧ k ≤ n ∧ o = .int .i64 op ∧ Hid ((nfl tr (zs.take k) = [] ∧ op = 0) ∨ (nfl tr (zs.take k) = [op] ∧ op ≠ 0 ∧ val tr op = 0)) ∧ wr = w) (fun _ i _ => n - (intOf i).toNat)
  case atStart => exact ⟨0, 0, rfl, Nat.zero_le _, rfl, .inl ⟨N0.out, rfl⟩, rfl⟩
  case round =>
    obtain ⟨k, op, rfl, hk, rfl, HP, rfl⟩ := hrel
    have hk0 : (0 : Int) ≤ (k : Int) := by omega
    by_cases g1 : k < n
    · have g1' : (k : Int) < (n : Int) := by omega
      have hlt2 : k < zs.length := by rw [HN.out]; exact g1
      obtain ⟨c, o, rfl, ZI⟩ : ∃ c o, sl = some ⟨c, o, none⟩ ∧ IntsAt wr c o zs := by
        rcases HZ.out with e | h
        · rw [e] at hlt2; simp at hlt2
        · exact h
      have hcell := ZI.2 k hlt2
      obtain ⟨i, hi, hiM, hvc⟩ := VC.out _ (OK.out k g1)
      have okz := OK.out k g1
      have S1 := Lib.hid (ST.out k g1)
      have M1 := Lib.hid (MO.out (k + 1))
      have T1 := Lib.hid (UT.out k g1)
      clear ZI hlt2 ST MO HZ OK UT VC
      generalize zs.getD k 0 = z at *
      obtain ⟨oz1, oz2, oz3⟩ := okz
      have hi0 : (0 : Int) ≤ z + (V : Int) := by omega
      have hi1 : z + (V : Int) < (M : Int) := by omega
      have hi2 : z + (V : Int) ≤ 9223372036854775807 := by omega
      have hi3 : -9223372036854775808 ≤ z + (V : Int) := by omega
      have hin : (z + (V : Int)).toNat = i := by omega
      clear hi
      by_cases v1 : val tr z = 1
      · have E := Lib.hid (T1.out v1)
        rw [v1] at hvc
        clear S1 M1 T1 HP v1 UE U2
        go_wp2
        go_ret2
        exact ⟨by rw [E.out]; rfl, rfl⟩
      · by_cases v0 : val tr z = 0
        · rw [if_pos (by omega)] at S1
          rw [v0] at hvc
          by_cases ho : op = 0
          · subst ho
            have P1 := Lib.hid (show (nfl tr (zs.take (k + 1)) = [] ∧ z = 0) ∨ (nfl tr (zs.take (k + 1)) = [z] ∧ z ≠ 0 ∧ val tr z = 0) by
              rcases HP.out with ⟨h1, _⟩ | ⟨_, h2, _⟩
              · rw [S1.out, h1]; exact .inr ⟨rfl, oz1, v0⟩
              · exact absurd rfl h2)
            clear HP S1 M1 T1 v1 v0 UE U2
            go_wp2
            go_roundw
            case rel => exact ⟨k + 1, z, by go_num, by omega, rfl, P1, trivial⟩
            case measure => simp [intOf]; omega
          · have E := Lib.hid (U2.out (by
              rcases HP.out with ⟨_, h2⟩ | ⟨h1, _, _⟩
              · exact absurd h2 ho
              · have := M1.out; rw [S1.out, h1] at this; simpa using this))
            have ho' : (op == 0) = false := by simpa using ho
            clear HP S1 M1 T1 v1 v0 UE U2
            go_wp2
            go_ret2
            exact ⟨by rw [E.out]; rfl, rfl⟩
        · have vm : val tr z = -1 := by rcases val_cases tr z with ⟨e, _⟩ | ⟨e, _⟩ | ⟨e, _⟩ <;> omega
          rw [if_neg (by omega)] at S1
          rw [vm] at hvc
          have P1 := Lib.hid (show (nfl tr (zs.take (k + 1)) = [] ∧ op = 0) ∨ (nfl tr (zs.take (k + 1)) = [op] ∧ op ≠ 0 ∧ val tr op = 0) by rw [S1.out]; exact HP.out)
          clear HP S1 M1 T1 v1 v0 vm UE U2
          go_wp2
          go_roundw
          case rel => exact ⟨k + 1, op, by go_num, by omega, rfl, P1, trivial⟩
          case measure => simp [intOf]; omega
    · have g1' : ¬ (k : Int) < (n : Int) := by omega
      have E := Lib.hid (UE.out k op (by omega) HP.out)
      clear HP ST MO UE U2 UT OK VC
      go_wp2
      go_ret2
      exact ⟨by rw [E.out]; rfl, rfl⟩


end Go.Proofs.Ytaogkdhloogmhaa
namespace Go.Proofs.Ytaogkdhloogmhaa
open Go.RowKit
set_option linter.unusedVariables false

theorem own_cap8 {w : World} {B : Nat} {e : TypeId} {m : Nat} {sl : Option Addr} {n cap : Nat} {k : Nat} {xs : List Value} (h : w.ownsRow B e m (.slice sl n cap) k xs) : k ≤ cap := by
  rcases h.2 with ⟨_, h0⟩ | ⟨g, cp, cur, hv, _, _, h5, _⟩
  · rw [h0]; exact Nat.zero_le _
  · cases hv; exact h5
/-- Numbers put behind numbers: both ways of it. -/
theorem appZD {w : World} {B : Nat} {v : Value} {zs : List Int} (h : w.ownsRow B 2 1 v zs.length (valsZ zs)) {s : Option Addr} {r : List Int} (k : Nat) (hi : Ints w s r) (hB : B ≤ w.heap.size) (hl : zs.length + r.length ≤ 10000000) :
    ∃ v9 w9, (∀ ty, (Builtin.append_ #[27, 27] ty #[v, .slice s r.length k]).run Try.prog w = .ok v9 w9) ∧ w9.ownsRow B 2 1 v9 (zs ++ r).length (valsZ (zs ++ r)) ∧ w.grownBy w9 v.ownBlock ∧ ∀ j, v9.ownBlock = some j → v.ownBlock = some j ∨ j = w.heap.size := by
  obtain ⟨i3, hi3, hd0, hd1, hd2⟩ := info_parts info2'
  obtain ⟨sl, cap, rfl⟩ := own_v h
  by_cases he : r = []
  · subst he
    exact ⟨_, w, fun ty => app_none40 w ty sl zs.length cap (own_cap8 h) s k, by rw [List.append_nil]; exact h, ⟨rfl, rfl, rfl, Nat.le_refl _, fun _ _ _ => rfl⟩, fun j hj => .inl hj⟩
  · rcases hi with hi | ⟨c, o, rfl, hi⟩
    · exact absurd hi he
    · obtain ⟨g, c9, w9, hr, own9, grow9, hg, -⟩ := run_append_lies (P := Try.prog) w 27 27 B 2 i3 (.int .i64 0) 1 8 Try.underlying27 hi3 hd0 hd1 hd2 rfl (by decide) _ _ _ h ⟨c, o, none⟩ r.length k (valsZ r) (valsZ_len1 r) (int_cells hi) (valsZ_one r) (List.length_pos_iff.2 he) (by unfold maxLen; omega) (by omega) hB w.heap.size rfl
      refine ⟨_, w9, fun ty => hr, by rw [List.length_append, valsZ_add]; exact own9, grow9, fun j hj => ?_⟩
      have e : j = g := by simp [Value.ownBlock] at hj; exact hj.symm
      rcases hg with hg | hg
      · exact .inl (by rw [hg, e])
      · exact .inr (by omega)

/-- A run under way: the Cnf, the answer's block, the run's own answer with its trail T, the values of U. -/
structure SR (w : World) (vars : Int) (sl : Option Addr) (n cap : Nat) (O vb V : Nat) (W : World) (T U : List Int) (v : Value) : Prop where
  cnf : CnfAt W w.heap.size vars sl n cap
  box : BoxU W (w.heap.size + 1)
  out : W.heap[O]? = some (.cells #[v, .int .i64 (-1), .int .i64 0] 81)
  own : W.ownsRow (w.heap.size + 2) 2 1 v T.length (valsZ T)
  vals : SVAt W vb V U
  bel : Below w.heap.size w W
  ne : v.ownBlock ≠ some vb
  hO : w.heap.size + 1 < O
  hV : w.heap.size + 1 < vb
  hOV : O ≠ vb
theorem SR.keep {w : World} {vars : Int} {sl : Option Addr} {n cap O vb V : Nat} {W W' : World} {T U : List Int} {v : Value} (h : SR w vars sl n cap O vb V W T U v) (hb : Below W.heap.size W W') : SR w vars sl n cap O vb V W' T U v :=
  ⟨h.cnf.below hb, h.box.below hb, (hb.block O (Array.getElem?_eq_some_iff.1 h.out).1).trans h.out, own_below h.own hb, h.vals.below hb, bT h.bel hb, h.ne, h.hO, h.hV, h.hOV⟩
theorem SR.facts {w : World} {vars : Int} {sl : Option Addr} {n cap O vb V : Nat} {W : World} {T U : List Int} {v : Value} (h : SR w vars sl n cap O vb V W T U v) : w.heap.size < W.heap.size ∧ W.cell? ⟨w.heap.size, 0, none⟩ = some (.int .i64 vars) ∧ W.cell? ⟨w.heap.size, 1, none⟩ = some (.slice sl n cap) ∧ vb < W.heap.size ∧ O < W.heap.size ∧ W.cell? ⟨O, 0, none⟩ = some v ∧ W.cell? ⟨O, 1, none⟩ = some (.int .i64 (-1)) ∧ W.cell? ⟨O, 2, none⟩ = some (.int .i64 0) ∧ (∀ k, W.frozen? ⟨O, k, none⟩ = false) ∧ (∀ k, W.frozen? ⟨vb, k, none⟩ = false) := by
  have ho := h.out
  exact ⟨h.cnf.lt, h.cnf.cells.1, h.cnf.cells.2, h.vals.lt, (Array.getElem?_eq_some_iff.1 ho).1, by simp [World.cell?, ho], by simp [World.cell?, ho], by simp [World.cell?, ho], fun k => by simp [World.frozen?, ho], h.vals.frozen⟩
/-- A literal more has its value. -/
theorem SR.put {w : World} {vars : Int} {sl : Option Addr} {n cap O vb V : Nat} {W : World} {T U : List Int} {v : Value} (h : SR w vars sl n cap O vb V W T U v) (z : Int) (i j : Nat) (hi : (i : Int) = z + V) (hj : (j : Int) = (V : Int) - z) (h1 : z ∉ U) (h2 : -z ∉ U) (h0 : z ≠ 0) :
    SR w vars sl n cap O vb V ((W.setCell ⟨vb, i, none⟩ (.int .i64 1)).setCell ⟨vb, j, none⟩ (.int .i64 (-1))) T (U ++ [z]) v := by
  have hk : ∀ k, k ≠ vb → ((W.setCell ⟨vb, i, none⟩ (.int .i64 1)).setCell ⟨vb, j, none⟩ (.int .i64 (-1))).heap[k]? = W.heap[k]? := fun k hk => (heap_setCell_other _ ⟨vb, j, none⟩ k _ hk).trans (heap_setCell_other _ ⟨vb, i, none⟩ k _ hk)
  have hV := h.hV
  exact ⟨(hk _ (by omega)).trans h.cnf, (hk _ (by omega)).trans h.box, (hk _ h.hOV).trans h.out, own_set (own_set h.own h.ne i _) h.ne j _, h.vals.put z i j hi hj h1 h2 h0, (h.bel.setCell (p := ⟨vb, i, none⟩) (by show w.heap.size ≤ vb; omega) _).setCell (p := ⟨vb, j, none⟩) (by show w.heap.size ≤ vb; omega) _, h.ne, h.hO, h.hV, h.hOV⟩
/-- The trail has one more. -/
theorem SR.more {w : World} {vars : Int} {sl : Option Addr} {n cap O vb V : Nat} {W w9 : World} {T U T' : List Int} {v v9 : Value} (h : SR w vars sl n cap O vb V W T U v) (hg : W.grownBy w9 v.ownBlock) (ho : w9.ownsRow (w.heap.size + 2) 2 1 v9 T'.length (valsZ T')) (hn : ∀ j, v9.ownBlock = some j → v.ownBlock = some j ∨ W.heap.size ≤ j) :
    SR w vars sl n cap O vb V (w9.setCell ⟨O, 0, none⟩ v9) T' U v9 := by
  have hOl := (Array.getElem?_eq_some_iff.1 h.out).1
  have nO : v.ownBlock ≠ some O := fun e => by
    obtain ⟨g, cp, cur, hv, hb, hg', _⟩ := (h.own.2.resolve_left (fun ⟨e2, _⟩ => by rw [e2] at e; simp [Value.ownBlock] at e))
    rw [hv] at e
    have : g = O := by simpa [Value.ownBlock] using e
    subst this
    rw [h.out] at hg'
    simp at hg'
  have hk : ∀ k, k < W.heap.size → some k ≠ v.ownBlock → k ≠ O → (w9.setCell ⟨O, 0, none⟩ v9).heap[k]? = W.heap[k]? := fun k h1 h2 h3 => (heap_setCell_other _ ⟨O, 0, none⟩ k _ h3).trans (hg.block k h1 h2)
  have hlo : ∀ j, v.ownBlock = some j → w.heap.size + 2 ≤ j := fun j hj => (h.own.lt j hj).1
  have hO := h.hO
  have nO9 : v9.ownBlock ≠ some O := fun e => by
    rcases hn O e with e | e
    · exact nO e
    · omega
  refine ⟨(hk _ h.cnf.lt (fun e => by have := hlo _ e.symm; omega) (by omega)).trans h.cnf, (hk _ h.box.facts.1 (fun e => by have := hlo _ e.symm; omega) (by omega)).trans h.box, ?_, own_set ho nO9 0 v9, (hk vb h.vals.lt (fun e => h.ne e.symm) (fun e => h.hOV e.symm)).trans h.vals, (h.bel.grown hg h.bel.size (fun k hk => by have := hlo k hk; omega)).setCell (p := ⟨O, 0, none⟩) (by show w.heap.size ≤ O; omega) _, fun e => ?_, h.hO, h.hV, h.hOV⟩
  · exact heap_setCell_same w9 O 0 _ 81 v9 ((hg.block O hOl (fun e => nO e.symm)).trans h.out)
  · rcases hn vb e with e | e
    · exact h.ne e
    · have := h.vals.lt; omega

/-- The values of no literal. -/
theorem sArr_nil (V : Nat) : mk64 (2 * V + 1) = sArr V [] := by
  have := mk64_eq (List.replicate (2 * V + 1) 0)
  rw [List.length_replicate] at this
  rw [this]
  apply Array.ext
  · simp [vsOf, sArr]
  · intro i h1 h2
    have h3 : i < 2 * V + 1 := by simpa [sArr] using h2
    simp [vsOf, sArr, val_no]

/-- An empty row just made. -/
theorem own_none8 (w : World) : (w.alloc (.cells #[] 2)).ownsRow w.heap.size 2 1 (.slice (some ⟨w.heap.size, 0, none⟩) 0 0) 0 [] :=
  ⟨rfl, .inr ⟨w.heap.size, 0, #[], rfl, Nat.le_refl _, by show (w.heap.push _)[w.heap.size]? = _; simp, Nat.le_refl _, Nat.zero_le _, rfl, rfl⟩⟩
/-- A run begins. -/
theorem SR.new {w w9 : World} {vars : Int} {sl : Option Addr} {n cap V : Nat} {ts : List Int} {v9 : Value} (hc : CnfAt w9 w.heap.size vars sl n cap) (hx : BoxU w9 (w.heap.size + 1)) (ho : w9.ownsRow (w.heap.size + 2) 2 1 v9 ts.length (valsZ ts)) (hb : Below w.heap.size w w9) (hs : w.heap.size + 3 ≤ w9.heap.size) :
    SR w vars sl n cap w9.heap.size (w9.heap.size + 1) V ((w9.alloc (.cells #[v9, .int .i64 (-1), .int .i64 0] 81)).alloc (.cells (mk64 (2 * V + 1)) 2)) ts [] v9 := by
  have b1 := bA0 w9 (.cells #[v9, .int .i64 (-1), .int .i64 0] 81)
  have b2 := bA0 (w9.alloc (.cells #[v9, .int .i64 (-1), .int .i64 0] 81)) (.cells (mk64 (2 * V + 1)) 2)
  have h1 := new_at w9 (.cells #[v9, .int .i64 (-1), .int .i64 0] 81)
  have h2 := new_at (w9.alloc (.cells #[v9, .int .i64 (-1), .int .i64 0] 81)) (.cells (mk64 (2 * V + 1)) 2)
  have e1 : (w9.alloc (.cells #[v9, .int .i64 (-1), .int .i64 0] 81)).heap.size = w9.heap.size + 1 := by simp
  rw [e1, sArr_nil] at h2
  refine ⟨(hc.below b1).below b2, (hx.below b1).below b2, (b2.block _ (by omega)).trans h1, own_below (own_below ho b1) b2, ?_, bA (bA hb _) _, fun e => ?_, by omega, by omega, by omega⟩
  · rw [sArr_nil]; exact h2
  · have := (ho.lt _ e).2; omega

end Go.Proofs.Ytaogkdhloogmhaa
namespace Go.Proofs.Ytaogkdhloogmhaa
open Go.RowKit
set_option linter.unusedVariables false

theorem own_box {W : World} {C : Nat} {e : TypeId} {m : Nat} {v : Value} {n : Nat} {xs : List Value} {X : Nat} {us : Array Value} {t : TypeId} (h : W.ownsRow C e m v n xs) (hx : W.heap[X]? = some (.cells us t)) (hne : t ≠ e) (i : Nat) (u : Value) : (W.setCell ⟨X, i, none⟩ u).ownsRow C e m v n xs := by
  refine ⟨h.1, ?_⟩
  rcases h.2 with h | ⟨g, cap, cur, hv, hg, hh, r⟩
  · exact .inl h
  · refine .inr ⟨g, cap, cur, hv, hg, (Below.heap_setCell _ _ _ _ ?_).trans hh, r⟩
    intro e'
    have e'' : g = X := e'
    rw [e'', hx] at hh
    cases hh
    exact hne rfl
theorem owc_box {W : World} {C : Nat} {v : Value} {cs : List LCl} {X : Nat} {us : Array Value} {t : TypeId} (h : OwC W C v cs) (hx : W.heap[X]? = some (.cells us t)) (h1 : t ≠ 27) (h2 : t ≠ 2) (i : Nat) (u : Value) : OwC (W.setCell ⟨X, i, none⟩ u) C v cs :=
  ⟨own_box h.row hx h1 i u, fun r hr => own_box (h.each r hr) hx h2 i u, h.diff⟩
theorem own_onlyD {B : Nat} {e : TypeId} {m : Nat} {v : Value} {n : Nat} {xs : List Value} {b : Nat} {w w' : World} {us : Array Value} {t : TypeId} (h : w.ownsRow B e m v n xs) (ho : Only b w w') (hx : w.heap[b]? = some (.cells us t)) (hne : t ≠ e) : w'.ownsRow B e m v n xs := by
  refine ⟨h.1, ?_⟩
  rcases h.2 with h | ⟨g, cap, cur, hv, hg, hh, r⟩
  · exact .inl h
  · refine .inr ⟨g, cap, cur, hv, hg, (ho.block g (Array.getElem?_eq_some_iff.1 hh).1 ?_).trans hh, r⟩
    intro e'
    rw [e', hx] at hh
    cases hh
    exact hne rfl
theorem owc_only {B : Nat} {v : Value} {cs : List LCl} {b : Nat} {w w' : World} {us : Array Value} {t : TypeId} (h : OwC w B v cs) (ho : Only b w w') (hx : w.heap[b]? = some (.cells us t)) (h1 : t ≠ 27) (h2 : t ≠ 2) : OwC w' B v cs :=
  ⟨own_onlyD h.row ho hx h1, fun r hr => own_onlyD (h.each r hr) ho hx h2, h.diff⟩

theorem VAt.fld {fh : List Value} {w : World} {b : Nat} {tr : List Int} (h : VAt fh w b tr) (i : Nat) (hi : i < 6) : w.cell? ⟨b, i, none⟩ = fh[i]? := by
  have : w.cell? ⟨b, i, none⟩ = (fh ++ vL tr)[i]? := by simp [World.cell?, h.2]
  rw [this, List.getElem?_append_left (by rw [h.1]; exact hi)]
theorem VAt.setF {fh : List Value} {w : World} {b : Nat} {tr : List Int} (h : VAt fh w b tr) (i : Nat) (hi : i < 6) (v : Value) : VAt (fh.set i v) (w.setCell ⟨b, i, none⟩ v) b tr := by
  refine ⟨by rw [List.length_set]; exact h.1, ?_⟩
  have := heap_setCell_same w b i _ 63 v h.2
  rwa [List.setIfInBounds_toArray, List.set_append_left _ _ (by rw [h.1]; exact hi)] at this
abbrev SF (V bud st : Int) (vc vl vd : Value) : List Value := [.int .i64 V, .int .i64 bud, .int .i64 st, vc, vl, vd]

theorem appH {w : World} {B : Nat} {v : Value} {us : List Value} (h : w.ownsRow B 27 1 v us.length us) (u : Value) (hu : u.oneCell' = true) (c : Nat) (hc : ∀ (j : Nat) (x : Value), [u][j]? = some x → w.cell? ((⟨c, 0, none⟩ : Addr).add j) = some x) (hB : B ≤ w.heap.size) (hl : us.length ≤ 100000) :
    ∃ v9 w9, (∀ ty, (Builtin.append_ #[31, 31] ty #[v, .slice (some ⟨c, 0, none⟩) 1 1]).run Try.prog w = .ok v9 w9) ∧ w9.ownsRow B 27 1 v9 (us.length + 1) (us ++ [u]) ∧ w.grownBy w9 v.ownBlock := by
  obtain ⟨i3, hi3, hd0, hd1, hd2⟩ := info_parts info40
  obtain ⟨g, c9, w9, hr, own9, grow9, hg, -⟩ := run_append_lies (P := Try.prog) w 31 31 B 27 i3 (.slice none 0 0) 1 24 Try.underlying31 hi3 hd0 hd1 hd2 rfl (by decide) _ _ _ h ⟨c, 0, none⟩ 1 1 [u] rfl hc (by intro x hx; rw [List.mem_singleton.1 hx]; exact hu) (by decide) (by unfold maxLen; omega) (by omega) hB w.heap.size rfl
  exact ⟨_, w9, fun ty => hr, own9, grow9⟩
section
variable {w w0 : World} {b : Nat} {V bud st : Int} {ms ls : List LCl} {D tr : List Int} {vc vl vd : Value} {W W' : World}
end
theorem ints_new (w : World) (z : Int) : Ints (w.alloc (.cells #[.int .i64 z] 2)) (some ⟨w.heap.size, 0, none⟩) [z] := by
  refine .inr ⟨w.heap.size, 0, rfl, by simp, fun i hi => ?_⟩
  have : i = 0 := by simpa using hi
  subst this
  have h := new_at w (.cells #[.int .i64 z] 2)
  generalize w.alloc (.cells #[.int .i64 z] 2) = W at *
  simp [World.cell?, h]

theorem cells5 {W : World} {b : Nat} {v0 v1 v2 v3 v4 : Value} {t : TypeId} (h : W.heap[b]? = some (.cells #[v0, v1, v2, v3, v4] t)) : W.cell? ⟨b, 0, none⟩ = some v0 ∧ W.cell? ⟨b, 1, none⟩ = some v1 ∧ W.cell? ⟨b, 2, none⟩ = some v2 ∧ W.cell? ⟨b, 3, none⟩ = some v3 ∧ W.cell? ⟨b, 4, none⟩ = some v4 := by
  refine ⟨?_, ?_, ?_, ?_, ?_⟩ <;> simp [World.cell?, h]

end Go.Proofs.Ytaogkdhloogmhaa
namespace Go.Proofs.Ytaogkdhloogmhaa
open Go.RowKit
set_option linter.unusedVariables false

abbrev Res := Int × List Int × List (List Int) × Int
section
variable {w : World} {cs : List LCl} {V bud : Nat} {R : Res} {st : Nat} {ms ls : List LCl} {D : List Int}
end
/-- The answer's own block, as it is laid. -/
def BoxO (w : World) (b : Nat) : Prop := w.heap[b]? = some (.cells #[.int .i64 0, .slice none 0 0, .slice none 0 0, .int .i64 0, .int .i64 0] 48)
theorem BoxO.facts {w : World} {b : Nat} (h : BoxO w b) : b < w.heap.size ∧ w.cell? ⟨b, 0, none⟩ = some (.int .i64 0) ∧ w.cell? ⟨b, 1, none⟩ = some (.slice none 0 0) ∧ w.cell? ⟨b, 2, none⟩ = some (.slice none 0 0) ∧ w.cell? ⟨b, 3, none⟩ = some (.int .i64 0) ∧ w.cell? ⟨b, 4, none⟩ = some (.int .i64 0) ∧ w.frozen? ⟨b, 0, none⟩ = false ∧ w.frozen? ⟨b, 1, none⟩ = false ∧ w.frozen? ⟨b, 2, none⟩ = false ∧ w.frozen? ⟨b, 3, none⟩ = false ∧ w.frozen? ⟨b, 4, none⟩ = false := by
  unfold BoxO at h
  obtain ⟨e0, e1, e2, e3, e4⟩ := cells5 h
  exact ⟨(Array.getElem?_eq_some_iff.1 h).1, e0, e1, e2, e3, e4, by simp [World.frozen?, h], by simp [World.frozen?, h], by simp [World.frozen?, h], by simp [World.frozen?, h], by simp [World.frozen?, h]⟩
theorem BoxO.below {w w' : World} {b : Nat} (h : BoxO w b) (hb : Below w.heap.size w w') : BoxO w' b := (hb.block b h.facts.1).trans h
def set5 (w : World) (b : Nat) (v0 v1 v2 v3 v4 : Value) : World := ((((w.setCell ⟨b, 0, none⟩ v0).setCell ⟨b, 1, none⟩ v1).setCell ⟨b, 2, none⟩ v2).setCell ⟨b, 3, none⟩ v3).setCell ⟨b, 4, none⟩ v4
section
variable {w : World} {b : Nat} {us : Array Value} {v0 v1 v2 v3 v4 : Value}
theorem set5_at (h : w.heap[b]? = some (.cells #[.int .i64 0, .slice none 0 0, .slice none 0 0, .int .i64 0, .int .i64 0] 48)) : (set5 w b v0 v1 v2 v3 v4).heap[b]? = some (.cells #[v0, v1, v2, v3, v4] 48) :=
  heap_setCell_same _ b 4 _ 48 v4 (heap_setCell_same _ b 3 _ 48 v3 (heap_setCell_same _ b 2 _ 48 v2 (heap_setCell_same _ b 1 _ 48 v1 (heap_setCell_same w b 0 _ 48 v0 h))))
theorem set5_only (w : World) (b : Nat) (v0 v1 v2 v3 v4 : Value) : Only b w (set5 w b v0 v1 v2 v3 v4) := (((((Only.refl b w).setCell 0 v0).setCell 1 v1).setCell 2 v2).setCell 3 v3).setCell 4 v4
end
/-- What an answer of the solver is. -/
structure SoV (B : Nat) (R : Res) (vt vl : Value) (ls : List LCl) (W : World) : Prop where
  tr : W.ownsRow B 2 1 vt R.2.1.length (valsZ R.2.1)
  ol : OwC W B vl ls
  eq : bareC ls = R.2.2.1
  ap : ∀ r ∈ ls, ∀ j, r.1.ownBlock = some j → vt.ownBlock ≠ some j
theorem SoV.only {B : Nat} {R : Res} {vt vl : Value} {ls : List LCl} {W W' : World} {b : Nat} {us : Array Value} (h : SoV B R vt vl ls W) (ho : Only b W W') (hx : W.heap[b]? = some (.cells us 48)) : SoV B R vt vl ls W' :=
  ⟨own_onlyD h.tr ho hx (by decide), owc_only h.ol ho hx (by decide) (by decide), h.eq, h.ap⟩
theorem SoV.below {B : Nat} {R : Res} {vt vl : Value} {ls : List LCl} {W W' : World} (h : SoV B R vt vl ls W) (hb : Below W.heap.size W W') : SoV B R vt vl ls W' :=
  ⟨own_below h.tr hb, h.ol.below hb, h.eq, h.ap⟩
end Go.Proofs.Ytaogkdhloogmhaa
