/-
  THE LITERALS OF A CLAUSE, told one by one.
  IS A CLAUSE RIGHT? impl.clauseRight.
  THE LAWS' CLAUSES copied into a Cnf; are clauses right? As both sides answer it.
  WHEN A TABLE IS RIGHT: the thinking.
  ARE CLAUSES RIGHT? The model's answer.
  ARE CLAUSES RIGHT? The model's answer is the program's.
-/
import Derived.Test.YtnihhbfgbilimaaGreatDoorXaa
namespace Go.Proofs.YtnihhbfgbilimaaGreatDoor
open Go.RowKit Go.Shelf
set_option linter.unusedVariables false
attribute [local go_sem] Oper.semAt_some

end Go.Proofs.YtnihhbfgbilimaaGreatDoor
namespace Go.Proofs.YtnihhbfgbilimaaGreatDoor
open Go.RowKit Go.Shelf
set_option linter.unusedVariables false
attribute [local go_sem] Oper.semAt_some

def PSort (ps : List LPr) : Prop := (ps.map ends).Pairwise Lt2
/-- A right table. -/
def TabR (rs : List LSt) (ps : List LPr) : Prop :=
  (1 ≤ rs.length ∧ rs.length ≤ 12 ∧ ps.length ≤ 40) ∧ (∀ r ∈ rs, StOK r.2.1 r.2.2.2) ∧ InRise 1 999 (idsL rs) ∧ (∀ p ∈ ps, PrOK (idsL rs) p) ∧ PSort ps

theorem StTo.iff (rs : List LSt) : StTo rs rs.length ↔ (∀ r ∈ rs, StOK r.2.1 r.2.2.2) ∧ InRise 1 999 (idsL rs) := by
  constructor
  · intro h
    refine ⟨fun r hr => ?_, fun i hi => ?_⟩
    · obtain ⟨i, hi, rfl⟩ := List.getElem_of_mem hr
      exact (h i hi hi).1.2
    · rw [idsL_len] at hi
      refine ⟨?_, (h i hi hi).2⟩
      rw [idsL_get rs i hi]
      exact (h i hi hi).1.1
  · rintro ⟨h1, h2⟩ i hi hk
    have := h2 i (by rw [idsL_len]; exact hi)
    rw [idsL_get rs i hi] at this
    refine ⟨⟨this.1, h1 _ (List.getElem_mem hi)⟩, fun h0 => ?_⟩
    rw [idsL_get rs i hi]; exact this.2 h0
theorem pairwise_of_next {l : List (Int × Int)} (h : ∀ i (hi : i + 1 < l.length), Lt2 (l[i]'(by omega)) l[i + 1]) : l.Pairwise Lt2 := by
  induction l with
  | nil => exact List.Pairwise.nil
  | cons a r ih =>
    have ih' := ih (fun i hi => by have := h (i + 1) (by simpa using hi); simpa using this)
    refine List.pairwise_cons.2 ⟨fun b hb => ?_, ih'⟩
    cases r with
    | nil => cases hb
    | cons c r =>
      have h0 : Lt2 a c := by have := h 0 (by simp); simpa using this
      rcases List.mem_cons.1 hb with rfl | hb
      · exact h0
      · exact h0.trans ((List.pairwise_cons.1 ih').1 b hb)
theorem next_of_pairwise {l : List (Int × Int)} (h : l.Pairwise Lt2) (i j : Nat) (hij : i < j) (hj : j < l.length) : Lt2 (l[i]'(by omega)) l[j] := List.pairwise_iff_getElem.1 h i j (by omega) hj hij
theorem PrTo.iff (ids : List Int) (ps : List LPr) : PrTo ids ps ps.length ↔ (∀ p ∈ ps, PrOK ids p) ∧ PSort ps := by
  constructor
  · intro h
    refine ⟨fun p hp => ?_, pairwise_of_next fun i hi => ?_⟩
    · obtain ⟨i, hi, rfl⟩ := List.getElem_of_mem hp
      exact (h i hi hi).1
    · have hi' : i + 1 < ps.length := by simpa using hi
      have := (h (i + 1) hi' hi').2 (by omega)
      simpa using this
  · rintro ⟨h1, h2⟩ i hi hk
    refine ⟨h1 _ (List.getElem_mem hi), fun h0 => ?_⟩
    have := next_of_pairwise h2 (i - 1) i (by omega) (by simpa using hi)
    simpa using this
theorem TabR.iff (rs : List LSt) (ps : List LPr) : TabR rs ps ↔ (1 ≤ rs.length ∧ rs.length ≤ 12 ∧ ps.length ≤ 40) ∧ StTo rs rs.length ∧ PrTo (idsL rs) ps ps.length := by
  rw [StTo.iff, PrTo.iff]
  unfold TabR
  constructor
  · rintro ⟨a, b, c, d, e⟩; exact ⟨a, ⟨b, c⟩, d, e⟩
  · rintro ⟨a, ⟨b, c⟩, d, e⟩; exact ⟨a, b, c, d, e⟩

end Go.Proofs.YtnihhbfgbilimaaGreatDoor
