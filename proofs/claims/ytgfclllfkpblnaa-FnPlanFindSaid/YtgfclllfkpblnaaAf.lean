/-
  WHEN A TABLE IS RIGHT: the thinking.
-/
import Derived.Test.YtgfclllfkpblnaaAe
namespace Go.Proofs.Ytgfclllfkpblnaa
open Go.RowKit
set_option linter.unusedVariables false

/-- The two stations of a pair. -/
def ends (p : LPr) : Int × Int := (p.1, p.2.1)
def Lt2 (x y : Int × Int) : Prop := x.1 < y.1 ∨ (x.1 = y.1 ∧ x.2 < y.2)
theorem Lt2.trans {x y z : Int × Int} (h : Lt2 x y) (k : Lt2 y z) : Lt2 x z := by unfold Lt2 at *; omega
theorem Lt2.irr (x : Int × Int) : ¬ Lt2 x x := by unfold Lt2; omega
theorem Lt2.tri {x y : Int × Int} (h : x ≠ y) : Lt2 x y ∨ Lt2 y x := by
  unfold Lt2
  by_cases e : x.1 = y.1
  · have : x.2 ≠ y.2 := fun e2 => h (Prod.ext e e2)
    omega
  · omega
def PrOK (ids : List Int) (p : LPr) : Prop := p.1 < p.2.1 ∧ (p.2.2 = 1 ∨ p.2.2 = 2) ∧ p.1 ∈ ids ∧ p.2.1 ∈ ids
def PSort (ps : List LPr) : Prop := (ps.map ends).Pairwise Lt2
/-- A right table. -/
def TabR (rs : List LSt) (ps : List LPr) : Prop :=
  (1 ≤ rs.length ∧ rs.length ≤ 12 ∧ ps.length ≤ 40) ∧ (∀ r ∈ rs, StOK r.2.1 r.2.2.2) ∧ InRise 1 999 (idsL rs) ∧ (∀ p ∈ ps, PrOK (idsL rs) p) ∧ PSort ps

/-- The first k stations are right. -/
def StTo (rs : List LSt) (k : Nat) : Prop := ∀ i (h : i < rs.length), i < k → ((1 ≤ rs[i].1 ∧ rs[i].1 ≤ 999) ∧ StOK rs[i].2.1 rs[i].2.2.2) ∧ (0 < i → (idsL rs).getD (i - 1) 0 < (idsL rs).getD i 0)
theorem StTo.zero (rs : List LSt) : StTo rs 0 := fun i h hk => absurd hk (Nat.not_lt_zero _)
theorem StTo.step {rs : List LSt} {k : Nat} (h : StTo rs k) (hk : k < rs.length) (h1 : (1 ≤ rs[k].1 ∧ rs[k].1 ≤ 999) ∧ StOK rs[k].2.1 rs[k].2.2.2) (h2 : 0 < k → (idsL rs).getD (k - 1) 0 < (idsL rs).getD k 0) : StTo rs (k + 1) := by
  intro i hi hik
  by_cases e : i = k
  · subst e; exact ⟨h1, h2⟩
  · exact h i hi (by omega)
theorem StTo.iff (rs : List LSt) : StTo rs rs.length ↔ (∀ r ∈ rs, StOK r.2.1 r.2.2.2) ∧ InRise 1 999 (idsL rs) := by
  constructor
  · intro h
    refine ⟨fun r hr => ?_, fun i hi => ?_⟩
    · obtain ⟨i, hi, rfl⟩ := List.getElem_of_mem hr
      exact (h i hi hi).1.2
    · rw [idsL_len] at hi
      refine ⟨?_, (h i hi hi).2⟩
      rw [idsL_get rs i hi]
      exact (h i hi hi).1.1
  · rintro ⟨h1, h2⟩ i hi hk
    have := h2 i (by rw [idsL_len]; exact hi)
    rw [idsL_get rs i hi] at this
    refine ⟨⟨this.1, h1 _ (List.getElem_mem hi)⟩, fun h0 => ?_⟩
    rw [idsL_get rs i hi]; exact this.2 h0
/-- The first k pairs are right and stand where they should. -/
def PrTo (ids : List Int) (ps : List LPr) (k : Nat) : Prop := ∀ i (h : i < ps.length), i < k → PrOK ids ps[i] ∧ ∀ h0 : 0 < i, Lt2 (ends (ps[i - 1]'(by omega))) (ends ps[i])
theorem PrTo.zero (ids : List Int) (ps : List LPr) : PrTo ids ps 0 := fun i h hk => absurd hk (Nat.not_lt_zero _)
theorem PrTo.step {ids : List Int} {ps : List LPr} {k : Nat} (h : PrTo ids ps k) (hk : k < ps.length) (h1 : PrOK ids ps[k]) (h2 : ∀ h0 : 0 < k, Lt2 (ends (ps[k - 1]'(by omega))) (ends ps[k])) : PrTo ids ps (k + 1) := by
  intro i hi hik
  by_cases e : i = k
  · subst e; exact ⟨h1, h2⟩
  · exact h i hi (by omega)
theorem pairwise_of_next {l : List (Int × Int)} (h : ∀ i (hi : i + 1 < l.length), Lt2 (l[i]'(by omega)) l[i + 1]) : l.Pairwise Lt2 := by
  induction l with
  | nil => exact List.Pairwise.nil
  | cons a r ih =>
    have ih' := ih (fun i hi => by have := h (i + 1) (by simpa using hi); simpa using this)
    refine List.pairwise_cons.2 ⟨fun b hb => ?_, ih'⟩
    cases r with
    | nil => cases hb
    | cons c r =>
      have h0 : Lt2 a c := by have := h 0 (by simp); simpa using this
      rcases List.mem_cons.1 hb with rfl | hb
      · exact h0
      · exact h0.trans ((List.pairwise_cons.1 ih').1 b hb)
theorem next_of_pairwise {l : List (Int × Int)} (h : l.Pairwise Lt2) (i j : Nat) (hij : i < j) (hj : j < l.length) : Lt2 (l[i]'(by omega)) l[j] := List.pairwise_iff_getElem.1 h i j (by omega) hj hij
theorem PrTo.iff (ids : List Int) (ps : List LPr) : PrTo ids ps ps.length ↔ (∀ p ∈ ps, PrOK ids p) ∧ PSort ps := by
  constructor
  · intro h
    refine ⟨fun p hp => ?_, pairwise_of_next fun i hi => ?_⟩
    · obtain ⟨i, hi, rfl⟩ := List.getElem_of_mem hp
      exact (h i hi hi).1
    · have hi' : i + 1 < ps.length := by simpa using hi
      have := (h (i + 1) hi' hi').2 (by omega)
      simpa using this
  · rintro ⟨h1, h2⟩ i hi hk
    refine ⟨h1 _ (List.getElem_mem hi), fun h0 => ?_⟩
    have := next_of_pairwise h2 (i - 1) i (by omega) (by simpa using hi)
    simpa using this
theorem TabR.iff (rs : List LSt) (ps : List LPr) : TabR rs ps ↔ (1 ≤ rs.length ∧ rs.length ≤ 12 ∧ ps.length ≤ 40) ∧ StTo rs rs.length ∧ PrTo (idsL rs) ps ps.length := by
  rw [StTo.iff, PrTo.iff]
  unfold TabR
  constructor
  · rintro ⟨a, b, c, d, e⟩; exact ⟨a, ⟨b, c⟩, d, e⟩
  · rintro ⟨a, ⟨b, c⟩, d, e⟩; exact ⟨a, b, c, d, e⟩

/-- Numbers that an int64 can be. -/
def wfI (a : Int) : Prop := (Lit.int .i64 a).wf = true
def WfP (p : LPr) : Prop := (wfI p.1 ∧ wfI p.2.1) ∧ wfI p.2.2
theorem wf_small {a : Int} (h : 0 ≤ a ∧ a ≤ 1000) : wfI a := by
  unfold wfI
  have e1 : IntKind.i64.min = -9223372036854775808 := by rfl
  have e2 : IntKind.i64.max = 9223372036854775807 := by rfl
  simp [Lit.wf, e1, e2]
  omega

end Go.Proofs.Ytgfclllfkpblnaa
