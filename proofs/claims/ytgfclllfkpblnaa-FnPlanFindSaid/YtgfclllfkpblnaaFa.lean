/-
  A PLAN THAT IS FOUND, as lists: it is right and of just these stations, and more steps find nothing else.
-/
import Derived.Test.YtgfclllfkpblnaaXd
import Derived.Test.YtgfclllfkpblnaaPx
namespace Go.Proofs.Ytgfclllfkpblnaa
open Go.RowKit
set_option linter.unusedVariables false

/-- No fault, said of all at once. -/
theorem fault0 (rs : List LSt) (ps : List LPr) (top : Int) : ∀ (pl pre : List LPl), (∀ p ∈ pl, p.1 ≠ 0) → (faultF rs ps top pre pl = 0 ↔ (∀ p ∈ pl, p.2 ∈ rs.flatMap (domF p.1 top)) ∧ (∀ p ∈ pl, ∀ o ∈ pre, mayL ps o.1 o.2 p.1 p.2 = true) ∧ pl.Pairwise (fun o p => mayL ps o.1 o.2 p.1 p.2 = true))
  | [], pre, _ => by simp [faultF]
  | p :: r, pre, h => by
    have hp := h p (by simp)
    have ih := fault0 rs ps top r (pre ++ [p]) (fun q hq => h q (by simp [hq]))
    unfold faultF
    by_cases hg : goodB rs ps top pre p = true
    · rw [if_pos hg, ih]
      unfold goodB at hg
      rw [Bool.and_eq_true, List.all_eq_true] at hg
      obtain ⟨g1, g2⟩ := hg
      have g1 := B_true g1
      constructor
      · rintro ⟨a, b, c⟩
        refine ⟨fun q hq => ?_, fun q hq o ho => ?_, List.pairwise_cons.2 ⟨fun q hq => b q hq p (by simp), c⟩⟩
        · rcases List.mem_cons.1 hq with rfl | hq
          · exact g1
          · exact a q hq
        · rcases List.mem_cons.1 hq with rfl | hq
          · exact g2 o ho
          · exact b q hq o (by simp [ho])
      · rintro ⟨a, b, c⟩
        rw [List.pairwise_cons] at c
        refine ⟨fun q hq => a q (by simp [hq]), fun q hq o ho => ?_, c.2⟩
        rcases List.mem_append.1 ho with ho | ho
        · exact b q (by simp [hq]) o ho
        · rw [List.mem_singleton.1 ho]; exact c.1 q hq
    · rw [if_neg hg]
      constructor
      · intro e; exact absurd e hp
      · rintro ⟨a, b, c⟩
        refine absurd ?_ hg
        unfold goodB
        rw [Bool.and_eq_true, List.all_eq_true]
        exact ⟨B_yes (a p (by simp)), fun o ho => b p (by simp) o ho⟩
/-- A right plan, said of all at once. -/
structure PlanOk (rs : List LSt) (ps : List LPr) (top : Int) (pl : List LPl) : Prop where
  ln : pl.length ≤ 400
  ids : IdsR rs ps (pidsL pl)
  dom : ∀ p ∈ pl, p.2 ∈ rs.flatMap (domF p.1 top)
  may : pl.Pairwise (fun o p => mayL ps o.1 o.2 p.1 p.2 = true)
theorem planB_ok (rs : List LSt) (ps : List LPr) (top : Int) (pl : List LPl) : planB rs ps top pl = true ↔ PlanOk rs ps top pl := by
  unfold planB faultA
  rw [Bool.and_eq_true, decide_eq_true_iff, beq_iff_eq]
  constructor
  · rintro ⟨h1, h2⟩
    rw [if_pos h1] at h2
    by_cases hi : IdsR rs ps (pidsL pl)
    · rw [B_yes hi, if_pos rfl] at h2
      have := (fault0 rs ps top pl [] (fun p hp => by have := ids_small hi p hp; omega)).1 h2
      exact ⟨h1, hi, this.1, this.2.2⟩
    · rw [B_no hi] at h2; simp at h2
  · rintro ⟨h1, hi, h3, h4⟩
    refine ⟨h1, ?_⟩
    rw [if_pos h1, B_yes hi, if_pos rfl]
    exact (fault0 rs ps top pl [] (fun p hp => by have := ids_small hi p hp; omega)).2 ⟨h3, fun p _ o ho => by simp at ho, h4⟩

/-! ### what is found -/
theorem tryL_found (f : List LPl → LPl → Bool) (bud : Nat) (k : List LPl → Nat → SRes) : ∀ (xs pl : List LPl) (s : Nat) (p : List LPl) (t : Nat), tryL f bud k xs pl s = .found p t → ∃ x ∈ xs, f pl x = true ∧ ∃ s', k (pl ++ [x]) s' = .found p t := by
  intro xs
  induction xs with
  | nil => intro pl s p t h; simp [tryL] at h
  | cons x xs ih =>
    intro pl s p t h
    rw [tryL] at h
    by_cases e : s = bud
    · rw [if_pos e] at h; simp at h
    · rw [if_neg e] at h
      cases hf : f pl x with
      | true =>
        rw [hf, if_pos rfl] at h
        cases hk : k (pl ++ [x]) (s + 1) with
        | none s' =>
          rw [hk] at h
          obtain ⟨y, hy, h1, h2⟩ := ih pl s' p t h
          exact ⟨y, List.mem_cons_of_mem _ hy, h1, h2⟩
        | found q s' =>
          rw [hk] at h
          exact ⟨x, List.mem_cons_self, hf, s + 1, by rw [hk]; exact h⟩
        | out s' => rw [hk] at h; simp at h
      | false =>
        rw [hf, if_neg (by simp)] at h
        obtain ⟨y, hy, h1, h2⟩ := ih pl (s + 1) p t h
        exact ⟨y, List.mem_cons_of_mem _ hy, h1, h2⟩
/-- Places that may stand together, each of its station's channels. -/
def TogL (rs : List LSt) (ps : List LPr) (top : Int) (pl : List LPl) : Prop := (∀ p ∈ pl, p.2 ∈ rs.flatMap (domF p.1 top)) ∧ pl.Pairwise (fun o p => mayL ps o.1 o.2 p.1 p.2 = true)
theorem seek_found (rs : List LSt) (ps : List LPr) (top : Int) (bud : Nat) (ht : TabR rs ps) : ∀ (ids : List Int) (pl : List LPl) (s : Nat) (p : List LPl) (t : Nat), TogL rs ps top pl → seek (fitB ps) bud (ids.map (chF rs top)) pl s = .found p t → TogL rs ps top p ∧ pidsL p = pidsL pl ++ ids := by
  intro ids
  induction ids with
  | nil =>
    intro pl s p t hg h
    simp only [List.map_nil, seek, SRes.found.injEq] at h
    rw [← h.1]
    exact ⟨hg, by simp⟩
  | cons id r ih =>
    intro pl s p t hg h
    rw [List.map_cons, seek] at h
    obtain ⟨x, hx, hf, s', hk⟩ := tryL_found _ _ _ _ _ _ _ _ h
    unfold chF at hx
    obtain ⟨c, hc, rfl⟩ := List.mem_map.1 hx
    rw [fit_may rs ps pl (id, c) ht, List.all_eq_true] at hf
    have hg2 : TogL rs ps top (pl ++ [(id, c)]) := by
      refine ⟨fun q hq => ?_, List.pairwise_append.2 ⟨hg.2, List.pairwise_singleton _ _, fun o ho q hq => ?_⟩⟩
      · rcases List.mem_append.1 hq with hq | hq
        · exact hg.1 q hq
        · rw [List.mem_singleton.1 hq]; exact hc
      · rw [List.mem_singleton.1 hq]; exact hf o ho
    obtain ⟨h1, h2⟩ := ih _ _ _ _ hg2 hk
    refine ⟨h1, ?_⟩
    rw [h2]
    simp [pidsL]
/-! ### more steps -/
def SRes.isOut : SRes → Bool
  | .out _ => true
  | _ => false
theorem tryL_more (f : List LPl → LPl → Bool) (bud bud' : Nat) (hb : bud ≤ bud') (k k' : List LPl → Nat → SRes) (hk : ∀ pl s, s ≤ bud → (k pl s).isOut = false → k' pl s = k pl s) (hs : ∀ pl s, s ≤ bud → s ≤ (k pl s).st ∧ (k pl s).st ≤ bud) :
    ∀ (xs pl : List LPl) (s : Nat), s ≤ bud → (tryL f bud k xs pl s).isOut = false → tryL f bud' k' xs pl s = tryL f bud k xs pl s := by
  intro xs
  induction xs with
  | nil => intro pl s _ _; rfl
  | cons x xs ih =>
    intro pl s h ho
    rw [tryL] at ho
    rw [tryL, tryL]
    by_cases e : s = bud
    · rw [if_pos e] at ho; simp [SRes.isOut] at ho
    · have e' : s ≠ bud' := by omega
      rw [if_neg e] at ho
      rw [if_neg e, if_neg e']
      cases hf : f pl x with
      | true =>
        rw [hf, if_pos rfl] at ho
        rw [if_pos rfl, if_pos rfl]
        have h1 := hs (pl ++ [x]) (s + 1) (by omega)
        have h2 := hk (pl ++ [x]) (s + 1) (by omega)
        cases hr : k (pl ++ [x]) (s + 1) with
        | none s' =>
          rw [hr] at ho h1 h2
          rw [h2 rfl]
          exact ih pl s' h1.2 ho
        | found q s' =>
          rw [hr] at h2
          rw [h2 rfl]
        | out s' => rw [hr] at ho; simp [SRes.isOut] at ho
      | false =>
        rw [hf, if_neg (by simp)] at ho
        rw [if_neg (by simp), if_neg (by simp)]
        exact ih pl (s + 1) (by omega) ho
theorem seek_more (f : List LPl → LPl → Bool) (bud bud' : Nat) (hb : bud ≤ bud') : ∀ (cs : List (List LPl)) (pl : List LPl) (s : Nat), s ≤ bud → (seek f bud cs pl s).isOut = false → seek f bud' cs pl s = seek f bud cs pl s := by
  intro cs
  induction cs with
  | nil => intro pl s _ _; rfl
  | cons c cs ih =>
    intro pl s h ho
    exact tryL_more f bud bud' hb _ _ (fun pl s h1 h2 => ih pl s h1 h2) (fun pl s h1 => seek_le f bud cs pl s h1) c pl s h ho
/-! ### PlanFind -/
theorem pf_steps {rs : List LSt} {ps : List LPr} {ids : List Int} {bd : Int} (top : Int) (h : PfOk rs ps ids bd) : pfT rs ps top ids bd ≤ bd := by
  rw [(pf_yes top h).2.2.1]
  have := (seek_le (fitB ps) bd.toNat (ids.map (chF rs top)) [] 0 (Nat.zero_le _)).2
  have h0 := h.2.1
  show (((pfS rs ps top ids bd).st : Nat) : Int) ≤ bd
  unfold pfS
  omega
theorem pf_right {rs : List LSt} {ps : List LPr} {ids : List Int} {bd : Int} (top : Int) (h : PfOk rs ps ids bd) (hv : pfV rs ps top ids bd = 1) : planB rs ps top (pfP rs ps top ids bd) = true ∧ pidsL (pfP rs ps top ids bd) = ids := by
  obtain ⟨e1, e2, -, -⟩ := pf_yes top h
  rw [e1] at hv
  rw [e2]
  cases hr : pfS rs ps top ids bd with
  | found p t =>
    have := seek_found rs ps top bd.toNat h.1.2.1 ids [] 0 p t ⟨(fun q hq => by cases hq), List.Pairwise.nil⟩ hr
    have hi : pidsL p = ids := by rw [this.2]; rfl
    refine ⟨(planB_ok rs ps top p).2 ⟨?_, by rw [hi]; exact h.1, this.1.1, this.1.2⟩, hi⟩
    have h4 := h.1.1
    rw [← hi, pidsL_len] at h4
    exact h4
  | none s => rw [hr] at hv; simp [SRes.vd] at hv
  | out s => rw [hr] at hv; simp [SRes.vd] at hv
def moreB (bd : Int) : Int := if bd + 100 < 2000 then bd + 100 else 2000
theorem pf_more {rs : List LSt} {ps : List LPr} {ids : List Int} {bd : Int} (top : Int) (h : PfOk rs ps ids bd) (hv : pfV rs ps top ids bd ≠ 3) : pfV rs ps top ids (moreB bd) = pfV rs ps top ids bd ∧ pfP rs ps top ids (moreB bd) = pfP rs ps top ids bd ∧ pfT rs ps top ids (moreB bd) = pfT rs ps top ids bd := by
  have hm : bd ≤ moreB bd ∧ moreB bd ≤ 2000 := by
    have := h.2.2
    unfold moreB
    split <;> omega
  have h' : PfOk rs ps ids (moreB bd) := ⟨h.1, by have := h.2.1; omega, hm.2⟩
  obtain ⟨a1, a2, a3, -⟩ := pf_yes top h
  obtain ⟨b1, b2, b3, -⟩ := pf_yes top h'
  have e : pfS rs ps top ids (moreB bd) = pfS rs ps top ids bd := by
    refine seek_more (fitB ps) bd.toNat (moreB bd).toNat (by omega) _ [] 0 (Nat.zero_le _) ?_
    rw [a1] at hv
    unfold pfS at hv
    cases hr : seek (fitB ps) bd.toNat (ids.map (chF rs top)) [] 0 with
    | found p t => rfl
    | none s => rfl
    | out s => rw [hr] at hv; exact absurd rfl hv
  rw [a1, a2, a3, b1, b2, b3, e]
  exact ⟨rfl, rfl, rfl⟩
end Go.Proofs.Ytgfclllfkpblnaa
