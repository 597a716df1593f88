/-
  THAT BOTH SIDES ASK THE SAME OF A CLOCK.
-/
import Derived.Test.YtanoklpffenljaaGreatDoorCg
import Derived.Test.YtanoklpffenljaaGreatDoorAy
import Derived.Test.YtanoklpffenljaaGreatDoorAq
namespace Go.Proofs.YtanoklpffenljaaGreatDoor
open Go.RowKit
set_option linter.unusedVariables false

theorem rise_pairwise (lo hi : Int) (zs : List Int) (h : InRise lo hi zs) : zs.Pairwise (· < ·) := by
  rw [List.pairwise_iff_getElem]
  intro i j hi hj hij
  have := rise_lt zs lo _ h i j hij hj
  simpa [hi, hj] using this
theorem ints_unique : ∀ {l m : List Int}, l.Pairwise (· < ·) → m.Pairwise (· < ·) → (∀ x, x ∈ l ↔ x ∈ m) → l = m := by
  intro l
  induction l with
  | nil =>
    intro m _ _ h
    cases m with
    | nil => rfl
    | cons a r => exact absurd ((h a).2 List.mem_cons_self) (by simp)
  | cons a r ih =>
    intro m hl hm h
    cases m with
    | nil => exact absurd ((h a).1 List.mem_cons_self) (by simp)
    | cons b s =>
      rw [List.pairwise_cons] at hl hm
      have hab : a = b := by
        have h1 := (h a).1 List.mem_cons_self
        have h2 := (h b).2 List.mem_cons_self
        rcases List.mem_cons.1 h1 with e | h1
        · exact e
        · rcases List.mem_cons.1 h2 with e | h2
          · exact e.symm
          · have := hm.1 a h1
            have := hl.1 b h2
            omega
      subst hab
      congr 1
      refine ih hl.2 hm.2 (fun x => ⟨fun hx => ?_, fun hx => ?_⟩)
      · rcases List.mem_cons.1 ((h x).1 (List.mem_cons_of_mem _ hx)) with e | h1
        · have := hl.1 x hx; omega
        · exact h1
      · rcases List.mem_cons.1 ((h x).2 (List.mem_cons_of_mem _ hx)) with e | h1
        · have := hm.1 x hx; omega
        · exact h1
theorem planB_ids {rs : List LSt} {ps : List LPr} {top : Int} {ls : List LPl} (h : planB rs ps top ls = true) : pidsA ls = pidsL ls ∧ IdsR rs ps (pidsL ls) := by
  unfold planB at h
  simp only [Bool.and_eq_true, decide_eq_true_eq, beq_iff_eq] at h
  obtain ⟨h4, hf⟩ := h
  refine ⟨if_pos h4, ?_⟩
  unfold faultA at hf
  rw [if_pos h4] at hf
  by_cases hb : B (IdsR rs ps (pidsL ls)) = true
  · exact B_true hb
  · rw [if_neg hb] at hf
    cases hf
theorem stIds_mem {k : Int} {bs : List LPr} {x : Int} : x ∈ stIds k bs ↔ ∃ b ∈ bs, b.2.1 = k ∧ b.1 = x := by
  unfold stIds
  simp only [List.mem_map, List.mem_filter, beq_iff_eq]
  constructor
  · rintro ⟨b, ⟨h1, h2⟩, h3⟩; exact ⟨b, h1, h2, h3⟩
  · rintro ⟨b, h1, h2, h3⟩; exact ⟨b, ⟨h1, h2⟩, h3⟩
theorem stIds_pair {k : Int} {bs : List LPr} (h : (bidsI bs).Pairwise (· < ·)) : (stIds k bs).Pairwise (· < ·) := by
  unfold stIds
  unfold bidsI at h
  rw [List.pairwise_map] at h ⊢
  exact h.filter _
theorem bids_one {bs : List LPr} (h : (bidsI bs).Pairwise (· < ·)) {a b : LPr} (ha : a ∈ bs) (hb : b ∈ bs) (e : a.1 = b.1) : a = b := by
  unfold bidsI at h
  rw [List.pairwise_map] at h
  induction bs with
  | nil => cases ha
  | cons c r ih =>
    rw [List.pairwise_cons] at h
    rcases List.mem_cons.1 ha with ha' | ha' <;> rcases List.mem_cons.1 hb with hb' | hb'
    · rw [ha', hb']
    · have := h.1 b hb'; rw [← ha'] at this; omega
    · have := h.1 a ha'; rw [← hb'] at this; omega
    · exact ih h.2 ha' hb'
/-- Both ask the same. -/
theorem clk_iff (rs : List LSt) (ps : List LPr) (top pr st bu : Int) (bs : List LPr) (ls : List LPl) : SClkR rs ps top pr st bu bs ls ↔ ClkR rs ps top pr st bu bs ls := by
  constructor
  · rintro ⟨h1, h2, h3, h4, h5, h6⟩
    refine ⟨h1, h2, ⟨h5, fun b hb => (h6 b hb).1⟩, h4, ?_⟩
    obtain ⟨e, -, -, hr, hm⟩ := planB_ids h4
    have hi := h1.2.2.1
    have hp := rise_pairwise _ _ _ hi
    rw [← h5] at hp
    refine ints_unique ?_ (stIds_pair hp) (fun x => ?_)
    · rw [e]; exact rise_pairwise _ _ _ (inRise_of hi hr hm)
    · rw [stIds_mem]
      constructor
      · intro hx
        have hx' := hx
        rw [e] at hx'
        have hx2 := hm x hx'
        rw [← h5] at hx2
        obtain ⟨b, hb, rfl⟩ := List.mem_map.1 hx2
        exact ⟨b, hb, (h6 b hb).2.1 hx, rfl⟩
      · rintro ⟨b, hb, hk, rfl⟩
        exact (h6 b hb).2.2 hk
  · rintro ⟨h1, h2, ⟨h5, h6⟩, h4, h7⟩
    have hi := h1.2.2.1
    have hp := rise_pairwise _ _ _ hi
    rw [← h5] at hp
    refine ⟨h1, h2, ?_, h4, h5, fun b hb => ⟨h6 b hb, ?_⟩⟩
    · have := congrArg List.length h5; simpa [bidsI, idsL] using this
    · rw [h7, stIds_mem]
      constructor
      · rintro ⟨c, hc, hk, e⟩
        rw [← bids_one hp hc hb e]; exact hk
      · intro hk
        exact ⟨b, hb, hk, rfl⟩
theorem clk_B (rs : List LSt) (ps : List LPr) (top pr st bu : Int) (bs : List LPr) (ls : List LPl) : B (SClkR rs ps top pr st bu bs ls) = B (ClkR rs ps top pr st bu bs ls) := B_iff (clk_iff rs ps top pr st bu bs ls)
theorem clk_bare {rs rs' : List LSt} (ps : List LPr) (top pr st bu : Int) (bs : List LPr) (ls : List LPl) (h : bareS rs = bareS rs') : B (ClkR rs ps top pr st bu bs ls) = B (ClkR rs' ps top pr st bu bs ls) := by
  apply B_iff
  unfold ClkR
  rw [idsL_bare h, planB_bare ps top ls h]
  constructor
  · rintro ⟨a, b⟩; exact ⟨TabR_bare ps h a, b⟩
  · rintro ⟨a, b⟩; exact ⟨TabR_bare ps h.symm a, b⟩

end Go.Proofs.YtanoklpffenljaaGreatDoor
