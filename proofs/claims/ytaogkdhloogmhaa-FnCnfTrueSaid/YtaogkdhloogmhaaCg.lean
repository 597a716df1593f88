/-
  THE CLAUSES OF A TABLE: their literals are small.
-/
import Derived.Test.YtaogkdhloogmhaaHak
namespace Go.Proofs.Ytaogkdhloogmhaa
open Go.RowKit
set_option linter.unusedVariables false

theorem two_96 {x y : Int} (hx : 0 ≤ x ∧ x ≤ 96) (hy : 0 ≤ y ∧ y ≤ 96) : ∀ z ∈ [-x, -y], -96 ≤ z ∧ z ≤ 96 := fun z hz => by
  simp only [List.mem_cons, List.not_mem_nil, or_false] at hz
  rcases hz with rfl | rfl <;> omega
theorem cnA_key {rs : List LSt} {ps : List LPr} (top : Int) {ids : List Int} (h : IdsR rs ps ids) : ∀ zs ∈ cnA rs ps top ids, ClR (cnN rs ps top ids : Nat) zs ∧ ∀ z ∈ zs, -96 ≤ z ∧ z ≤ 96 := by
  have hN : cnN rs ps top ids = (plF rs top ids).length := by unfold cnN; rw [B_yes h]; rfl
  have h96 := plF_96 top ids h
  have h4 := cnA_4000 top h
  have h8 : ∀ id, (ownA (plF rs top ids) id).length ≤ 96 := fun id => by
    unfold ownA ofId
    rw [List.length_map]
    exact Nat.le_trans (List.length_filter_le _ _) (by rw [nbF_len]; exact h96)
  ·
    intro zs hz
    have hrow : ∀ b ∈ nbsF 0 (ids.map (chF rs top)), b.length ≤ 8 := nbs_8 rs ps top h.2.1 ids 0
    have hflat : (nbsF 0 (ids.map (chF rs top))).flatten = nbF 0 (plF rs top ids) := by rw [nbsF_flat]; rfl
    by_cases hown : zs ∈ (nbsF 0 (ids.map (chF rs top))).map (fun b => b.map fun e => e.2)
    · obtain ⟨b, hb, rfl⟩ := List.mem_map.1 hown
      have hsub : List.Sublist b (nbF 0 (plF rs top ids)) := by rw [← hflat]; exact List.sublist_flatten_of_mem hb
      have hup : (b.map fun e => e.2).Pairwise (· < ·) := by rw [List.pairwise_map]; exact (nb_up _).sublist hsub
      have hin : ∀ z ∈ (b.map fun e => e.2), 1 ≤ z ∧ z ≤ ((plF rs top ids).length : Int) := fun z hz => by
        obtain ⟨e, he, rfl⟩ := List.mem_map.1 hz
        obtain ⟨m, hm, rfl⟩ := nb_mem (hsub.subset he)
        exact ⟨by show (1 : Int) ≤ (m : Int) + 1; omega, by show (m : Int) + 1 ≤ _; omega⟩
      refine ⟨⟨by rw [List.length_map]; have := hrow b hb; omega, fun z hz => ?_, ?_⟩, fun z hz => ⟨by have := hin z hz; omega, by have := hin z hz; omega⟩⟩
      · have := hin z hz
        rw [lv_pos (by omega) (by omega), hN]; exact this
      · have e : (b.map fun e => e.2).map lv = b.map fun e => e.2 := by
          rw [List.map_congr_left (g := id) (fun z hz => by have := hin z hz; rw [lv_pos (by omega) (by omega)]; rfl), List.map_id]
        rw [e]
        exact hup.imp (fun {a c} hab e => by omega)
    · have hz2 := hz
      unfold cnA at hz2
      rw [B_yes h, if_pos rfl] at hz2
      rw [cnA_spec top h] at hz
      have hz3 : zs ∈ twoS (nbF 0 (plF rs top ids)) ++ ps.flatMap (besS ps (nbF 0 (plF rs top ids))) := by
        unfold cnfI at hz2
        rcases List.mem_append.1 hz2 with g | g
        · exact absurd g hown
        · have e1 := cnf_same ps ids (nbsF 0 (ids.map (chF rs top))) (ofIds_ch rs top ids 0) ((ids_pair h).imp (fun {a b} hab e => by omega))
          unfold cnfI cnfS at e1
          rw [hflat] at e1
          have e2 := List.append_inj_right e1 (by rw [List.length_map, List.length_map, nbsF_len, List.length_map])
          rw [← e2]; exact g
      rw [hN]
      rcases List.mem_append.1 hz3 with hz3 | hz3
      · obtain ⟨x, hx, y, hy, hxy, _, rfl⟩ := twoS_mem _ (nb_up _) zs hz3
        obtain ⟨a, ha, rfl⟩ := nb_mem hx
        obtain ⟨b, hb, rfl⟩ := nb_mem hy
        dsimp only at hxy ⊢
        exact ⟨good_two ⟨by omega, by omega⟩ ⟨by omega, by omega⟩ (by omega) (by omega), two_96 (by omega) (by omega)⟩
      · obtain ⟨q, hq, hz3⟩ := List.mem_flatMap.1 hz3
        unfold besS at hz3
        obtain ⟨x, hx, hz3⟩ := List.mem_flatMap.1 hz3
        obtain ⟨y, hy, hz3⟩ := List.mem_flatMap.1 hz3
        split at hz3
        · rename_i hc
          rw [List.mem_singleton] at hz3
          subst hz3
          obtain ⟨a, ha, rfl⟩ := nb_mem hx
          obtain ⟨b, hb, rfl⟩ := nb_mem hy
          obtain ⟨c1, c2, _⟩ := hc
          dsimp only at c1 c2 ⊢
          have hlt : q.1 < q.2.1 := (h.2.1.2.2.2.1 q hq).1
          refine ⟨good_two ⟨by omega, by omega⟩ ⟨by omega, by omega⟩ (by omega) (fun e => ?_), two_96 (by omega) (by omega)⟩
          obtain rfl : a = b := by omega
          omega
        · simp at hz3
/-- What a solver asks of the clauses of a table. -/
theorem cnA_fit (rs : List LSt) (ps : List LPr) (top : Int) (ids : List Int) (cs : List LCl) (e : bareC cs = cnA rs ps top ids) : (∀ r ∈ cs, r.2.length ≤ 20 ∧ ∀ z ∈ r.2, -100 ≤ z ∧ z ≤ 100) ∧ cs.length ≤ 5000 := by
  by_cases h : IdsR rs ps ids
  · have hl : cs.length = (cnA rs ps top ids).length := by rw [← e]; simp [bareC]
    have := cnA_4000 top h
    refine ⟨fun r hr => ?_, by omega⟩
    have hm : r.2 ∈ cnA rs ps top ids := by rw [← e]; exact List.mem_map.2 ⟨r, hr, rfl⟩
    obtain ⟨h1, h2⟩ := cnA_key top h _ hm
    exact ⟨by have := h1.1; omega, fun z hz => ⟨by have := h2 z hz; omega, by have := h2 z hz; omega⟩⟩
  · have h0 : cnA rs ps top ids = [] := by unfold cnA; rw [B_no h]; rfl
    rw [h0] at e
    have : cs = [] := by simpa [bareC] using e
    subst this
    exact ⟨(fun r hr => by cases hr), by simp⟩

end Go.Proofs.Ytaogkdhloogmhaa
