/-
  THE CLAUSES OF A TABLE as the program makes them: what impl.CnfOf needs ahead of its walk.
-/
import Derived.Test.YtdmfljejlhlbnaaWh
import Derived.Test.YtdmfljejlhlbnaaPd
namespace Go.Proofs.Ytdmfljejlhlbnaa
open Go.RowKit
set_option linter.unusedVariables false

theorem OwC.set {w : World} {B : Nat} {v : Value} {cs : List LCl} (h : OwC w B v cs) {b : Nat} (hb : b < B) (i : Nat) (u : Value) : OwC (w.setCell ⟨b, i, none⟩ u) B v cs :=
  ⟨own_set h.row (fun e => by have := (h.row.lt b e).1; omega) i u, fun r hr => own_set (h.each r hr) (fun e => by have := ((h.each r hr).lt b e).1; omega) i u, h.diff⟩
theorem own_cap {w : World} {B : Nat} {e : TypeId} {m : Nat} {sl : Option Addr} {n cap : Nat} {xs : List Value} (h : w.ownsRow B e m (.slice sl n cap) n xs) : n ≤ cap := by
  rcases h.2 with ⟨hv, h0⟩ | ⟨g, cp, cur, hv, _, _, h5, _⟩
  · rw [h0]; exact Nat.zero_le _
  · cases hv; exact h5
theorem twoF_len (zs : List Int) : (twoF zs).length ≤ zs.length * zs.length := by
  induction zs with
  | nil => exact Nat.le_refl _
  | cons x r ih =>
    simp only [twoF, List.length_append, List.length_map, List.length_cons]
    have : r.length * r.length + r.length ≤ (r.length + 1) * (r.length + 1) := by rw [Nat.add_mul, Nat.mul_add]; omega
    omega
theorem numR_len (rows : List LRow) : (numR rows).length = rows.length := by simp [numR, nbsF_len]
theorem numR_mem (rows : List LRow) (l : List Int) (h : l ∈ numR rows) : ∀ z ∈ l, 0 ≤ z ∧ z ≤ ((flatR rows).length : Int) := by
  intro z hz
  unfold numR at h
  obtain ⟨b, hb, rfl⟩ := List.mem_map.1 h
  obtain ⟨e, he, rfl⟩ := List.mem_map.1 hz
  have h1 : e ∈ nbF 0 (rows.map fun r => r.2).flatten := by rw [← nbsF_flat]; exact List.mem_flatten.2 ⟨b, hb, he⟩
  have h2 : e.2 ∈ (nbF 0 (rows.map fun r => r.2).flatten).map (fun e => e.2) := List.mem_map.2 ⟨e, h1, rfl⟩
  rw [nbF_snd, flat_len] at h2
  unfold numF at h2
  obtain ⟨i, hi, e2⟩ := List.mem_map.1 h2
  have := List.mem_range.1 hi
  omega
theorem numR_row (rows : List LRow) (m : Nat) (h : ∀ r ∈ rows, r.2.length ≤ m) (l : List Int) (hl : l ∈ numR rows) : l.length ≤ m := by
  obtain ⟨p, hp, rfl⟩ := List.getElem_of_mem hl
  rw [numR_len] at hp
  have e := nbsF_fst (rows.map fun r => r.2) 0
  have hp2 : p < (nbsF 0 (rows.map fun r => r.2)).length := by rw [nbsF_len, List.length_map]; exact hp
  have : ((nbsF 0 (rows.map fun r => r.2)).map (fun b => b.map fun e => e.1))[p]? = (rows.map fun r => r.2)[p]? := by rw [e]
  simp [hp2, hp] at this
  have h3 := congrArg List.length this
  rw [List.length_map] at h3
  simp only [numR, List.getElem_map, List.length_map]
  rw [h3]
  exact h _ (List.getElem_mem hp)
theorem numR_flat (rows : List LRow) : (numR rows).flatten.length = (flatR rows).length := by
  have : (numR rows).flatten = (nbF 0 (flatR rows)).map fun e => e.2 := by
    unfold numR
    rw [← List.map_flatten, nbsF_flat, flat_len]
  rw [this, List.length_map, nbF_len]
theorem flatC_bare (cs : List LCl) : flatC cs = (bareC cs).flatten := by unfold flatC bareC; rw [List.flatMap_def]
theorem idsR_rise {rs : List LSt} {ps : List LPr} {ids : List Int} (h : IdsR rs ps ids) : Rises ids := rise_lt ids 1 999 (inRise_of h.2.1.2.2.1 h.2.2.1 h.2.2.2)
theorem rises_nodup {ids : List Int} (h : Rises ids) : ids.Nodup := by
  rw [List.nodup_iff_pairwise_ne, List.pairwise_iff_getElem]
  intro i j hi hj hij
  have := h i j hij hj
  simp [hi, hj] at this
  omega
theorem idsR_small {rs : List LSt} {ps : List LPr} {ids : List Int} (h : IdsR rs ps ids) (x : Int) (hx : x ∈ ids) : 1 ≤ x ∧ x ≤ 999 := by
  have hr := inRise_of h.2.1.2.2.1 h.2.2.1 h.2.2.2
  obtain ⟨i, hi, e⟩ := List.getElem_of_mem hx
  have := (hr i hi).1
  rw [List.getD_eq_getElem?_getD, List.getElem?_eq_getElem hi] at this
  simp only [Option.getD_some] at this
  rw [e] at this
  exact this
theorem ch_small {rs : List LSt} {ps : List LPr} {ids : List Int} (top : Int) (h : IdsR rs ps ids) {rows : List LRow} (hm : rows.map (fun r => r.2) = ids.map (chF rs top)) : ∀ r ∈ rows, ∀ x ∈ r.2, Small x := by
  intro r hr x hx
  have : r.2 ∈ ids.map (chF rs top) := by rw [← hm]; exact List.mem_map.2 ⟨r, hr, rfl⟩
  obtain ⟨id, hid, e⟩ := List.mem_map.1 this
  rw [← e] at hx
  unfold chF at hx
  obtain ⟨c, hc, e2⟩ := List.mem_map.1 hx
  have h1 := idsR_small h id hid
  have h2 := dom_small rs ps id top c h.2.1 hc
  rw [← e2]
  exact ⟨⟨by show (0 : Int) ≤ id; omega, by show id ≤ 1000; omega⟩, ⟨by show (0 : Int) ≤ c; omega, by show c ≤ 1000; omega⟩⟩
theorem ch_96 {rs : List LSt} {ps : List LPr} {ids : List Int} (top : Int) (h : TabR rs ps) {rows : List LRow} (hm : rows.map (fun r => r.2) = ids.map (chF rs top)) : ∀ r ∈ rows, r.2.length ≤ 96 := by
  intro r hr
  have : r.2 ∈ ids.map (chF rs top) := by rw [← hm]; exact List.mem_map.2 ⟨r, hr, rfl⟩
  obtain ⟨id, hid, e⟩ := List.mem_map.1 this
  rw [← e]
  unfold chF
  rw [List.length_map]
  exact dom_le rs ps id top h
/-- The answer: its clauses, its variables. -/
noncomputable def cnA (rs : List LSt) (ps : List LPr) (top : Int) (ids : List Int) : List (List Int) := if B (IdsR rs ps ids) = true then cnfI ps ids (nbsF 0 (ids.map (chF rs top))) else []
noncomputable def cnN (rs : List LSt) (ps : List LPr) (top : Int) (ids : List Int) : Nat := if B (IdsR rs ps ids) = true then (plF rs top ids).length else 0
theorem app_none43 (w : World) (ty : TypeId) (base : Option Addr) (n cap : Nat) (hle : n ≤ cap) (p : Option Addr) (c : Nat) :
    (Builtin.append_ #[43, 43] ty #[.slice base n cap, .slice p 0 c]).run Try.prog w = .ok (.slice base n cap) w := by
  obtain ⟨i, h1, h2, h3, h4⟩ := info_parts info40
  refine run_append_nothing w 43 43 ty 40 i Try.underlying43 h1 base n cap hle _ ?_
  cases p with
  | none => exact Src.ofNil _ Try.underlying43 c
  | some a => exact Src.ofSlice _ Try.underlying43 a 0 c [] (by simp) (fun j u h => by simp at h) (fun u h => by cases h)
/-- A row of slices that is not empty. -/
theorem OwC.form {w : World} {B : Nat} {v : Value} {cs : List LCl} (h : OwC w B v cs) (hne : cs ≠ []) : ∃ g cap, v = .slice (some ⟨g, 0, none⟩) cs.length cap ∧ ∀ (j : Nat) (u : Value), (hdC cs)[j]? = some u → w.cell? ((⟨g, 0, none⟩ : Addr).add j) = some u := by
  have hr := h.row
  rcases hr.2 with ⟨hv, h0⟩ | ⟨g, cap, cur, hv, hb, hg, _⟩
  · exact absurd (List.eq_nil_of_length_eq_zero h0) hne
  · exact ⟨g, cap, hv, hr.cells (by rw [hv]; rfl)⟩
theorem hdC_one {w : World} {B : Nat} {v : Value} {cs : List LCl} (h : OwC w B v cs) : ∀ u ∈ hdC cs, u.oneCell' = true := by
  intro u hu
  unfold hdC at hu
  obtain ⟨r, hr, rfl⟩ := List.mem_map.1 hu
  obtain ⟨sl, cap, e⟩ := own_v (h.each r hr)
  rw [e]; rfl
theorem hdC_len1 (cs : List LCl) : (hdC cs).length = cs.length * 1 := by simp [hdC]
/-- Clauses put behind clauses: both ways of it. -/
theorem app43 {w0 w : World} {B : Nat} {v v2 : Value} {cs ds : List LCl} (h : OwC w0 B v cs) (hb : Below w0.heap.size w0 w) (h2 : OwC w w0.heap.size v2 ds) (hB : B ≤ w0.heap.size) (hl : cs.length + ds.length ≤ 100000000) :
    ∃ v9 w9, (Builtin.append_ #[43, 43] 43 #[v, v2]).run Try.prog w = .ok v9 w9 ∧ OwC w9 B v9 (cs ++ ds) ∧ w.grownBy w9 v.ownBlock ∧ ∀ j, v.ownBlock = some j → B ≤ j := by
  obtain ⟨i4, hi4, hd0, hd1, hd2⟩ := info_parts info40
  obtain ⟨sl, cap, rfl⟩ := h.v
  have hlo : ∀ j, (Value.slice sl cs.length cap).ownBlock = some j → B ≤ j := fun j hj => (h.row.lt j hj).1
  by_cases he : ds = []
  · subst he
    obtain ⟨s2, c2, rfl⟩ := h2.v
    refine ⟨_, w, app_none43 w 43 sl cs.length cap (own_cap h.row) s2 c2, by rw [List.append_nil]; exact h.below hb, ⟨rfl, rfl, rfl, Nat.le_refl _, fun _ _ _ => rfl⟩, hlo⟩
  · obtain ⟨g2, c2, rfl, hcell⟩ := h2.form he
    have hs := hb.size
    obtain ⟨g, c9, w9, hr, own9, grow9, -, -⟩ := run_append_lies (P := Try.prog) w 43 43 B 40 i4 (.slice none 0 0) 1 24 Try.underlying43 hi4 hd0 hd1 hd2 rfl (by decide) _ _ _ (own_below h.row hb) ⟨g2, 0, none⟩ ds.length c2 (hdC ds) (hdC_len1 ds) hcell (hdC_one h2) (List.length_pos_iff.2 he) (by unfold maxLen; omega) (by omega) (by omega) w.heap.size rfl
    exact ⟨_, w9, hr, h.join hb h2 hB grow9 (by rw [List.length_append]; exact own9), grow9, hlo⟩
end Go.Proofs.Ytdmfljejlhlbnaa
