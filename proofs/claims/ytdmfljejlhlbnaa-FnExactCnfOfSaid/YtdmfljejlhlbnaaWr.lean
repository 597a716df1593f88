/-
  HOW MANY CLAUSES a table has, and how long they are; tables that differ in their slices only.
-/
import Derived.Test.YtdmfljejlhlbnaaWn
import Derived.Test.YtdmfljejlhlbnaaUg
import Derived.Test.YtdmfljejlhlbnaaPf
namespace Go.Proofs.Ytdmfljejlhlbnaa
open Go.RowKit
set_option linter.unusedVariables false

theorem nodup_len : ∀ (l m : List Int), l.Nodup → (∀ x ∈ l, x ∈ m) → l.length ≤ m.length := by
  intro l
  induction l with
  | nil => intro m _ _; exact Nat.zero_le _
  | cons x l ih =>
    intro m hn hm
    have h2 := List.nodup_cons.1 hn
    have hx := hm x (by simp)
    have := ih (m.erase x) h2.2 (fun y hy => (List.mem_erase_of_ne (show y ≠ x from fun e => h2.1 (by rw [← e]; exact hy))).2 (hm y (by simp [hy])))
    rw [List.length_erase_of_mem hx] at this
    have hp : 0 < m.length := List.length_pos_of_mem hx
    simp only [List.length_cons]
    omega
theorem fm_len {α β : Type} (f : α → List β) (m : Nat) : ∀ l : List α, (∀ x ∈ l, (f x).length ≤ m) → (l.flatMap f).length ≤ l.length * m := by
  intro l
  induction l with
  | nil => intro _; simp
  | cons x l ih =>
    intro h
    have h1 := h x (by simp)
    have h2 := ih (fun y hy => h y (by simp [hy]))
    rw [List.flatMap_cons, List.length_append, List.length_cons, Nat.add_mul]
    omega
theorem twoF_two (zs : List Int) : ∀ l ∈ twoF zs, l.length = 2 := by
  induction zs with
  | nil => intro l h; cases h
  | cons x r ih =>
    intro l h
    rw [twoF] at h
    rcases List.mem_append.1 h with h | h
    · obtain ⟨y, _, rfl⟩ := List.mem_map.1 h; rfl
    · exact ih l h
theorem besF_two (ps : List LPr) (A C : List LNb) : ∀ l ∈ besF ps A C, l.length = 2 := by
  intro l h
  unfold besF at h
  obtain ⟨x, _, h⟩ := List.mem_flatMap.1 h
  obtain ⟨y, _, h⟩ := List.mem_flatMap.1 h
  split at h
  · cases h
  · rw [List.mem_singleton.1 h]; rfl
theorem besF_len (ps : List LPr) (A C : List LNb) (ha : A.length ≤ 96) (hc : C.length ≤ 96) : (besF ps A C).length ≤ 9216 := by
  unfold besF
  have := fm_len (fun x : LNb => C.flatMap fun y => if mayL ps x.1.1 x.1.2 y.1.1 y.1.2 = true then [] else [[-x.2, -y.2]]) (96 * 1) A (fun x _ => by
    have := fm_len (fun y : LNb => if mayL ps x.1.1 x.1.2 y.1.1 y.1.2 = true then [] else [[-x.2, -y.2]]) 1 C (fun y _ => by split <;> simp)
    omega)
  have h2 : A.length * (96 * 1) ≤ 96 * 96 := Nat.mul_le_mul ha (by omega)
  omega
theorem nbs_mem (rs : List LSt) (ps : List LPr) (top : Int) (h : TabR rs ps) : ∀ (ids : List Int) (last : Int), ∀ b ∈ nbsF last (ids.map (chF rs top)), b.length ≤ 96 := by
  intro ids
  induction ids with
  | nil => intro _ b hb; cases hb
  | cons id ids ih =>
    intro last b hb
    rw [List.map_cons, nbsF] at hb
    rcases List.mem_cons.1 hb with rfl | hb
    · rw [nbF_len]; unfold chF; rw [List.length_map]; exact dom_le rs ps id top h
    · exact ih _ b hb
theorem getD_96 {bs : List (List LNb)} (h : ∀ b ∈ bs, b.length ≤ 96) (i : Nat) : (bs.getD i []).length ≤ 96 := by
  by_cases hi : i < bs.length
  · rw [show bs.getD i [] = bs[i] by simp [List.getD, hi]]; exact h _ (List.getElem_mem hi)
  · rw [show bs.getD i [] = [] by simp [List.getD, Nat.not_lt.1 hi]]; simp
theorem idsR_12 {rs : List LSt} {ps : List LPr} {ids : List Int} (h : IdsR rs ps ids) : ids.length ≤ 12 := by
  have := nodup_len ids (idsL rs) (rises_nodup (idsR_rise h)) h.2.2.2
  rw [idsL_len] at this
  have := h.2.1.1.2.1
  omega
theorem cnA_each (rs : List LSt) (ps : List LPr) (top : Int) (ids : List Int) : ∀ l ∈ cnA rs ps top ids, l.length ≤ 96 := by
  intro l hl
  unfold cnA at hl
  split at hl
  · rename_i hb
    have IR := B_true hb
    have hbs := nbs_mem rs ps top IR.2.1 ids 0
    unfold cnfI at hl
    rcases List.mem_append.1 hl with hl | hl
    · obtain ⟨b, hb, rfl⟩ := List.mem_map.1 hl
      rw [List.length_map]; exact hbs b hb
    · rcases List.mem_append.1 hl with hl | hl
      · obtain ⟨b, _, hl⟩ := List.mem_flatMap.1 hl
        rw [twoF_two _ l hl]; omega
      · obtain ⟨p, _, hl⟩ := List.mem_flatMap.1 hl
        unfold besI at hl
        split at hl
        · rw [besF_two _ _ _ l hl]; omega
        · cases hl
  · cases hl
theorem cnA_len (rs : List LSt) (ps : List LPr) (top : Int) (ids : List Int) : (cnA rs ps top ids).length ≤ 1048576 := by
  unfold cnA
  split
  · rename_i hb
    have IR := B_true hb
    have hbs := nbs_mem rs ps top IR.2.1 ids 0
    have h12 := idsR_12 IR
    have h40 : ps.length ≤ 40 := IR.2.1.1.2.2
    unfold cnfI
    have hl : (nbsF 0 (ids.map (chF rs top))).length = ids.length := by rw [nbsF_len, List.length_map]
    have h1 := fm_len (fun b : List LNb => twoF (b.map fun e => e.2)) 9216 (nbsF 0 (ids.map (chF rs top))) (fun b hb => by
      have := twoF_len (b.map fun e => e.2)
      rw [List.length_map] at this
      have h2 : b.length * b.length ≤ 96 * 96 := Nat.mul_le_mul (hbs b hb) (hbs b hb)
      omega)
    have h2 := fm_len (besI ps ids (nbsF 0 (ids.map (chF rs top)))) 9216 ps (fun p _ => by
      unfold besI
      split
      · exact besF_len ps _ _ (getD_96 hbs _) (getD_96 hbs _)
      · simp)
    rw [hl] at h1
    rw [List.length_append, List.length_append, List.length_map, hl]
    omega
  · simp
theorem totC_96 (cs : List LCl) (h : ∀ r ∈ cs, r.2.length ≤ 96) : totC cs ≤ cs.length * 96 := by
  induction cs with
  | nil => simp [totC]
  | cons r t ih =>
    have h1 := h r (by simp)
    have h2 := ih (fun s hs => h s (by simp [hs]))
    rw [show totC (r :: t) = r.2.length + totC t by simp [totC], List.length_cons, Nat.add_mul]
    omega
theorem cnA_bare {rs rs' : List LSt} (ps : List LPr) (top : Int) (ids : List Int) (h : bareS rs = bareS rs') : cnA rs ps top ids = cnA rs' ps top ids := by
  unfold cnA
  rw [BIds ps ids h, show chF rs top = chF rs' top from funext fun id => by unfold chF; rw [flat_bare id top rs rs' h]]
theorem cnN_bare {rs rs' : List LSt} (ps : List LPr) (top : Int) (ids : List Int) (h : bareS rs = bareS rs') : cnN rs ps top ids = cnN rs' ps top ids := by
  unfold cnN
  rw [BIds ps ids h, plF_bare top ids h]
end Go.Proofs.Ytdmfljejlhlbnaa
