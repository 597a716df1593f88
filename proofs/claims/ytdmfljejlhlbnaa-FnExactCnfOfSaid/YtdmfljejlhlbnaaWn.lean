/-
  THE CLAUSES BY THE VARIABLES, step by step.
-/
import Derived.Test.YtdmfljejlhlbnaaWm
namespace Go.Proofs.Ytdmfljejlhlbnaa
open Go.RowKit
set_option linter.unusedVariables false

def ownL (id : Int) (V : List LPl) (m : Nat) : List Int := (ofId id ((nbF 0 V).take m)).map fun e => e.2
def ownA (V : List LPl) (id : Int) : List Int := (ofId id (nbF 0 V)).map fun e => e.2
theorem nb_take (V : List LPl) (m : Nat) (h : m < V.length) : (nbF 0 V).take (m + 1) = (nbF 0 V).take m ++ [(V[m], (m : Int) + 1)] := by
  have hl : m < (nbF 0 V).length := by rw [nbF_len]; exact h
  rw [List.take_succ_eq_append_getElem hl, nbF_at V 0 m h]
  simp
theorem ofId_one (id : Int) (e : LNb) : ofId id [e] = if e.1.1 = id then [e] else [] := by
  by_cases h : e.1.1 = id <;> simp [ofId, h]
theorem ownL_step (id : Int) (V : List LPl) (m : Nat) (h : m < V.length) : ownL id V (m + 1) = ownL id V m ++ if V[m].1 = id then [(m : Int) + 1] else [] := by
  unfold ownL
  rw [nb_take V m h, ofId_append, List.map_append, ofId_one]
  by_cases h : V[m].1 = id <;> simp [h]
theorem ownL_zero (id : Int) (V : List LPl) : ownL id V 0 = [] := by simp [ownL, ofId]
theorem ownL_all (id : Int) (V : List LPl) (m : Nat) (h : V.length ≤ m) : ownL id V m = ownA V id := by
  unfold ownL ownA; rw [List.take_of_length_le (by rw [nbF_len]; exact h)]
/-- The clauses of variable a, with the next m. -/
def twoL (V : List LPl) (a m : Nat) (x : Int) : List (List Int) := (ofId x (((nbF 0 V).drop (a + 1)).take m)).map fun y => [-(a : Int) - 1, -y.2]
theorem twoL_zero (V : List LPl) (a : Nat) (x : Int) : twoL V a 0 x = [] := by simp [twoL, ofId]
theorem twoL_step (V : List LPl) (a m : Nat) (x : Int) (h : a + 1 + m < V.length) : twoL V a (m + 1) x = twoL V a m x ++ if V[a + 1 + m].1 = x then [[-(a : Int) - 1, -((a + 1 + m : Nat) : Int) - 1]] else [] := by
  unfold twoL
  have hl : m < ((nbF 0 V).drop (a + 1)).length := by rw [List.length_drop, nbF_len]; omega
  rw [List.take_succ_eq_append_getElem hl, ofId_append, List.map_append, List.getElem_drop, nbF_at V 0 (a + 1 + m) h, ofId_one]
  by_cases g : V[a + 1 + m].1 = x
  · simp [g]; omega
  · simp [g]
theorem twoL_step' (V : List LPl) (a b : Nat) (x : Int) (h1 : a + 1 ≤ b) (h : b < V.length) : twoL V a (b + 1 - (a + 1)) x = twoL V a (b - (a + 1)) x ++ if V[b].1 = x then [[-(a : Int) - 1, -(b : Int) - 1]] else [] := by
  obtain ⟨m, rfl⟩ := Nat.exists_eq_add_of_le h1
  have := twoL_step V a m x h
  rw [show a + 1 + m + 1 - (a + 1) = m + 1 by omega, show a + 1 + m - (a + 1) = m by omega]
  exact this
theorem twoS_at (V : List LPl) (a : Nat) (h : a < V.length) (m : Nat) (hm : V.length ≤ a + 1 + m) : twoS ((nbF 0 V).drop a) = twoL V a m V[a].1 ++ twoS ((nbF 0 V).drop (a + 1)) := by
  have hl : a < (nbF 0 V).length := by rw [nbF_len]; exact h
  rw [← List.getElem_cons_drop (h := hl), twoS, nbF_at V 0 a h]
  unfold twoL
  rw [List.take_of_length_le (by rw [List.length_drop, nbF_len]; omega)]
  congr 1
  refine List.map_congr_left fun y _ => ?_
  simp; omega
/-- Two variables and a pair. -/
def besY (ps : List LPr) (p : LPr) (a : Nat) (x : LPl) (b : Nat) (y : LPl) : List (List Int) := if x.1 = p.1 ∧ y.1 = p.2.1 ∧ mayL ps p.1 x.2 p.2.1 y.2 = false then [[-(a : Int) - 1, -(b : Int) - 1]] else []
def besL (ps : List LPr) (p : LPr) (V : List LPl) (a : Nat) (x : LPl) (m : Nat) : List (List Int) := ((nbF 0 V).take m).flatMap fun y => if x.1 = p.1 ∧ y.1.1 = p.2.1 ∧ mayL ps p.1 x.2 p.2.1 y.1.2 = false then [[-(a : Int) - 1, -y.2]] else []
theorem besL_zero (ps : List LPr) (p : LPr) (V : List LPl) (a : Nat) (x : LPl) : besL ps p V a x 0 = [] := by simp [besL]
theorem besL_step (ps : List LPr) (p : LPr) (V : List LPl) (a : Nat) (x : LPl) (m : Nat) (h : m < V.length) : besL ps p V a x (m + 1) = besL ps p V a x m ++ besY ps p a x m V[m] := by
  unfold besL
  rw [nb_take V m h, List.flatMap_append]
  congr 1
  unfold besY
  by_cases g : x.1 = p.1 ∧ V[m].1 = p.2.1 ∧ mayL ps p.1 x.2 p.2.1 V[m].2 = false
  · simp [g]; omega
  · simp [g]
def besK (ps : List LPr) (p : LPr) (V : List LPl) (a : Nat) : List (List Int) := ((nbF 0 V).take a).flatMap fun x => (nbF 0 V).flatMap fun y => if x.1.1 = p.1 ∧ y.1.1 = p.2.1 ∧ mayL ps p.1 x.1.2 p.2.1 y.1.2 = false then [[-x.2, -y.2]] else []
theorem besK_zero (ps : List LPr) (p : LPr) (V : List LPl) : besK ps p V 0 = [] := by simp [besK]
theorem besK_step (ps : List LPr) (p : LPr) (V : List LPl) (a : Nat) (h : a < V.length) (m : Nat) (hm : V.length ≤ m) : besK ps p V (a + 1) = besK ps p V a ++ besL ps p V a V[a] m := by
  unfold besK
  rw [nb_take V a h, List.flatMap_append]
  congr 1
  unfold besL
  rw [List.take_of_length_le (show (nbF 0 V).length ≤ m by rw [nbF_len]; exact hm)]
  simp only [List.flatMap_cons, List.flatMap_nil, List.append_nil]
  refine flatMap_cong _ fun y _ => ?_
  rw [show -((a : Int) + 1) = -(a : Int) - 1 by omega]
theorem besK_all (ps : List LPr) (p : LPr) (V : List LPl) (m : Nat) (hm : V.length ≤ m) : besK ps p V m = besS ps (nbF 0 V) p := by
  unfold besK besS
  rw [List.take_of_length_le (show (nbF 0 V).length ≤ m by rw [nbF_len]; exact hm)]
theorem cnA_spec {rs : List LSt} {ps : List LPr} {ids : List Int} (top : Int) (h : IdsR rs ps ids) : cnA rs ps top ids = ids.map (ownA (plF rs top ids)) ++ (twoS (nbF 0 (plF rs top ids)) ++ ps.flatMap (besS ps (nbF 0 (plF rs top ids)))) := by
  unfold cnA
  rw [if_pos (B_yes h), cnf_both rs ps top ids (rises_nodup (idsR_rise h))]
  rfl
theorem cnA_no {rs : List LSt} {ps : List LPr} {ids : List Int} (top : Int) (h : ¬ IdsR rs ps ids) : cnA rs ps top ids = [] ∧ cnN rs ps top ids = 0 := by
  unfold cnA cnN
  rw [B_no h]
  simp
end Go.Proofs.Ytdmfljejlhlbnaa
