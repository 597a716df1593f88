/-
  A PURSUIT OF UNITS BY COUNTS AND MARKS, as lists: how many literals of each clause are not false, which places are marked; the first marked one is the first that is due.
-/
import Derived.Test.YtnihhbfgbilimaaGreatDoorVac
import Derived.Deep.LoopGhost
namespace Go.Proofs.YtnihhbfgbilimaaGreatDoor
open Go.RowKit
set_option linter.unusedVariables false

/-- Is one true? -/
def GdL (T l : List Int) : Prop := ∃ z ∈ l, val T z = 1
/-- The places of the clauses that have a literal. -/
def occ (css : List (List Int)) (z : Int) : List Nat := (List.range css.length).filter fun p => decide (z ∈ css.getD p [])
theorem occ_nil (z : Int) : occ [] z = [] := rfl
theorem occ_mem {css : List (List Int)} {z : Int} {p : Nat} : p ∈ occ css z ↔ p < css.length ∧ z ∈ css.getD p [] := by
  unfold occ
  rw [List.mem_filter, List.mem_range, decide_eq_true_iff]
theorem occ_nodup (css : List (List Int)) (z : Int) : (occ css z).Nodup := List.Pairwise.filter _ List.nodup_range
theorem occ_add (css : List (List Int)) (l : List Int) (z : Int) : occ (css ++ [l]) z = occ css z ++ if z ∈ l then [css.length] else [] := by
  unfold occ
  rw [List.length_append, List.length_singleton, List.range_succ, List.filter_append]
  congr 1
  · refine List.filter_congr (fun p hp => ?_)
    have hp' : p < css.length := List.mem_range.1 hp
    simp [List.getD_eq_getElem?_getD, List.getElem?_append_left hp']
  · by_cases h : z ∈ l <;> simp [h]
theorem val_push_same {T : List Int} {z : Int} : val (T ++ [z]) z = 1 := val_yes (by simp)
theorem val_push_neg {T : List Int} {z : Int} (h0 : z ≠ 0) (h2 : -z ∉ T) : val (T ++ [z]) (-z) = -1 := by
  refine val_neg (fun h => ?_) (by simp)
  rcases List.mem_append.1 h with g | g
  · exact h2 g
  · have := List.mem_singleton.1 g; omega
theorem val_push_other {T : List Int} {z x : Int} (h1 : x ≠ z) (h2 : x ≠ -z) : val (T ++ [z]) x = val T x := by
  refine val_iff ?_ ?_
  · rw [List.mem_append, List.mem_singleton]
    exact ⟨.inl, fun h => by
      rcases h with h | h
      · exact h
      · exact absurd h h1⟩
  · rw [List.mem_append, List.mem_singleton]
    exact ⟨.inl, fun h => by
      rcases h with h | h
      · exact h
      · omega⟩
theorem len_without {a : Int} : ∀ l : List Int, l.Nodup → (l.filter fun x => decide (x ≠ a)).length + (if a ∈ l then 1 else 0) = l.length
  | [], _ => by simp
  | x :: r, h => by
    rw [List.nodup_cons] at h
    have ih := len_without (a := a) r h.2
    by_cases e : x = a
    · subst e
      rw [List.filter_cons_of_neg (by simp)]
      rw [if_neg h.1] at ih
      simp only [List.mem_cons, true_or, if_true, List.length_cons]
      omega
    · rw [List.filter_cons_of_pos (by simpa using e)]
      have hm : (a ∈ x :: r) ↔ a ∈ r := by
        rw [List.mem_cons]
        exact ⟨fun g => g.resolve_left (fun q => e q.symm), .inr⟩
      simp only [hm, List.length_cons]
      omega
/-- What is left of a clause where a literal becomes true. -/
theorem nfl_push {T l : List Int} {z : Int} (hl : l.Nodup) (h0 : z ≠ 0) (h1 : z ∉ T) (h2 : -z ∉ T) : (nfl (T ++ [z]) l).length + (if -z ∈ l then 1 else 0) = (nfl T l).length := by
  have e : nfl (T ++ [z]) l = (nfl T l).filter fun x => decide (x ≠ -z) := by
    unfold nfl
    rw [List.filter_filter]
    refine List.filter_congr (fun x _ => ?_)
    by_cases g1 : x = -z
    · subst g1
      rw [val_push_neg h0 h2]
      simp
    · by_cases g2 : x = z
      · subst g2
        rw [val_push_same, val_no h1 h2]
        simp [g1]
      · rw [val_push_other g2 g1]
        simp [g1]
  have hn : (nfl T l).Nodup := List.Pairwise.filter _ hl
  have hm : (-z ∈ nfl T l) ↔ -z ∈ l := by
    unfold nfl
    rw [List.mem_filter]
    exact ⟨fun h => h.1, fun h => ⟨h, by rw [val_no h2 (by rwa [Int.neg_neg])]; simp⟩⟩
  have := len_without (a := -z) (nfl T l) hn
  rw [← e] at this
  by_cases g : -z ∈ l
  · rw [if_pos g]; rw [if_pos (hm.2 g)] at this; exact this
  · rw [if_neg g]; rw [if_neg (fun q => g (hm.1 q))] at this; exact this
theorem gd_push {T l : List Int} {z : Int} (h2 : -z ∉ T) (h : GdL T l) : GdL (T ++ [z]) l := by
  obtain ⟨x, hx, e⟩ := h
  have hxT : x ∈ T := by
    rcases val_cases T x with ⟨_, g⟩ | ⟨g, _⟩ | ⟨g, _⟩
    · exact g
    · omega
    · omega
  exact ⟨x, hx, val_yes (by simp [hxT])⟩
theorem due_skip (T : List Int) : ∀ (css : List (List Int)) (k p : Nat), p ≤ css.length → (∀ i (h : i < css.length), i < p → unitOf T css[i] = none) → dueL T k css = dueL T (k + p) (css.drop p)
  | css, k, 0, _, _ => by simp
  | [], k, p + 1, h, _ => by simp at h
  | a :: r, k, p + 1, hp, h => by
    have h0 := h 0 (by simp) (by omega)
    simp only [List.getElem_cons_zero] at h0
    have := due_skip T r (k + 1) p (by simpa using hp) (fun i hi hip => by
      have := h (i + 1) (by simpa using hi) (by omega)
      simpa using this)
    rw [List.drop_succ_cons, ← show k + 1 + p = k + (p + 1) by omega, ← this]
    rw [dueL]
    simp only [h0]
theorem due_first {T : List Int} {css : List (List Int)} {p : Nat} (hp : p < css.length) (h : ∀ i (h : i < css.length), i < p → unitOf T css[i] = none) {z : Int} (hu : unitOf T css[p] = some z) : dueL T 0 css = ((p : Int), z) := by
  rw [due_skip T css 0 p (by omega) h, Nat.zero_add, List.drop_eq_getElem_cons hp, dueL]
  simp only [hu]
theorem due_end {T : List Int} {css : List (List Int)} (h : ∀ i (h : i < css.length), unitOf T css[i] = none) : dueL T 0 css = (-1, 0) := by
  rw [due_skip T css 0 css.length (Nat.le_refl _) (fun i hi _ => h i hi), List.drop_length]
  rfl
/-- Counts and marks that fit a trail. -/
structure PI (css : List (List Int)) (T : List Int) (L : Nat → Int) (M : Nat → Bool) : Prop where
  left : ∀ p, p < css.length → L p = ((nfl T (css.getD p [])).length : Int)
  low : ∀ p, p < css.length → M p = true → L p < 2
  fine : ∀ p, p < css.length → M p = false → 2 ≤ L p ∨ GdL T (css.getD p [])
theorem PI.quiet {css : List (List Int)} {T : List Int} {L : Nat → Int} {M : Nat → Bool} (h : PI css T L M) {p : Nat} (hp : p < css.length) (hm : M p = false) : unitOf T css[p] = none := by
  have e : css.getD p [] = css[p] := by simp [List.getD_eq_getElem?_getD, hp]
  rcases h.fine p hp hm with g | g
  · have := h.left p hp
    rw [e] at this
    exact unit_two (by omega)
  · rw [e] at g
    obtain ⟨z, hz, hv⟩ := g
    exact unit_true hz hv
/-- No place is marked: nothing is due. -/
theorem PI.calm {css : List (List Int)} {T : List Int} {L : Nat → Int} {M : Nat → Bool} (h : PI css T L M) (hm : ∀ p, p < css.length → M p = false) : dueL T 0 css = (-1, 0) :=
  due_end (fun i hi => h.quiet hi (hm i hi))
/-- The first marked place has nothing left: it is due, and false. -/
theorem PI.wrong {css : List (List Int)} {T : List Int} {L : Nat → Int} {M : Nat → Bool} (h : PI css T L M) {p : Nat} (hp : p < css.length) (hf : ∀ i, i < p → M i = false) (h0 : nfl T css[p] = []) : dueL T 0 css = ((p : Int), 0) :=
  due_first hp (fun i hi hip => h.quiet hi (hf i hip)) (by unfold unitOf; rw [h0])
/-- The first marked place has one literal left, without a value: it is due. -/
theorem PI.unit {css : List (List Int)} {T : List Int} {L : Nat → Int} {M : Nat → Bool} (h : PI css T L M) {p : Nat} (hp : p < css.length) (hf : ∀ i, i < p → M i = false) {z : Int} (h1 : nfl T css[p] = [z]) (hv : val T z = 0) : dueL T 0 css = ((p : Int), z) :=
  due_first hp (fun i hi hip => h.quiet hi (hf i hip)) (by unfold unitOf; rw [h1]; simp [hv])
/-- A true clause needs no mark. -/
theorem PI.drop {css : List (List Int)} {T : List Int} {L : Nat → Int} {M : Nat → Bool} (h : PI css T L M) {p : Nat} (hg : GdL T (css.getD p [])) : PI css T L (fun q => if q = p then false else M q) :=
  ⟨h.left, fun q hq hm => by
    by_cases e : q = p
    · rw [if_pos e] at hm; cases hm
    · rw [if_neg e] at hm; exact h.low q hq hm, fun q hq hm => by
    by_cases e : q = p
    · subst e; exact .inr hg
    · rw [if_neg e] at hm; exact h.fine q hq hm⟩
/-- A literal becomes true: what has it turned round has one less left, and is marked where too little is. -/
theorem PI.push {css : List (List Int)} {T : List Int} {L : Nat → Int} {M : Nat → Bool} (h : PI css T L M) {z : Int} (hn : ∀ l ∈ css, l.Nodup) (h0 : z ≠ 0) (h1 : z ∉ T) (h2 : -z ∉ T) :
    PI css (T ++ [z]) (fun q => if -z ∈ css.getD q [] then L q - 1 else L q) (fun q => if -z ∈ css.getD q [] ∧ L q - 1 < 2 then true else M q) := by
  have key : ∀ p, p < css.length → ((nfl (T ++ [z]) (css.getD p [])).length : Int) = if -z ∈ css.getD p [] then L p - 1 else L p := fun p hp => by
    have hm : css.getD p [] ∈ css := by simp [List.getD_eq_getElem?_getD, hp]
    have := nfl_push (hn _ hm) h0 h1 h2
    have hl := h.left p hp
    by_cases g : -z ∈ css.getD p []
    · rw [if_pos g] at this ⊢; omega
    · rw [if_neg g] at this ⊢; omega
  refine ⟨fun p hp => (key p hp).symm, fun p hp hm => ?_, fun p hp hm => ?_⟩
  · by_cases g : -z ∈ css.getD p [] ∧ L p - 1 < 2
    · show (if -z ∈ css.getD p [] then L p - 1 else L p) < 2
      rw [if_pos g.1]; exact g.2
    · rw [if_neg g] at hm
      have := h.low p hp hm
      show (if -z ∈ css.getD p [] then L p - 1 else L p) < 2
      split <;> omega
  · by_cases g : -z ∈ css.getD p [] ∧ L p - 1 < 2
    · rw [if_pos g] at hm; cases hm
    · rw [if_neg g] at hm
      rcases h.fine p hp hm with q | q
      · left
        show 2 ≤ (if -z ∈ css.getD p [] then L p - 1 else L p)
        by_cases g1 : -z ∈ css.getD p []
        · rw [if_pos g1]
          have : ¬ L p - 1 < 2 := fun r => g ⟨g1, r⟩
          omega
        · rw [if_neg g1]; exact q
      · exact .inr (gd_push h2 q)

/-- Not yet struck: literals whose variable is behind v, or that are not false. -/
noncomputable def nfv (T : List Int) (v : Nat) (l : List Int) : List Int := l.filter fun z => decide (¬ (z.natAbs ≤ v ∧ val T z = -1))
theorem nfv_zero (T l : List Int) (h : ∀ z ∈ l, z ≠ 0) : nfv T 0 l = l := by
  unfold nfv
  rw [List.filter_eq_self]
  intro z hz
  have := h z hz
  simp only [decide_eq_true_eq]
  omega
theorem nfv_all {T l : List Int} {v : Nat} (h : ∀ z ∈ l, z.natAbs ≤ v) : nfv T v l = nfl T l := by
  unfold nfv nfl
  refine List.filter_congr (fun z hz => ?_)
  have h1 := h z hz
  rcases val_cases T z with ⟨e, _⟩ | ⟨e, _⟩ | ⟨e, _⟩ <;> simp [e, h1]
theorem nfv_same {T l : List Int} {v : Nat} (hc : Cons T) (h0 : val T ((v : Int) + 1) = 0) : nfv T (v + 1) l = nfv T v l := by
  unfold nfv
  refine List.filter_congr (fun z _ => ?_)
  by_cases e : z.natAbs = v + 1
  · have hv : val T z = 0 := by
      rcases (show z = (v : Int) + 1 ∨ z = -((v : Int) + 1) by omega) with g | g
      · rw [g]; exact h0
      · rw [g]
        have := val_minus hc ((v : Int) + 1)
        omega
    simp [hv]
  · have : z.natAbs ≤ v + 1 ↔ z.natAbs ≤ v := by omega
    simp [this]
theorem nfv_strike {T l : List Int} {v : Nat} (hc : Cons T) (hn : l.Nodup) {f : Int} (hf : f.natAbs = v + 1) (hv : val T f = -1) : (nfv T (v + 1) l).length + (if f ∈ l then 1 else 0) = (nfv T v l).length := by
  have e : nfv T (v + 1) l = (nfv T v l).filter fun x => decide (x ≠ f) := by
    unfold nfv
    rw [List.filter_filter]
    refine List.filter_congr (fun z _ => ?_)
    by_cases g : z = f
    · subst g
      simp [hv, hf]
    · by_cases g2 : z.natAbs = v + 1
      · have h3 : z = -f := by omega
        have h4 : val T z = 1 := by
          have := val_minus hc f
          rw [h3]; omega
        simp [g, h4]
      · have : z.natAbs ≤ v + 1 ↔ z.natAbs ≤ v := by omega
        simp [this, g]
  have hm : (f ∈ nfv T v l) ↔ f ∈ l := by
    unfold nfv
    rw [List.mem_filter]
    exact ⟨fun h => h.1, fun h => ⟨h, by simp only [decide_eq_true_eq]; omega⟩⟩
  have := len_without (a := f) (nfv T v l) (List.Pairwise.filter _ hn)
  rw [← e] at this
  by_cases g : f ∈ l
  · rw [if_pos g]; rw [if_pos (hm.2 g)] at this; exact this
  · rw [if_neg g]; rw [if_neg (fun q => g (hm.1 q))] at this; exact this
/-- Counts and marks while the values are struck, up to a variable. -/
structure PV (css : List (List Int)) (T : List Int) (v : Nat) (L : Nat → Int) (M : Nat → Bool) : Prop where
  left : ∀ p, p < css.length → L p = ((nfv T v (css.getD p [])).length : Int)
  mark : ∀ p, p < css.length → (M p = true ↔ L p < 2)
theorem PV.same {css : List (List Int)} {T : List Int} {v : Nat} {L : Nat → Int} {M : Nat → Bool} (h : PV css T v L M) (hc : Cons T) (h0 : val T ((v : Int) + 1) = 0) : PV css T (v + 1) L M :=
  ⟨fun p hp => by rw [nfv_same hc h0]; exact h.left p hp, h.mark⟩
theorem PV.strike {css : List (List Int)} {T : List Int} {v : Nat} {L : Nat → Int} {M : Nat → Bool} (h : PV css T v L M) (hc : Cons T) (hn : ∀ l ∈ css, l.Nodup) {f : Int} (hf : f.natAbs = v + 1) (hv : val T f = -1) :
    PV css T (v + 1) (fun q => if f ∈ css.getD q [] then L q - 1 else L q) (fun q => if f ∈ css.getD q [] ∧ L q - 1 < 2 then true else M q) := by
  refine ⟨fun p hp => ?_, fun p hp => ?_⟩
  · have hm : css.getD p [] ∈ css := by simp [List.getD_eq_getElem?_getD, hp]
    have := nfv_strike hc (hn _ hm) hf hv
    have hl := h.left p hp
    show (if f ∈ css.getD p [] then L p - 1 else L p) = _
    by_cases g : f ∈ css.getD p []
    · rw [if_pos g] at this ⊢; omega
    · rw [if_neg g] at this ⊢; omega
  · have hm := h.mark p hp
    show (if f ∈ css.getD p [] ∧ L p - 1 < 2 then true else M p) = true ↔ (if f ∈ css.getD p [] then L p - 1 else L p) < 2
    by_cases g : f ∈ css.getD p []
    · by_cases g2 : L p - 1 < 2
      · rw [if_pos ⟨g, g2⟩, if_pos g]; exact ⟨fun _ => g2, fun _ => rfl⟩
      · rw [if_neg (fun q => g2 q.2), if_pos g, hm]
        omega
    · rw [if_neg (fun q => g q.1), if_neg g, hm]
/-- All values struck. -/
theorem PV.fin {css : List (List Int)} {T : List Int} {v : Nat} {L : Nat → Int} {M : Nat → Bool} (h : PV css T v L M) (hw : ∀ l ∈ css, ∀ z ∈ l, z.natAbs ≤ v) : PI css T L M := by
  have hg : ∀ p, p < css.length → css.getD p [] ∈ css := fun p hp => by simp [List.getD_eq_getElem?_getD, hp]
  refine ⟨fun p hp => ?_, fun p hp hm => (h.mark p hp).1 hm, fun p hp hm => ?_⟩
  · rw [h.left p hp, nfv_all (hw _ (hg p hp))]
  · have : ¬ L p < 2 := fun q => by rw [(h.mark p hp).2 q] at hm; cases hm
    exact .inl (by omega)
end Go.Proofs.YtnihhbfgbilimaaGreatDoor
