import Derived.Test.YtnihhbfgbilimaaGreatDoorVac
import Derived.Deep.LoopGhost
import Derived.Test.YtnihhbfgbilimaaGreatDoorPq
import Derived.Deep.RegionLaw
namespace Go.Proofs.YtnihhbfgbilimaaGreatDoor
open Go.RowKit
set_option linter.unusedVariables false
def GdL (T l : List Int) : Prop := ∃ z ∈ l, val T z = 1
def occ (css : List (List Int)) (z : Int) : List Nat := (List.range css.length).filter fun p => decide (z ∈ css.getD p [])
theorem occ_nil (z : Int) : occ [] z = [] := rfl
theorem occ_mem {css : List (List Int)} {z : Int} {p : Nat} : p ∈ occ css z ↔ p < css.length ∧ z ∈ css.getD p [] := by
 unfold occ
 rw [List.mem_filter, List.mem_range, decide_eq_true_iff]
theorem occ_nodup (css : List (List Int)) (z : Int) : (occ css z).Nodup := List.Pairwise.filter _ List.nodup_range
theorem occ_add (css : List (List Int)) (l : List Int) (z : Int) : occ (css ++ [l]) z = occ css z ++ if z ∈ l then [css.length] else [] := by
 unfold occ
 rw [List.length_append, List.length_singleton, List.range_succ, List.filter_append]
 congr 1
 ·refine List.filter_congr (fun p hp => ?_)
  have hp' : p < css.length := List.mem_range.1 hp
  simp [List.getD_eq_getElem?_getD, List.getElem?_append_left hp']
 ·by_cases h : z ∈ l <;> simp [h]
theorem val_push_same {T : List Int} {z : Int} : val (T ++ [z]) z = 1 := val_yes (by simp)
theorem val_push_neg {T : List Int} {z : Int} (h0 : z ≠ 0) (h2 : -z ∉ T) : val (T ++ [z]) (-z) = -1 := by
 refine val_neg (fun h => ?_) (by simp)
 rcases List.mem_append.1 h with g | g
 ·exact h2 g
 ·have := List.mem_singleton.1 g; omega
theorem val_push_other {T : List Int} {z x : Int} (h1 : x ≠ z) (h2 : x ≠ -z) : val (T ++ [z]) x = val T x := by
 refine val_iff ?_ ?_
 ·rw [List.mem_append, List.mem_singleton]
  exact ⟨.inl, fun h => by
   rcases h with h | h
   ·exact h
   ·exact absurd h h1⟩
 ·rw [List.mem_append, List.mem_singleton]
  exact ⟨.inl, fun h => by
   rcases h with h | h
   ·exact h
   ·omega⟩
theorem len_without {a : Int} : ∀ l : List Int, l.Nodup → (l.filter fun x => decide (x ≠ a)).length + (if a ∈ l then 1 else 0) = l.length
 | [], _ => by simp
 | x :: r, h => by
  rw [List.nodup_cons] at h
  have ih := len_without (a := a) r h.2
  by_cases e : x = a
  ·subst e
   rw [List.filter_cons_of_neg (by simp)]
   rw [if_neg h.1] at ih
   simp only [List.mem_cons, true_or, if_true, List.length_cons]
   omega
  ·rw [List.filter_cons_of_pos (by simpa using e)]
   have hm : (a ∈ x :: r) ↔ a ∈ r := by
    rw [List.mem_cons]
    exact ⟨fun g => g.resolve_left (fun q => e q.symm), .inr⟩
   simp only [hm, List.length_cons]
   omega
theorem nfl_push {T l : List Int} {z : Int} (hl : l.Nodup) (h0 : z ≠ 0) (h1 : z ∉ T) (h2 : -z ∉ T) : (nfl (T ++ [z]) l).length + (if -z ∈ l then 1 else 0) = (nfl T l).length := by
 have e : nfl (T ++ [z]) l = (nfl T l).filter fun x => decide (x ≠ -z) := by
  unfold nfl
  rw [List.filter_filter]
  refine List.filter_congr (fun x _ => ?_)
  by_cases g1 : x = -z
  ·subst g1
   rw [val_push_neg h0 h2]
   simp
  ·by_cases g2 : x = z
   ·subst g2
    rw [val_push_same, val_no h1 h2]
    simp [g1]
   ·rw [val_push_other g2 g1]
    simp [g1]
 have hn : (nfl T l).Nodup := List.Pairwise.filter _ hl
 have hm : (-z ∈ nfl T l) ↔ -z ∈ l := by
  unfold nfl
  rw [List.mem_filter]
  exact ⟨fun h => h.1, fun h => ⟨h, by rw [val_no h2 (by rwa [Int.neg_neg])]; simp⟩⟩
 have := len_without (a := -z) (nfl T l) hn
 rw [← e] at this
 by_cases g : -z ∈ l
 ·rw [if_pos g]; rw [if_pos (hm.2 g)] at this; exact this
 ·rw [if_neg g]; rw [if_neg (fun q => g (hm.1 q))] at this; exact this
theorem gd_push {T l : List Int} {z : Int} (h2 : -z ∉ T) (h : GdL T l) : GdL (T ++ [z]) l := by
 obtain ⟨x, hx, e⟩ := h
 have hxT : x ∈ T := by
  rcases val_cases T x with ⟨_, g⟩ | ⟨g, _⟩ | ⟨g, _⟩
  ·exact g
  ·omega
  ·omega
 exact ⟨x, hx, val_yes (by simp [hxT])⟩
theorem due_skip (T : List Int) : ∀ (css : List (List Int)) (k p : Nat), p ≤ css.length → (∀ i (h : i < css.length), i < p → unitOf T css[i] = none) → dueL T k css = dueL T (k + p) (css.drop p)
 | css, k, 0, _, _ => by simp
 | [], k, p + 1, h, _ => by simp at h
 | a :: r, k, p + 1, hp, h => by
  have h0 := h 0 (by simp) (by omega)
  simp only [List.getElem_cons_zero] at h0
  have := due_skip T r (k + 1) p (by simpa using hp) (fun i hi hip => by
   have := h (i + 1) (by simpa using hi) (by omega)
   simpa using this)
  rw [List.drop_succ_cons, ← show k + 1 + p = k + (p + 1) by omega, ← this]
  rw [dueL]
  simp only [h0]
theorem due_first {T : List Int} {css : List (List Int)} {p : Nat} (hp : p < css.length) (h : ∀ i (h : i < css.length), i < p → unitOf T css[i] = none) {z : Int} (hu : unitOf T css[p] = some z) : dueL T 0 css = ((p : Int), z) := by
 rw [due_skip T css 0 p (by omega) h, Nat.zero_add, List.drop_eq_getElem_cons hp, dueL]
 simp only [hu]
theorem due_end {T : List Int} {css : List (List Int)} (h : ∀ i (h : i < css.length), unitOf T css[i] = none) : dueL T 0 css = (-1, 0) := by
 rw [due_skip T css 0 css.length (Nat.le_refl _) (fun i hi _ => h i hi), List.drop_length]
 rfl
structure PI (css : List (List Int)) (T : List Int) (L : Nat → Int) (M : Nat → Bool) : Prop where
 left : ∀ p, p < css.length → L p = ((nfl T (css.getD p [])).length : Int)
 low : ∀ p, p < css.length → M p = true → L p < 2
 fine : ∀ p, p < css.length → M p = false → 2 ≤ L p ∨ GdL T (css.getD p [])
theorem PI.quiet {css : List (List Int)} {T : List Int} {L : Nat → Int} {M : Nat → Bool} (h : PI css T L M) {p : Nat} (hp : p < css.length) (hm : M p = false) : unitOf T css[p] = none := by
 have e : css.getD p [] = css[p] := by simp [List.getD_eq_getElem?_getD, hp]
 rcases h.fine p hp hm with g | g
 ·have := h.left p hp
  rw [e] at this
  exact unit_two (by omega)
 ·rw [e] at g
  obtain ⟨z, hz, hv⟩ := g
  exact unit_true hz hv
theorem PI.calm {css : List (List Int)} {T : List Int} {L : Nat → Int} {M : Nat → Bool} (h : PI css T L M) (hm : ∀ p, p < css.length → M p = false) : dueL T 0 css = (-1, 0) :=
 due_end (fun i hi => h.quiet hi (hm i hi))
theorem PI.wrong {css : List (List Int)} {T : List Int} {L : Nat → Int} {M : Nat → Bool} (h : PI css T L M) {p : Nat} (hp : p < css.length) (hf : ∀ i, i < p → M i = false) (h0 : nfl T css[p] = []) : dueL T 0 css = ((p : Int), 0) :=
 due_first hp (fun i hi hip => h.quiet hi (hf i hip)) (by unfold unitOf; rw [h0])
theorem PI.unit {css : List (List Int)} {T : List Int} {L : Nat → Int} {M : Nat → Bool} (h : PI css T L M) {p : Nat} (hp : p < css.length) (hf : ∀ i, i < p → M i = false) {z : Int} (h1 : nfl T css[p] = [z]) (hv : val T z = 0) : dueL T 0 css = ((p : Int), z) :=
 due_first hp (fun i hi hip => h.quiet hi (hf i hip)) (by unfold unitOf; rw [h1]; simp [hv])
theorem PI.drop {css : List (List Int)} {T : List Int} {L : Nat → Int} {M : Nat → Bool} (h : PI css T L M) {p : Nat} (hg : GdL T (css.getD p [])) : PI css T L (fun q => if q = p then false else M q) :=
 ⟨h.left, fun q hq hm => by
  by_cases e : q = p
  ·rw [if_pos e] at hm; cases hm
  ·rw [if_neg e] at hm; exact h.low q hq hm, fun q hq hm => by
  by_cases e : q = p
  ·subst e; exact .inr hg
  ·rw [if_neg e] at hm; exact h.fine q hq hm⟩
theorem PI.push {css : List (List Int)} {T : List Int} {L : Nat → Int} {M : Nat → Bool} (h : PI css T L M) {z : Int} (hn : ∀ l ∈ css, l.Nodup) (h0 : z ≠ 0) (h1 : z ∉ T) (h2 : -z ∉ T) :
  PI css (T ++ [z]) (fun q => if -z ∈ css.getD q [] then L q - 1 else L q) (fun q => if -z ∈ css.getD q [] ∧ L q - 1 < 2 then true else M q) := by
 have key : ∀ p, p < css.length → ((nfl (T ++ [z]) (css.getD p [])).length : Int) = if -z ∈ css.getD p [] then L p - 1 else L p := fun p hp => by
  have hm : css.getD p [] ∈ css := by simp [List.getD_eq_getElem?_getD, hp]
  have := nfl_push (hn _ hm) h0 h1 h2
  have hl := h.left p hp
  by_cases g : -z ∈ css.getD p []
  ·rw [if_pos g] at this ⊢; omega
  ·rw [if_neg g] at this ⊢; omega
 refine ⟨fun p hp => (key p hp).symm, fun p hp hm => ?_, fun p hp hm => ?_⟩
 ·by_cases g : -z ∈ css.getD p [] ∧ L p - 1 < 2
  ·show (if -z ∈ css.getD p [] then L p - 1 else L p) < 2
   rw [if_pos g.1]; exact g.2
  ·rw [if_neg g] at hm
   have := h.low p hp hm
   show (if -z ∈ css.getD p [] then L p - 1 else L p) < 2
   split <;> omega
 ·by_cases g : -z ∈ css.getD p [] ∧ L p - 1 < 2
  ·rw [if_pos g] at hm; cases hm
  ·rw [if_neg g] at hm
   rcases h.fine p hp hm with q | q
   ·left
    show 2 ≤ (if -z ∈ css.getD p [] then L p - 1 else L p)
    by_cases g1 : -z ∈ css.getD p []
    ·rw [if_pos g1]
     have : ¬ L p - 1 < 2 := fun r => g ⟨g1, r⟩
     omega
    ·rw [if_neg g1]; exact q
   ·exact .inr (gd_push h2 q)
noncomputable def nfv (T : List Int) (v : Nat) (l : List Int) : List Int := l.filter fun z => decide (¬ (z.natAbs ≤ v ∧ val T z = -1))
theorem nfv_zero (T l : List Int) (h : ∀ z ∈ l, z ≠ 0) : nfv T 0 l = l := by
 unfold nfv
 rw [List.filter_eq_self]
 intro z hz
 have := h z hz
 simp only [decide_eq_true_eq]
 omega
theorem nfv_all {T l : List Int} {v : Nat} (h : ∀ z ∈ l, z.natAbs ≤ v) : nfv T v l = nfl T l := by
 unfold nfv nfl
 refine List.filter_congr (fun z hz => ?_)
 have h1 := h z hz
 rcases val_cases T z with ⟨e, _⟩ | ⟨e, _⟩ | ⟨e, _⟩ <;> simp [e, h1]
theorem nfv_same {T l : List Int} {v : Nat} (hc : Cons T) (h0 : val T ((v : Int) + 1) = 0) : nfv T (v + 1) l = nfv T v l := by
 unfold nfv
 refine List.filter_congr (fun z _ => ?_)
 by_cases e : z.natAbs = v + 1
 ·have hv : val T z = 0 := by
   rcases (show z = (v : Int) + 1 ∨ z = -((v : Int) + 1) by omega) with g | g
   ·rw [g]; exact h0
   ·rw [g]
    have := val_minus hc ((v : Int) + 1)
    omega
  simp [hv]
 ·have : z.natAbs ≤ v + 1 ↔ z.natAbs ≤ v := by omega
  simp [this]
theorem nfv_strike {T l : List Int} {v : Nat} (hc : Cons T) (hn : l.Nodup) {f : Int} (hf : f.natAbs = v + 1) (hv : val T f = -1) : (nfv T (v + 1) l).length + (if f ∈ l then 1 else 0) = (nfv T v l).length := by
 have e : nfv T (v + 1) l = (nfv T v l).filter fun x => decide (x ≠ f) := by
  unfold nfv
  rw [List.filter_filter]
  refine List.filter_congr (fun z _ => ?_)
  by_cases g : z = f
  ·subst g
   simp [hv, hf]
  ·by_cases g2 : z.natAbs = v + 1
   ·have h3 : z = -f := by omega
    have h4 : val T z = 1 := by
     have := val_minus hc f
     rw [h3]; omega
    simp [g, h4]
   ·have : z.natAbs ≤ v + 1 ↔ z.natAbs ≤ v := by omega
    simp [this, g]
 have hm : (f ∈ nfv T v l) ↔ f ∈ l := by
  unfold nfv
  rw [List.mem_filter]
  exact ⟨fun h => h.1, fun h => ⟨h, by simp only [decide_eq_true_eq]; omega⟩⟩
 have := len_without (a := f) (nfv T v l) (List.Pairwise.filter _ hn)
 rw [← e] at this
 by_cases g : f ∈ l
 ·rw [if_pos g]; rw [if_pos (hm.2 g)] at this; exact this
 ·rw [if_neg g]; rw [if_neg (fun q => g (hm.1 q))] at this; exact this
structure PV (css : List (List Int)) (T : List Int) (v : Nat) (L : Nat → Int) (M : Nat → Bool) : Prop where
 left : ∀ p, p < css.length → L p = ((nfv T v (css.getD p [])).length : Int)
 mark : ∀ p, p < css.length → (M p = true ↔ L p < 2)
theorem PV.same {css : List (List Int)} {T : List Int} {v : Nat} {L : Nat → Int} {M : Nat → Bool} (h : PV css T v L M) (hc : Cons T) (h0 : val T ((v : Int) + 1) = 0) : PV css T (v + 1) L M :=
 ⟨fun p hp => by rw [nfv_same hc h0]; exact h.left p hp, h.mark⟩
theorem PV.strike {css : List (List Int)} {T : List Int} {v : Nat} {L : Nat → Int} {M : Nat → Bool} (h : PV css T v L M) (hc : Cons T) (hn : ∀ l ∈ css, l.Nodup) {f : Int} (hf : f.natAbs = v + 1) (hv : val T f = -1) :
  PV css T (v + 1) (fun q => if f ∈ css.getD q [] then L q - 1 else L q) (fun q => if f ∈ css.getD q [] ∧ L q - 1 < 2 then true else M q) := by
 refine ⟨fun p hp => ?_, fun p hp => ?_⟩
 ·have hm : css.getD p [] ∈ css := by simp [List.getD_eq_getElem?_getD, hp]
  have := nfv_strike hc (hn _ hm) hf hv
  have hl := h.left p hp
  show (if f ∈ css.getD p [] then L p - 1 else L p) = _
  by_cases g : f ∈ css.getD p []
  ·rw [if_pos g] at this ⊢; omega
  ·rw [if_neg g] at this ⊢; omega
 ·have hm := h.mark p hp
  show (if f ∈ css.getD p [] ∧ L p - 1 < 2 then true else M p) = true ↔ (if f ∈ css.getD p [] then L p - 1 else L p) < 2
  by_cases g : f ∈ css.getD p []
  ·by_cases g2 : L p - 1 < 2
   ·rw [if_pos ⟨g, g2⟩, if_pos g]; exact ⟨fun _ => g2, fun _ => rfl⟩
   ·rw [if_neg (fun q => g2 q.2), if_pos g, hm]
    omega
  ·rw [if_neg (fun q => g q.1), if_neg g, hm]
theorem PV.fin {css : List (List Int)} {T : List Int} {v : Nat} {L : Nat → Int} {M : Nat → Bool} (h : PV css T v L M) (hw : ∀ l ∈ css, ∀ z ∈ l, z.natAbs ≤ v) : PI css T L M := by
 have hg : ∀ p, p < css.length → css.getD p [] ∈ css := fun p hp => by simp [List.getD_eq_getElem?_getD, hp]
 refine ⟨fun p hp => ?_, fun p hp hm => (h.mark p hp).1 hm, fun p hp hm => ?_⟩
 ·rw [h.left p hp, nfv_all (hw _ (hg p hp))]
 ·have : ¬ L p < 2 := fun q => by rw [(h.mark p hp).2 q] at hm; cases hm
  exact .inl (by omega)
set_option linter.unusedSimpArgs false
theorem step_append_run {P : Program} {ops : Array Oper} {o : Oper} {a : Act} {w : World} {K : Act → World → Prop} {Q : Exit → Act → World → Prop} {E : Prop}
  (hg : o.guard = none) (s x : Operand) (t : TypeId) (hop : o.op = Op.call { callee := Callee.builtin Builtin.append, args := #[s, x], argTypes := #[t, t] })
  (vs vx v9 : Value) (w9 : World) (hs : a.eval s = vs) (hx : a.eval x = vx) (hrun : (Builtin.append_ #[t, t] o.type #[vs, vx]).run P w = .ok v9 w9)
  (hK : K (a.put o.dst v9) w9) :
  if Region.wanted o (yielded ops a.tmps) = true then Oper.wp P o a w K Q else E := by
 have hw : Region.wanted o (yielded ops a.tmps) = true := by simp [Region.wanted, hg]
 rw [if_pos hw]
 unfold Oper.wp
 simp [execOp, hop, resolve, invoke, builtin, hs, hx, hrun, Result.andThen]
 exact hK
def occI (css : List (List Int)) (i : Nat) : List Nat := occ css ((i : Int) - 96)
def occK (css : List (List Int)) (l : List Int) (k i : Nat) : List Nat := occI css i ++ if ((i : Int) - 96) ∈ l.take k then [css.length] else []
theorem occK_zero (css : List (List Int)) (l : List Int) (i : Nat) : occK css l 0 i = occI css i := by simp [occK]
theorem occK_end (css : List (List Int)) (l : List Int) (k i : Nat) (h : l.length ≤ k) : occK css l k i = occI (css ++ [l]) i := by
 unfold occK occI
 rw [List.take_of_length_le h, occ_add]
theorem occ_le (css : List (List Int)) (z : Int) : (occ css z).length ≤ css.length := by
 unfold occ
 have := List.length_filter_le (fun p => decide (z ∈ css.getD p [])) (List.range css.length)
 simpa using this
theorem occK_step {css : List (List Int)} {l : List Int} {k : Nat} (hk : k < l.length) (hn : l.Nodup) {i0 : Nat} (hi : l.getD k 0 + 96 = (i0 : Int)) (i : Nat) : (if i = i0 then occI css i0 ++ [css.length] else occK css l k i) = occK css l (k + 1) i := by
 have e1 : l.take (k + 1) = l.take k ++ [l.getD k 0] := take_one l k hk
 unfold occK
 rw [e1]
 by_cases e : i = i0
 ·subst e
  rw [if_pos rfl, if_pos (by rw [List.mem_append]; right; rw [List.mem_singleton]; omega)]
 ·rw [if_neg e]
  have : ((i : Int) - 96 ∈ l.take k ++ [l.getD k 0]) ↔ ((i : Int) - 96 ∈ l.take k) := by
   rw [List.mem_append, List.mem_singleton]
   exact ⟨fun h => h.resolve_right (by omega), .inl⟩
  simp only [this]
theorem occK_now {css : List (List Int)} {l : List Int} {k : Nat} (hk : k < l.length) (hn : l.Nodup) {i0 : Nat} (hi : l.getD k 0 + 96 = (i0 : Int)) : occK css l k i0 = occI css i0 := by
 unfold occK
 rw [if_neg, List.append_nil]
 intro h
 rw [show (i0 : Int) - 96 = l.getD k 0 by omega, show l.getD k 0 = l[k] by simp [List.getD_eq_getElem?_getD, hk]] at h
 obtain ⟨j, hj, e⟩ := List.getElem_of_mem h
 rw [List.length_take] at hj
 rw [List.getElem_take] at e
 exact (List.pairwise_iff_getElem.1 hn) j k (by omega) hk (by omega) e
set_option maxRecDepth 100000 in
set_option maxHeartbeats 4000000 in
theorem add_any {B bb : Nat} {vc : Value} {hs : List Value} {ms : List LCl} (sl : Option Addr) (cap : Nat) (l : List Int) (w : World) (h : Bk B bb vc hs ms (occI (bareC ms)) w) (hBw : B ≤ w.heap.size) (hms : ms.length ≤ 90000) (hl : l.length ≤ 1000) (hw : ∀ z ∈ l, -96 ≤ z ∧ z ≤ 96) (hnd : l.Nodup) (hi : ∀ W, OnlyK B w W → Ints W sl l) :
  Calls Tryz.prog 192 #[.pointer (some ⟨bb, 0, none⟩), .slice sl l.length cap] w fun e w' => e = .returned (.tuple #[]) ∧ (∃ vc' hs', Bk B bb vc' hs' (ms ++ [(.slice sl l.length cap, l)]) (occI (bareC ms ++ [l])) w') ∧ OnlyK B w w' := by
 have HI := Lib.hid hi
 have HB := Lib.hid h
 obtain ⟨cs, ck, rfl⟩ := own_v h.rc
 have ST := Lib.hid (show ∀ k hs' wr, k < l.length → Bk B bb (.slice cs ms.length ck) hs' ms (occK (bareC ms) l k) wr → OnlyK B w wr → B ≤ wr.heap.size → ∃ (z : Int) (i0 : Nat) (c o : Nat) (s0 : Option Addr) (k0 n0 : Nat) (s9 : Option Addr) (k9 n9 : Nat) (w9 : World), sl = some ⟨c, o, none⟩ ∧ c < wr.heap.size ∧ wr.cell? ⟨c, o + k, none⟩ = some (.int .i64 z) ∧ z + 96 = (i0 : Int) ∧ i0 < 193 ∧ -96 ≤ z ∧ z ≤ 96 ∧ bb < wr.heap.size ∧ wr.cell? ⟨bb, 0, none⟩ = some (.slice cs ms.length ck) ∧ wr.cell? ⟨bb, 1 + i0, none⟩ = some (.slice s0 n0 k0) ∧
   (Builtin.append_ #[238, 238] 238 #[.slice s0 n0 k0, .slice (some ⟨wr.heap.size, 0, none⟩) 1 1]).run Tryz.prog (wr.drew.alloc (.cells #[.int .i64 (ms.length : Int)] 3)) = .ok (.slice s9 n9 k9) w9 ∧ bb < w9.heap.size ∧ (∃ v, w9.cell? ⟨bb, 1 + i0, none⟩ = some v) ∧ w9.frozen? ⟨bb, 1 + i0, none⟩ = false ∧ (∃ hs'', Bk B bb (.slice cs ms.length ck) hs'' ms (occK (bareC ms) l (k + 1)) (w9.setCell ⟨bb, 1 + i0, none⟩ (.slice s9 n9 k9))) ∧ OnlyK B w (w9.setCell ⟨bb, 1 + i0, none⟩ (.slice s9 n9 k9)) from fun k hs' wr hk hbk hok hBr => by
  have hz := hw (l.getD k 0) (by simp [hk])
  obtain ⟨i0, hi0⟩ : ∃ i0 : Nat, l.getD k 0 + 96 = (i0 : Int) := ⟨(l.getD k 0 + 96).toNat, by omega⟩
  have hi3 : i0 < 193 := by omega
  rcases HI.out wr hok with e | ⟨c, o, rfl, hc, hcell⟩
  ·rw [e] at hk; simp at hk
  ·have hcell' := hcell k hk
   have hA := (hbk.below (below_drew' wr)).below (bA0 wr.drew (.cells #[.int .i64 (ms.length : Int)] 3))
   have hr := hA.row i0 hi3
   rw [occK_now hk hnd hi0] at hr
   have hsz : (wr.drew.alloc (.cells #[.int .i64 (ms.length : Int)] 3)).heap.size = wr.heap.size + 1 := by simp
   obtain ⟨v9, w9, ha, ow, gr, hj⟩ := appN hr ms.length wr.heap.size (cell_at_new wr.drew _ 3) (by omega) (by have := occ_le (bareC ms) ((i0 : Int) - 96); rw [bareC_length] at this; unfold occI; omega)
   obtain ⟨s9, k9, rfl⟩ := own_v ow
   obtain ⟨s0, k0, e0⟩ := own_v hr
   have P := hA.put hi3 gr ow hj
   have hne : (hs'.getD i0 nilV).ownBlock ≠ some bb := fun e => by
    obtain ⟨cur, hc⟩ := own_kind hr e
    rw [hA.blk] at hc
    cases hc
   have hblk9 : w9.heap[bb]? = some (.cells (.slice cs ms.length ck :: hs').toArray 241) := (gr.block bb hA.lt (fun e => hne e.symm)).trans hA.blk
   have K9 : OnlyK B w w9 := (hok.trans ((OnlyK.of_below (below_drew' wr)).trans (OnlyK.of_below (bA0 _ _)))).trans (OnlyK.grown hr (Nat.le_refl _) (.inr rfl) gr)
   have hat := hbk.at hi3
   rw [e0] at hat
   have ha' := ha 238
   rw [e0] at ha'
   refine ⟨l.getD k 0, i0, c, o, s0, k0, (occI (bareC ms) i0).length, s9, k9, _, w9, rfl, hc, hcell', hi0, hi3, hz.1, hz.2, hbk.lt, hbk.facts.2.1, hat, ha', (Array.getElem?_eq_some_iff.1 hblk9).1, ⟨hs'.getD i0 nilV, ?_⟩, by simp [World.frozen?, hblk9], ⟨_, P.rows_eq (fun i hi => ?_)⟩, K9.trans (OnlyK.set h.hb hblk9 _)⟩
   ·have hl3 : i0 < hs'.length := by rw [hbk.len]; exact hi3
    have : w9.cell? ⟨bb, 1 + i0, none⟩ = (Value.slice cs ms.length ck :: hs')[1 + i0]? := by simp [World.cell?, hblk9]
    rw [this, Nat.add_comm, List.getElem?_cons_succ, List.getElem?_eq_getElem hl3]
    simp [List.getD_eq_getElem?_getD, hl3]
   ·have := occK_step (css := bareC ms) hk hnd hi0 i
    rw [bareC_length] at this
    exact this)
 have FI := Lib.hid (show ∀ hs' wr, Bk B bb (.slice cs ms.length ck) hs' ms (occK (bareC ms) l l.length) wr → OnlyK B w wr → ∃ (s9 : Option Addr) (k9 : Nat) (w9 : World), bb < wr.heap.size ∧ wr.cell? ⟨bb, 0, none⟩ = some (.slice cs ms.length ck) ∧
   (Builtin.append_ #[237, 237] 237 #[.slice cs ms.length ck, .slice (some ⟨wr.heap.size, 0, none⟩) 1 1]).run Tryz.prog (wr.alloc (.cells #[.slice sl l.length cap] 289)) = .ok (.slice s9 (ms.length + 1) k9) w9 ∧ bb < w9.heap.size ∧ (∃ v, w9.cell? ⟨bb, 0, none⟩ = some v) ∧ w9.frozen? ⟨bb, 0, none⟩ = false ∧ ((∃ vc' hs'', Bk B bb vc' hs'' (ms ++ [(.slice sl l.length cap, l)]) (occI (bareC ms ++ [l])) (w9.setCell ⟨bb, 0, none⟩ (.slice s9 (ms.length + 1) k9))) ∧ OnlyK B w (w9.setCell ⟨bb, 0, none⟩ (.slice s9 (ms.length + 1) k9))) from fun hs' wr hbk hok => by
  have hA := hbk.below (bA0 wr (.cells #[.slice sl l.length cap] 289))
  have hr := hA.rc
  have hsz : (wr.alloc (.cells #[.slice sl l.length cap] 289)).heap.size = wr.heap.size + 1 := by simp
  have hBr := hok.size
  rw [← hdC_len ms] at hr
  obtain ⟨v9, w9, ha, ow, gr⟩ := appK hr (.slice sl l.length cap) rfl wr.heap.size (cell_at_new wr _ 289) (by omega) (by rw [hdC_len]; omega)
  obtain ⟨s9, k9, rfl⟩ := own_v ow
  rw [hdC_len] at ha ow gr hr
  have P := hA.clause (r := (.slice sl l.length cap, l)) gr ow
  have hne : (Value.slice cs ms.length ck).ownBlock ≠ some bb := fun e => by
   obtain ⟨cur, hc⟩ := own_kind hA.rc e
   rw [hA.blk] at hc
   cases hc
  have hblk9 : w9.heap[bb]? = some (.cells (.slice cs ms.length ck :: hs').toArray 241) := (gr.block bb hA.lt (fun e => hne e.symm)).trans hA.blk
  have K9 : OnlyK B w w9 := (hok.trans (OnlyK.of_below (bA0 _ _))).trans (OnlyK.grown hA.rc (Nat.le_refl _) (.inl rfl) gr)
  exact ⟨s9, k9, w9, hbk.lt, hbk.facts.2.1, ha 237, (Array.getElem?_eq_some_iff.1 hblk9).1, ⟨_, by simp [World.cell?, hblk9]; rfl⟩, by simp [World.frozen?, hblk9], ⟨⟨_, _, P.rows_eq (fun i hi => occK_end _ _ _ _ (Nat.le_refl _))⟩, K9.trans (OnlyK.set h.hb hblk9 _)⟩⟩)
 have R0 : Hid (Bk B bb (.slice cs ms.length ck) hs ms (occK (bareC ms) l 0) w) := h.rows_eq (fun i _ => (occK_zero _ _ i).symm)
 have LN := hl
 clear hi HI h hw hnd HB hl hms
 generalize l.length = n at *
 generalize ms.length = mn at *
 go_enter Tryz.func192, Tryz.ntmps192
 go_wp2
 go_loopw [8] (fun a wr => ∃ (k : Nat) (y : Int) (hs' : List Value), a = .int .i64 y ∧ Hid (y = (k : Int) ∧ k ≤ n) ∧ Hid (Bk B bb (.slice cs mn ck) hs' ms (occK (bareC ms) l k) wr) ∧ Hid (OnlyK B w wr)) (fun a _ => ((n : Int) - intOf a).toNat)
 case atStart => exact ⟨0, 0, hs, rfl, ⟨rfl, Nat.zero_le _⟩, R0, OnlyK.refl _ _⟩
 case round =>
  obtain ⟨k, y, hs', rfl, HK, G1, T1⟩ := hrel
  clear R0
  by_cases hk : k < n
  ·have hlt : y < (n : Int) := by have := HK.out.1; omega
   have hy0 : 0 ≤ y := by have := HK.out.1; omega
   obtain ⟨z, i0, c, o, s0, k0, n0, s9, k9, n9, w9, hsl, hc, hcell, hzi, hi3, hz1, hz2, hbl, hb0, hbi, ha, hb9, ⟨v9, hv9⟩, hf9, ⟨hs2, hbk2⟩, hok2⟩ := ST.out k hs' wr hk G1.out T1.out (Nat.le_trans hBw T1.out.size)
   subst hsl
   have hyk : y.toNat = k := by have := HK.out.1; omega
   have hc2 : wr.cell? ⟨c, o + y.toNat, none⟩ = some (.int .i64 z) := by rw [hyk]; exact hcell
   have hi0 : i0 = (z + 96).toNat := by omega
   subst hi0
   have hw96 : wrap64 (z + 96) = z + 96 := wrap_in _ ⟨by omega, by omega⟩
   have hw97 : IntKind.i64.wrap (z + 96) = z + 96 := by rw [IntKind.wrap_i64]; omega
   have hi1 : 0 ≤ z + 96 := by omega
   have hi2 : z + 96 < 193 := by omega
   have ha2 : (Builtin.append_ #[238, 238] 238 #[.slice s0 n0 k0, .slice (some ⟨wr.heap.size, 0, none⟩) 1 1]).run Tryz.prog (wr.alloc (.cells #[.int .i64 (mn : Int)] 3)).drew = .ok (.slice s9 n9 k9) w9 := ha
   have hwy : wrap64 (y + 1) = y + 1 := wrap_in _ ⟨by omega, by omega⟩
   have MES : Hid (((n : Int) - (y + 1)).toNat < ((n : Int) - y).toNat) := by show _ < _; omega
   have REL : Hid (∃ (k2 : Nat) (y2 : Int) (hs2 : List Value), Value.int .i64 (y + 1) = .int .i64 y2 ∧ Hid (y2 = (k2 : Int) ∧ k2 ≤ n) ∧ Hid (Bk B bb (.slice cs mn ck) hs2 ms (occK (bareC ms) l k2) (w9.setCell ⟨bb, 1 + (z + 96).toNat, none⟩ (.slice s9 n9 k9))) ∧ Hid (OnlyK B w (w9.setCell ⟨bb, 1 + (z + 96).toNat, none⟩ (.slice s9 n9 k9)))) := ⟨k + 1, y + 1, hs2, rfl, ⟨by have := HK.out.1; omega, by omega⟩, hbk2, hok2⟩
   clear hcell hyk hbk2 hok2 ST FI G1 T1 HK hzi
   go_wp2
   go_region_law (refine step_append_run rfl (.tmp 21) (.tmp 27) 238 rfl _ _ _ w9 rfl rfl ha2 ?_)
   all_goals
    go_wp2
    try rw [hwy]
    exact ⟨REL.out, MES.out⟩
  ·have hlt : ¬ y < (n : Int) := by have := HK.out.1; omega
   have hkn : k = n := by have := HK.out.2; omega
   subst hkn
   obtain ⟨s9, k9, w9, hbl, hb0, ha, hb9, ⟨v9, hv9⟩, hf9, hfin⟩ := FI.out hs' wr G1.out T1.out
   have FIN := Lib.hid hfin
   clear hfin FI ST G1 T1
   go_wp2_with (at_builtin; refine Lib.wpList_append_run _ rfl _ _ _ _ rfl _ _ rfl rfl _ _ ha ?_)
   go_end0
   exact ⟨rfl, FIN.out⟩
end Go.Proofs.YtnihhbfgbilimaaGreatDoor
