/-
  COPIES WITH MEMORY OF THEIR OWN; marks over them; what an answer of a run is held against, marked and held by.
  THE SOLVER, as lists: the least variable that is open, those that are true, the run of the search; what its states keep.
  THE SOLVER'S STATE, and what turns it: push, pop, spend, conflict, learn, told.
-/
import Derived.Test.YtnihhbfgbilimaaGreatDoorVad
import Derived.Test.YtnihhbfgbilimaaGreatDoorPq
import Derived.Deep.RegionLaw
import Derived.Deep.DeepCutAuto
import Derived.Shelf.Spec.TrailingZeros
import Derived.ChangeSame
import Derived.ChangeSlices
import Derived.ChangeArms
import Derived.Deep.Strs
import Derived.Deep.Slices
namespace Go.Proofs.YtnihhbfgbilimaaGreatDoor
open Go.RowKit
set_option linter.unusedVariables false

/-- The variables up to n that are true. -/
noncomputable def trL (T : List Int) : Nat → List Int
  | 0 => []
  | n + 1 => if val T ((n : Int) + 1) = 1 then trL T n ++ [(n : Int) + 1] else trL T n
theorem trL_yes {T : List Int} {n : Nat} (h : val T ((n : Int) + 1) = 1) : trL T (n + 1) = trL T n ++ [(n : Int) + 1] := by rw [trL, if_pos h]
theorem trL_no {T : List Int} {n : Nat} (h : ¬ val T ((n : Int) + 1) = 1) : trL T (n + 1) = trL T n := by rw [trL, if_neg h]
theorem trL_len (T : List Int) : ∀ n, (trL T n).length ≤ n
  | 0 => Nat.le_refl _
  | n + 1 => by
    have := trL_len T n
    unfold trL
    split
    · simp; omega
    · omega

theorem dueL_sign (tr : List Int) : ∀ (css : List (List Int)) (k : Nat), (dueL tr k css).1 = -1 ∨ 0 ≤ (dueL tr k css).1
  | [], k => .inl rfl
  | l :: r, k => by
    unfold dueL
    cases unitOf tr l with
    | none => exact dueL_sign tr r (k + 1)
    | some z => exact .inr (by simp only []; omega)
theorem resF_sign (css : List (List Int)) : ∀ (n : Nat) (tr : List Int), (resF css n tr).2 = -1 ∨ 0 ≤ (resF css n tr).2
  | 0, tr => .inl rfl
  | n + 1, tr => by
    unfold resF
    split
    · exact dueL_sign tr css 0
    · exact resF_sign css n _
def negL (D : List Int) : List Int := D.map fun z => -z
theorem negL_len (D : List Int) : (negL D).length = D.length := by simp [negL]
/-- The search: its verdict, trues, lemmas and steps, from a state on, within so many steps. -/
noncomputable def solF (css : List (List Int)) (V : Nat) : Nat → Int → List (List Int) → List Int → Int × List Int × List (List Int) × Int
  | 0, st, L, _ => (3, [], L, st)
  | n + 1, st, L, D =>
    if (uRun css L D).2 = -1 then
      if opn (uRun css L D).1 V 1 = 0 then (1, trL (uRun css L D).1 V, L, st + 1) else solF css V n (st + 1) L (D ++ [(opn (uRun css L D).1 V 1 : Int)])
    else if D.length = 0 then (2, [], L ++ [negL D], st + 1) else solF css V n (st + 1) (L ++ [negL D]) D.dropLast
section
variable {css : List (List Int)} {V n : Nat} {st : Int} {L : List (List Int)} {D : List Int}
theorem solF_stop (hn : n = 0) : solF css V n st L D = (3, [], L, st) := by subst hn; rfl
theorem solF_yes (hn : 0 < n) (h : (uRun css L D).2 = -1) (h2 : opn (uRun css L D).1 V 1 = 0) : solF css V n st L D = (1, trL (uRun css L D).1 V, L, st + 1) := by
  obtain ⟨m, rfl⟩ : ∃ m, n = m + 1 := ⟨n - 1, by omega⟩
  rw [solF, if_pos h, if_pos h2]
theorem solF_push (hn : 0 < n) (h : (uRun css L D).2 = -1) (h2 : ¬ opn (uRun css L D).1 V 1 = 0) : solF css V n st L D = solF css V (n - 1) (st + 1) L (D ++ [(opn (uRun css L D).1 V 1 : Int)]) := by
  obtain ⟨m, rfl⟩ : ∃ m, n = m + 1 := ⟨n - 1, by omega⟩
  rw [solF, if_pos h, if_neg h2]
  rfl
theorem solF_no (hn : 0 < n) (h : ¬ (uRun css L D).2 = -1) (h2 : D.length = 0) : solF css V n st L D = (2, [], L ++ [negL D], st + 1) := by
  obtain ⟨m, rfl⟩ : ∃ m, n = m + 1 := ⟨n - 1, by omega⟩
  rw [solF, if_neg h, if_pos h2]
theorem solF_pop (hn : 0 < n) (h : ¬ (uRun css L D).2 = -1) (h2 : ¬ D.length = 0) : solF css V n st L D = solF css V (n - 1) (st + 1) (L ++ [negL D]) D.dropLast := by
  obtain ⟨m, rfl⟩ : ∃ m, n = m + 1 := ⟨n - 1, by omega⟩
  rw [solF, if_neg h, if_neg h2]
  rfl
end
theorem sp_ok {vars : Int} {D : List Int} (h : SpTo vars D D.length) : ∀ z ∈ D, OkZ vars z := by
  intro z hz
  obtain ⟨i, hi, rfl⟩ := List.getElem_of_mem hz
  have := (h i hi).1
  simpa [hi] using this
theorem SOk.learn {css : List (List Int)} {V : Nat} {L : List (List Int)} {D : List Int} (h : SOk css V L D) : SOk css V (L ++ [negL D]) D.dropLast := by
  refine ⟨h.cl, fun l hl z hz => ?_, fun i hi => ?_⟩
  · rcases List.mem_append.1 hl with h1 | h1
    · exact h.lm l h1 z hz
    · rw [List.mem_singleton.1 h1] at hz
      obtain ⟨y, hy, rfl⟩ := List.mem_map.1 hz
      obtain ⟨o1, o2, o3⟩ := sp_ok h.ds y hy
      exact ⟨by omega, by omega, by omega⟩
  · have hi' : i < D.length - 1 := by simpa using hi
    have hg : ∀ j, j < D.length - 1 → D.dropLast.getD j 0 = D.getD j 0 := fun j hj => by
      have hj2 : j < D.length := by omega
      simp [hj, hj2]
    have := h.ds i (by omega)
    rw [hg i hi']
    refine ⟨this.1, fun j hj => ?_⟩
    rw [hg j (by omega), hg i hi']
    exact this.2 j hj

theorem owc_box {W : World} {C : Nat} {v : Value} {cs : List LCl} {X : Nat} {us : Array Value} {t : TypeId} (h : OwC W C v cs) (hx : W.heap[X]? = some (.cells us t)) (h1 : t ≠ 34) (h2 : t ≠ 2) (i : Nat) (u : Value) : OwC (W.setCell ⟨X, i, none⟩ u) C v cs :=
  ⟨own_box h.row hx h1 i u, fun r hr => own_box (h.each r hr) hx h2 i u, h.diff⟩
theorem own_only {B : Nat} {e : TypeId} {m : Nat} {v : Value} {n : Nat} {xs : List Value} {b : Nat} {w w' : World} {us : Array Value} {t : TypeId} (h : w.ownsRow B e m v n xs) (ho : Only b w w') (hx : w.heap[b]? = some (.cells us t)) (hne : t ≠ e) : w'.ownsRow B e m v n xs := by
  refine ⟨h.1, ?_⟩
  rcases h.2 with h | ⟨g, cap, cur, hv, hg, hh, r⟩
  · exact .inl h
  · refine .inr ⟨g, cap, cur, hv, hg, (ho.block g (Array.getElem?_eq_some_iff.1 hh).1 ?_).trans hh, r⟩
    intro e'
    rw [e', hx] at hh
    cases hh
    exact hne rfl
theorem owc_only {B : Nat} {v : Value} {cs : List LCl} {b : Nat} {w w' : World} {us : Array Value} {t : TypeId} (h : OwC w B v cs) (ho : Only b w w') (hx : w.heap[b]? = some (.cells us t)) (h1 : t ≠ 34) (h2 : t ≠ 2) : OwC w' B v cs :=
  ⟨own_only h.row ho hx h1, fun r hr => own_only (h.each r hr) ho hx h2, h.diff⟩

abbrev SF (V bud st : Int) (vc vl vd : Value) : List Value := [.int .i64 V, .int .i64 bud, .int .i64 st, vc, vl, vd]

theorem appH {w : World} {B : Nat} {v : Value} {us : List Value} (h : w.ownsRow B 34 1 v us.length us) (u : Value) (hu : u.oneCell' = true) (c : Nat) (hc : ∀ (j : Nat) (x : Value), [u][j]? = some x → w.cell? ((⟨c, 0, none⟩ : Addr).add j) = some x) (hB : B ≤ w.heap.size) (hl : us.length ≤ 100000) :
    ∃ v9 w9, (∀ ty, (Builtin.append_ #[31, 31] ty #[v, .slice (some ⟨c, 0, none⟩) 1 1]).run Tryz.prog w = .ok v9 w9) ∧ w9.ownsRow B 34 1 v9 (us.length + 1) (us ++ [u]) ∧ w.grownBy w9 v.ownBlock := by
  obtain ⟨i3, hi3, hd0, hd1, hd2⟩ := info_parts info40
  obtain ⟨g, c9, w9, hr, own9, grow9, hg, -⟩ := run_append_lies (P := Tryz.prog) w 31 31 B 34 i3 (.slice none 0 0) 1 24 Tryz.underlying31 hi3 hd0 hd1 hd2 rfl (by decide) _ _ _ h ⟨c, 0, none⟩ 1 1 [u] rfl hc (by intro x hx; rw [List.mem_singleton.1 hx]; exact hu) (by decide) (by unfold maxLen; omega) (by omega) hB w.heap.size rfl
  exact ⟨_, w9, fun ty => hr, own9, grow9⟩
/-- All blocks of answers are as they were. -/
def K30 (w0 W : World) : Prop := ∀ (k : Nat) (us : Array Value), w0.heap[k]? = some (.cells us 107) → W.heap[k]? = some (.cells us 107)
theorem K30.refl (W : World) : K30 W W := fun _ _ h => h
theorem K30.below {w0 W W' : World} (h : K30 w0 W) (hb : Below W.heap.size W W') : K30 w0 W' := fun k us hk => by
  have := h k us hk
  exact (hb.block k (Array.getElem?_eq_some_iff.1 this).1).trans this
theorem K30.only {w0 W W' : World} {b : Nat} {us : Array Value} {t : TypeId} (h : K30 w0 W) (ho : Only b W W') (hx : W.heap[b]? = some (.cells us t)) (ht : t ≠ 107) : K30 w0 W' := fun k us hk => by
  have := h k us hk
  refine (ho.block k (Array.getElem?_eq_some_iff.1 this).1 (fun e => ?_)).trans this
  rw [e, hx] at this
  cases this
  exact ht rfl
theorem K30.set {w0 W : World} {b : Nat} {us : Array Value} {t : TypeId} (h : K30 w0 W) (hx : W.heap[b]? = some (.cells us t)) (ht : t ≠ 107) (i : Nat) (v : Value) : K30 w0 (W.setCell ⟨b, i, none⟩ v) := h.only ((Only.refl b W).setCell i v) hx ht
theorem K30.grown {w0 W W' : World} {B : Nat} {e : TypeId} {m : Nat} {v : Value} {n : Nat} {xs : List Value} (h : K30 w0 W) (hv : W.ownsRow B e m v n xs) (he : e ≠ 107) (hg : W.grownBy W' v.ownBlock) : K30 w0 W' := fun k us hk => by
  have := h k us hk
  refine (hg.block k (Array.getElem?_eq_some_iff.1 this).1 (fun e' => ?_)).trans this
  obtain ⟨cur, hc⟩ := own_kind hv e'.symm
  rw [hc] at this
  cases this
  exact he rfl

section
variable {w w0 : World} {b : Nat} {V bud st : Int} {ms ls : List LCl} {D tr : List Int} {vc vl vd : Value} {W W' : World}
end
theorem cells5 {W : World} {b : Nat} {v0 v1 v2 v3 v4 : Value} {t : TypeId} (h : W.heap[b]? = some (.cells #[v0, v1, v2, v3, v4] t)) : W.cell? ⟨b, 0, none⟩ = some v0 ∧ W.cell? ⟨b, 1, none⟩ = some v1 ∧ W.cell? ⟨b, 2, none⟩ = some v2 ∧ W.cell? ⟨b, 3, none⟩ = some v3 ∧ W.cell? ⟨b, 4, none⟩ = some v4 := by
  refine ⟨?_, ?_, ?_, ?_, ?_⟩ <;> simp [World.cell?, h]

end Go.Proofs.YtnihhbfgbilimaaGreatDoor
