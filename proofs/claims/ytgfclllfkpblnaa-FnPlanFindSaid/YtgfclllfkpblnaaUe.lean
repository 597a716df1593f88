/-
  THE VARIABLES AS THE MODEL GATHERS THEM: spec.l06Vars.
-/
import Derived.Test.YtgfclllfkpblnaaUd
namespace Go.Proofs.Ytgfclllfkpblnaa
open Go.RowKit
set_option linter.unusedVariables false

theorem own_kind {w : World} {B : Nat} {e : TypeId} {m : Nat} {v : Value} {n : Nat} {xs : List Value} (h : w.ownsRow B e m v n xs) {j : Nat} (hj : v.ownBlock = some j) : ∃ cur, w.heap[j]? = some (.cells cur e) := by
  rcases h.2 with ⟨rfl, _⟩ | ⟨g, cap, cur, rfl, _, hg, _⟩
  · simp [Value.ownBlock] at hj
  · simp [Value.ownBlock] at hj
    subst hj
    exact ⟨cur, hg⟩
theorem own_diff {w : World} {B B' : Nat} {e e' : TypeId} {m m' : Nat} {v v' : Value} {n n' : Nat} {xs xs' : List Value} (h : w.ownsRow B e m v n xs) (h' : w.ownsRow B' e' m' v' n' xs') (he : e ≠ e') : v.ownBlock = none ∨ v.ownBlock ≠ v'.ownBlock := by
  cases hv : v.ownBlock with
  | none => exact .inl rfl
  | some j =>
    refine .inr fun e2 => ?_
    obtain ⟨c1, h1⟩ := own_kind h hv
    obtain ⟨c2, h2⟩ := own_kind h' e2.symm
    rw [h1] at h2
    simp at h2
    exact he h2.2
theorem bA1 {n : Nat} {W w : World} (h : Below n W w) (o : Obj) (hn : n ≤ w.heap.size) : Below n W (w.alloc o) := h.alloc hn o
theorem own_e34 (w : World) : (w.alloc (.cells #[] 62)).ownsRow w.heap.size 62 2 (.slice (some ⟨w.heap.size, 0, none⟩) 0 0) 0 (enCells []) :=
  ⟨rfl, .inr ⟨w.heap.size, 0, #[], rfl, Nat.le_refl _, by show (w.heap.push _)[w.heap.size]? = _; simp, Nat.le_refl _, Nat.zero_le _, rfl, rfl⟩⟩
theorem plF_step (rs : List LSt) (top : Int) (ids : List Int) (k : Nat) (h : k < ids.length) : plF rs top (ids.take (k + 1)) = plF rs top (ids.take k) ++ chF rs top (ids.getD k 0) := by
  unfold plF
  rw [List.take_succ_eq_append_getElem h, List.flatMap_append]
  simp [h]


end Go.Proofs.Ytgfclllfkpblnaa
