/-
  WHAT FOLLOWS AT ONCE, as the model runs it: spec.l08Run.
-/
import Derived.Test.YtdmnnclbcljdmaaKi
namespace Go.Proofs.Ytdmnnclbcljdmaa
open Go.RowKit
set_option linter.unusedVariables false

theorem own_cap8 {w : World} {B : Nat} {e : TypeId} {m : Nat} {sl : Option Addr} {n cap : Nat} {k : Nat} {xs : List Value} (h : w.ownsRow B e m (.slice sl n cap) k xs) : k ≤ cap := by
  rcases h.2 with ⟨_, h0⟩ | ⟨g, cp, cur, hv, _, _, h5, _⟩
  · rw [h0]; exact Nat.zero_le _
  · cases hv; exact h5
/-- Numbers put behind numbers: both ways of it. -/
theorem appZ {w : World} {B : Nat} {v : Value} {zs : List Int} (h : w.ownsRow B 2 1 v zs.length (valsZ zs)) {s : Option Addr} {r : List Int} (k : Nat) (hi : Ints w s r) (hB : B ≤ w.heap.size) (hl : zs.length + r.length ≤ 10000000) :
    ∃ v9 w9, (∀ ty, (Builtin.append_ #[28, 28] ty #[v, .slice s r.length k]).run Try.prog w = .ok v9 w9) ∧ w9.ownsRow B 2 1 v9 (zs ++ r).length (valsZ (zs ++ r)) ∧ w.grownBy w9 v.ownBlock ∧ ∀ j, v9.ownBlock = some j → v.ownBlock = some j ∨ j = w.heap.size := by
  obtain ⟨i3, hi3, hd0, hd1, hd2⟩ := info_parts info2'
  obtain ⟨sl, cap, rfl⟩ := own_v h
  by_cases he : r = []
  · subst he
    exact ⟨_, w, fun ty => app_none40 w ty sl zs.length cap (own_cap8 h) s k, by rw [List.append_nil]; exact h, ⟨rfl, rfl, rfl, Nat.le_refl _, fun _ _ _ => rfl⟩, fun j hj => .inl hj⟩
  · rcases hi with hi | ⟨c, o, rfl, hi⟩
    · exact absurd hi he
    · obtain ⟨g, c9, w9, hr, own9, grow9, hg, -⟩ := run_append_lies (P := Try.prog) w 28 28 B 2 i3 (.int .i64 0) 1 8 Try.underlying28 hi3 hd0 hd1 hd2 rfl (by decide) _ _ _ h ⟨c, o, none⟩ r.length k (valsZ r) (valsZ_len1 r) (int_cells hi) (valsZ_one r) (List.length_pos_iff.2 he) (by unfold maxLen; omega) (by omega) hB w.heap.size rfl
      refine ⟨_, w9, fun ty => hr, by rw [List.length_append, valsZ_add]; exact own9, grow9, fun j hj => ?_⟩
      have e : j = g := by simp [Value.ownBlock] at hj; exact hj.symm
      rcases hg with hg | hg
      · exact .inl (by rw [hg, e])
      · exact .inr (by omega)

/-- A run under way: the Cnf, the answer's block, the run's own answer with its trail T, the values of U. -/
structure SR (w : World) (vars : Int) (sl : Option Addr) (n cap : Nat) (O vb V : Nat) (W : World) (T U : List Int) (v : Value) : Prop where
  cnf : CnfAt W w.heap.size vars sl n cap
  box : BoxU W (w.heap.size + 1)
  out : W.heap[O]? = some (.cells #[v, .int .i64 (-1), .int .i64 0] 53)
  own : W.ownsRow (w.heap.size + 2) 2 1 v T.length (valsZ T)
  vals : SVAt W vb V U
  bel : Below w.heap.size w W
  ne : v.ownBlock ≠ some vb
  hO : w.heap.size + 1 < O
  hV : w.heap.size + 1 < vb
  hOV : O ≠ vb
theorem SR.keep {w : World} {vars : Int} {sl : Option Addr} {n cap O vb V : Nat} {W W' : World} {T U : List Int} {v : Value} (h : SR w vars sl n cap O vb V W T U v) (hb : Below W.heap.size W W') : SR w vars sl n cap O vb V W' T U v :=
  ⟨h.cnf.below hb, h.box.below hb, (hb.block O (Array.getElem?_eq_some_iff.1 h.out).1).trans h.out, own_below h.own hb, h.vals.below hb, bT h.bel hb, h.ne, h.hO, h.hV, h.hOV⟩
theorem SR.facts {w : World} {vars : Int} {sl : Option Addr} {n cap O vb V : Nat} {W : World} {T U : List Int} {v : Value} (h : SR w vars sl n cap O vb V W T U v) : w.heap.size < W.heap.size ∧ W.cell? ⟨w.heap.size, 0, none⟩ = some (.int .i64 vars) ∧ W.cell? ⟨w.heap.size, 1, none⟩ = some (.slice sl n cap) ∧ vb < W.heap.size ∧ O < W.heap.size ∧ W.cell? ⟨O, 0, none⟩ = some v ∧ W.cell? ⟨O, 1, none⟩ = some (.int .i64 (-1)) ∧ W.cell? ⟨O, 2, none⟩ = some (.int .i64 0) ∧ (∀ k, W.frozen? ⟨O, k, none⟩ = false) ∧ (∀ k, W.frozen? ⟨vb, k, none⟩ = false) := by
  have ho := h.out
  exact ⟨h.cnf.lt, h.cnf.cells.1, h.cnf.cells.2, h.vals.lt, (Array.getElem?_eq_some_iff.1 ho).1, by simp [World.cell?, ho], by simp [World.cell?, ho], by simp [World.cell?, ho], fun k => by simp [World.frozen?, ho], h.vals.frozen⟩
/-- A literal more has its value. -/
theorem SR.put {w : World} {vars : Int} {sl : Option Addr} {n cap O vb V : Nat} {W : World} {T U : List Int} {v : Value} (h : SR w vars sl n cap O vb V W T U v) (z : Int) (i j : Nat) (hi : (i : Int) = z + V) (hj : (j : Int) = (V : Int) - z) (h1 : z ∉ U) (h2 : -z ∉ U) (h0 : z ≠ 0) :
    SR w vars sl n cap O vb V ((W.setCell ⟨vb, i, none⟩ (.int .i64 1)).setCell ⟨vb, j, none⟩ (.int .i64 (-1))) T (U ++ [z]) v := by
  have hk : ∀ k, k ≠ vb → ((W.setCell ⟨vb, i, none⟩ (.int .i64 1)).setCell ⟨vb, j, none⟩ (.int .i64 (-1))).heap[k]? = W.heap[k]? := fun k hk => (heap_setCell_other _ ⟨vb, j, none⟩ k _ hk).trans (heap_setCell_other _ ⟨vb, i, none⟩ k _ hk)
  have hV := h.hV
  exact ⟨(hk _ (by omega)).trans h.cnf, (hk _ (by omega)).trans h.box, (hk _ h.hOV).trans h.out, own_set (own_set h.own h.ne i _) h.ne j _, h.vals.put z i j hi hj h1 h2 h0, (h.bel.setCell (p := ⟨vb, i, none⟩) (by show w.heap.size ≤ vb; omega) _).setCell (p := ⟨vb, j, none⟩) (by show w.heap.size ≤ vb; omega) _, h.ne, h.hO, h.hV, h.hOV⟩
/-- The trail has one more. -/
theorem SR.more {w : World} {vars : Int} {sl : Option Addr} {n cap O vb V : Nat} {W w9 : World} {T U T' : List Int} {v v9 : Value} (h : SR w vars sl n cap O vb V W T U v) (hg : W.grownBy w9 v.ownBlock) (ho : w9.ownsRow (w.heap.size + 2) 2 1 v9 T'.length (valsZ T')) (hn : ∀ j, v9.ownBlock = some j → v.ownBlock = some j ∨ W.heap.size ≤ j) :
    SR w vars sl n cap O vb V (w9.setCell ⟨O, 0, none⟩ v9) T' U v9 := by
  have hOl := (Array.getElem?_eq_some_iff.1 h.out).1
  have nO : v.ownBlock ≠ some O := fun e => by
    obtain ⟨g, cp, cur, hv, hb, hg', _⟩ := (h.own.2.resolve_left (fun ⟨e2, _⟩ => by rw [e2] at e; simp [Value.ownBlock] at e))
    rw [hv] at e
    have : g = O := by simpa [Value.ownBlock] using e
    subst this
    rw [h.out] at hg'
    simp at hg'
  have hk : ∀ k, k < W.heap.size → some k ≠ v.ownBlock → k ≠ O → (w9.setCell ⟨O, 0, none⟩ v9).heap[k]? = W.heap[k]? := fun k h1 h2 h3 => (heap_setCell_other _ ⟨O, 0, none⟩ k _ h3).trans (hg.block k h1 h2)
  have hlo : ∀ j, v.ownBlock = some j → w.heap.size + 2 ≤ j := fun j hj => (h.own.lt j hj).1
  have hO := h.hO
  have nO9 : v9.ownBlock ≠ some O := fun e => by
    rcases hn O e with e | e
    · exact nO e
    · omega
  refine ⟨(hk _ h.cnf.lt (fun e => by have := hlo _ e.symm; omega) (by omega)).trans h.cnf, (hk _ h.box.facts.1 (fun e => by have := hlo _ e.symm; omega) (by omega)).trans h.box, ?_, own_set ho nO9 0 v9, (hk vb h.vals.lt (fun e => h.ne e.symm) (fun e => h.hOV e.symm)).trans h.vals, (h.bel.grown hg h.bel.size (fun k hk => by have := hlo k hk; omega)).setCell (p := ⟨O, 0, none⟩) (by show w.heap.size ≤ O; omega) _, fun e => ?_, h.hO, h.hV, h.hOV⟩
  · exact heap_setCell_same w9 O 0 _ 53 v9 ((hg.block O hOl (fun e => nO e.symm)).trans h.out)
  · rcases hn vb e with e | e
    · exact h.ne e
    · have := h.vals.lt; omega

/-- The values of no literal. -/
theorem sArr_nil (V : Nat) : mk64 (2 * V + 1) = sArr V [] := by
  have := mk64_eq (List.replicate (2 * V + 1) 0)
  rw [List.length_replicate] at this
  rw [this]
  apply Array.ext
  · simp [vsOf, sArr]
  · intro i h1 h2
    have h3 : i < 2 * V + 1 := by simpa [sArr] using h2
    simp [vsOf, sArr, val_no]

/-- An empty row just made. -/
theorem own_none8 (w : World) : (w.alloc (.cells #[] 2)).ownsRow w.heap.size 2 1 (.slice (some ⟨w.heap.size, 0, none⟩) 0 0) 0 [] :=
  ⟨rfl, .inr ⟨w.heap.size, 0, #[], rfl, Nat.le_refl _, by show (w.heap.push _)[w.heap.size]? = _; simp, Nat.le_refl _, Nat.zero_le _, rfl, rfl⟩⟩
/-- A run begins. -/
theorem SR.new {w w9 : World} {vars : Int} {sl : Option Addr} {n cap V : Nat} {ts : List Int} {v9 : Value} (hc : CnfAt w9 w.heap.size vars sl n cap) (hx : BoxU w9 (w.heap.size + 1)) (ho : w9.ownsRow (w.heap.size + 2) 2 1 v9 ts.length (valsZ ts)) (hb : Below w.heap.size w w9) (hs : w.heap.size + 3 ≤ w9.heap.size) :
    SR w vars sl n cap w9.heap.size (w9.heap.size + 1) V ((w9.alloc (.cells #[v9, .int .i64 (-1), .int .i64 0] 53)).alloc (.cells (mk64 (2 * V + 1)) 2)) ts [] v9 := by
  have b1 := bA0 w9 (.cells #[v9, .int .i64 (-1), .int .i64 0] 53)
  have b2 := bA0 (w9.alloc (.cells #[v9, .int .i64 (-1), .int .i64 0] 53)) (.cells (mk64 (2 * V + 1)) 2)
  have h1 := new_at w9 (.cells #[v9, .int .i64 (-1), .int .i64 0] 53)
  have h2 := new_at (w9.alloc (.cells #[v9, .int .i64 (-1), .int .i64 0] 53)) (.cells (mk64 (2 * V + 1)) 2)
  have e1 : (w9.alloc (.cells #[v9, .int .i64 (-1), .int .i64 0] 53)).heap.size = w9.heap.size + 1 := by simp
  rw [e1, sArr_nil] at h2
  refine ⟨(hc.below b1).below b2, (hx.below b1).below b2, (b2.block _ (by omega)).trans h1, own_below (own_below ho b1) b2, ?_, bA (bA hb _) _, fun e => ?_, by omega, by omega, by omega⟩
  · rw [sArr_nil]; exact h2
  · have := (ho.lt _ e).2; omega

end Go.Proofs.Ytdmnnclbcljdmaa
