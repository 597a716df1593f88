/-
  A RECORD READ, AS THE MODEL DOES IT: the thinking.
-/
import Derived.Test.YtnkdkbchendpmaaDoorRg
import Derived.Test.YtnkdkbchendpmaaDoorUa
namespace Go.Proofs.YtnkdkbchendpmaaDoor
open Go.RowKit
set_option linter.unusedVariables false

theorem IsBody.rd1 {l : List UInt8} {k : Int} {zs : List Int} (h : IsBody l k zs) : rdN 8 l = some (k.toNat, numB zs.length ++ numsB zs) := by
  obtain ⟨h1, h2, h3, h4⟩ := recR_parts h.1
  rw [h.2, bodyB, List.append_assoc]
  exact rdN_numB 8 _ _ (by have := (numB_len k.toNat 0 (by omega)).2; omega)
theorem IsBody.rd2 {l : List UInt8} {k : Int} {zs : List Int} (h : IsBody l k zs) : rdN 8 (numB zs.length ++ numsB zs) = some (zs.length, numsB zs) := by
  obtain ⟨h1, h2, h3, h4⟩ := recR_parts h.1
  exact rdN_numB 8 _ _ (by have := (numB_len zs.length 0 (by omega)).2; omega)
theorem IsBody.rd3 {l : List UInt8} {k : Int} {zs : List Int} (h : IsBody l k zs) (i : Nat) (hi : i < zs.length) : rdN 8 (numsB (zs.drop i)) = some (signN zs[i], numsB (zs.drop (i + 1))) := by
  obtain ⟨h1, h2, h3, h4⟩ := recR_parts h.1
  have hz : isN zs[i] = true := List.all_eq_true.1 h4 _ (List.getElem_mem hi)
  have hs := signN_lt hz
  have e : numsB (zs.drop i) = numB (signN zs[i]) ++ numsB (zs.drop (i + 1)) := by
    rw [List.drop_eq_getElem_cons hi]; simp only [numsB, List.map_cons, List.flatten_cons]
  rw [e]
  exact rdN_numB 8 _ _ (by have := (numB_len (signN zs[i]) 7 (by omega)).2; omega)
/-- What the model has read of a body: its kind, how many, the numbers so far, what is left, whether it is bad. -/
def MSt (l : List UInt8) (kind many : Nat) (ns : List Int) (t : List UInt8) (bad : Bool) : Prop :=
  ∀ k zs, IsBody l k zs → (kind : Int) = k ∧ many = zs.length ∧ ns = zs.take ns.length ∧ t = numsB (zs.drop ns.length) ∧ bad = false
theorem MSt.start {l t1 t2 : List UInt8} {x y : Nat} {b1 b2 : Bool} (h1 : ∀ v q, rdN 8 l = some (v, q) → x = v ∧ t1 = q ∧ b1 = false) (h2 : ∀ v q, rdN 8 t1 = some (v, q) → y = v ∧ t2 = q ∧ b2 = b1) : MSt l x y [] t2 b2 := by
  intro k zs h
  obtain ⟨rfl, rfl, rfl⟩ := h1 _ _ h.rd1
  obtain ⟨rfl, rfl, rfl⟩ := h2 _ _ h.rd2
  obtain ⟨r1, r2, r3, r4⟩ := recR_parts h.1
  exact ⟨by omega, rfl, rfl, rfl, rfl⟩
theorem MSt.step {l t t' : List UInt8} {kind many z : Nat} {ns : List Int} {b b' : Bool} (h : MSt l kind many ns t b) (hi : ns.length < many) (h1 : ∀ v q, rdN 8 t = some (v, q) → z = v ∧ t' = q ∧ b' = b) : MSt l kind many (ns ++ [signO z]) t' b' := by
  intro k zs hb
  obtain ⟨e1, e2, e3, e4, e5⟩ := h k zs hb
  have hi' : ns.length < zs.length := by omega
  rw [e4] at h1
  obtain ⟨rfl, rfl, rfl⟩ := h1 _ _ (hb.rd3 ns.length hi')
  refine ⟨e1, e2, ?_, ?_, e5⟩
  · rw [List.length_append, List.length_singleton, List.take_succ_eq_append_getElem hi', ← e3, signO_N]
  · rw [List.length_append, List.length_singleton]
theorem good_take {t : List UInt8} {n : Nat} {q : List UInt8} (g : Good t n q) : t.take (usedN n) = 82 :: (numB n ++ (q.take n ++ (q.drop n).take 4)) := by
  have h4 := g.2.2.2.1
  rw [g.2.1, usedN, show 1 + (numB n).length + n + 4 = ((numB n).length + (n + 4)) + 1 by omega, List.take_succ_cons, List.take_length_add_append]
  rw [List.take_add]
theorem rec_eq {t : List UInt8} {n : Nat} {q : List UInt8} (g : Good t n q) (k : Int) (ns : List Int) : recT k ns = t.take (usedN n) ↔ IsBody (q.take n) k ns := by
  have h4 := g.2.2.2.1
  have hl : (q.take n).length = n := by rw [List.length_take]; omega
  rw [good_take g, recT]
  constructor
  · intro h
    by_cases hr : recR k ns = true
    · rw [if_pos hr, recB_parts] at h
      simp only [List.cons.injEq, true_and] at h
      obtain ⟨e1, e2⟩ := numB_inj h
      have := congrArg (List.take n) e2
      rw [List.take_left' (by omega), List.take_left' hl] at this
      exact ⟨hr, this.symm⟩
    · rw [if_neg hr] at h; cases h
  · intro h
    rw [if_pos h.1, recB_parts, ← h.2, hl, g.2.2.2.2]
/-- No body: bad, or the bytes are others. -/
theorem MSt.no {t : List UInt8} {n : Nat} {q l2 : List UInt8} (g : Good t n q) {kind many : Nat} {ns : List Int} {bad : Bool} (h : MSt (q.take n) kind many ns l2 bad) (he : many ≤ ns.length ∨ 60 < ns.length ∨ bad = true) (hx : bad = true ∨ recT kind ns ≠ t.take (usedN n)) : ∀ k zs, ¬ IsBody (q.take n) k zs := by
  intro k zs hb
  obtain ⟨e1, e2, e3, e4, e5⟩ := h k zs hb
  obtain ⟨r1, r2, r3, r4⟩ := recR_parts hb.1
  have hns : ns.length ≤ zs.length := by rw [e3, List.length_take]; omega
  rw [e5] at he hx
  have hle : zs.length ≤ ns.length := by
    rcases he with h | h | h
    · omega
    · omega
    · cases h
  rw [List.take_of_length_le hle] at e3
  rcases hx with h | h
  · cases h
  · rw [e1, e3] at h
    exact h ((rec_eq g k zs).2 hb)

end Go.Proofs.YtnkdkbchendpmaaDoor
