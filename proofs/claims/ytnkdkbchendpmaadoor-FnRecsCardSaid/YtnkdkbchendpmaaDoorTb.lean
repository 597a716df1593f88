/-
  A TURNED RECORD, THE THINKING: its reader tells a wrong sum.
-/
import Derived.Test.YtnkdkbchendpmaaDoorTa
import Derived.Test.YtnkdkbchendpmaaDoorRf
namespace Go.Proofs.YtnkdkbchendpmaaDoor
open Go.RowKit
set_option linter.unusedVariables false

theorem set_mid (l : List UInt8) (j : Nat) (h : j < l.length) (y : UInt8) : l = l.take j ++ l[j] :: l.drop (j + 1) ∧ l.set j y = l.take j ++ y :: l.drop (j + 1) := by
  refine ⟨?_, ?_⟩
  · rw [← List.drop_eq_getElem_cons h, List.take_append_drop]
  · rw [List.set_eq_take_append_cons_drop, if_pos h]
theorem set_append_right (a b : List UInt8) (i : Nat) (h : a.length ≤ i) (y : UInt8) : (a ++ b).set i y = a ++ b.set (i - a.length) y := by
  rw [List.set_append]
  rw [if_neg (by omega)]
theorem set_append_left (a b : List UInt8) (i : Nat) (h : i < a.length) (y : UInt8) : (a ++ b).set i y = a.set i y ++ b := by
  rw [List.set_append, if_pos h]

/-- A record of which a byte behind its length is another one. -/
theorem turned_sum (k : Int) (zs : List Int) (hr : recR k zs = true) (i : Nat) (y : UInt8) (h3 : 3 ≤ i) (hi : i < (recB k zs).length) (hy : y ≠ (recB k zs)[i]) :
    rdF ((recB k zs).set i y) = 5 ∧ ∀ n q k' zs', Good ((recB k zs).set i y) n q → ¬ IsBody (q.take n) k' zs' := by
  have hb := body_len hr
  generalize hB : bodyB k zs = body at *
  have hn2 : (numB body.length).length ≤ 2 := (numB_len body.length 1 (by omega)).2
  have hT : recB k zs = 82 :: (numB body.length ++ (body ++ fourB (sumL (numB body.length ++ body)))) := by
    simp [recB, lenB, hB]
  have h4 : (fourB (sumL (numB body.length ++ body))).length = 4 := rfl
  have hS1 : sumL (numB body.length ++ body) < 4294967296 := by have := sumL_lt (numB body.length ++ body); omega
  have hS2 : ∀ l, sumL l < 4294967296 := fun l => by have := sumL_lt l; omega
  generalize hS : sumL (numB body.length ++ body) = S at *
  have hi' : i < 1 + ((numB body.length).length + (body.length + 4)) := by rw [hT] at hi; simp [h4] at hi; omega
  obtain ⟨j, hj⟩ : ∃ j, i = 1 + (numB body.length).length + j := ⟨i - 1 - (numB body.length).length, by omega⟩
  have hjl : j < body.length + 4 := by omega
  have hql : (body ++ fourB S).length = body.length + 4 := by simp [h4]
  have e1 : (recB k zs).set i y = 82 :: (numB body.length ++ (body ++ fourB S).set j y) := by
    rw [hT, hj, show 1 + (numB body.length).length + j = ((numB body.length).length + j) + 1 by omega, List.set_cons_succ, set_append_right _ _ _ (by omega)]
    congr 3; omega
  have ey : (recB k zs)[i] = (body ++ fourB S)[j]'(by rw [hql]; exact hjl) := by
    have : (recB k zs)[i]? = (body ++ fourB S)[j]? := by
      rw [hT, hj, show 1 + (numB body.length).length + j = ((numB body.length).length + j) + 1 by omega, List.getElem?_cons_succ, List.getElem?_append_right (by omega)]
      congr 1; omega
    rw [List.getElem?_eq_getElem hi, List.getElem?_eq_getElem (by rw [hql]; exact hjl)] at this
    simpa using this
  rw [ey] at hy
  rw [e1]
  have hR : rdN 2 (numB body.length ++ (body ++ fourB S).set j y) = some (body.length, (body ++ fourB S).set j y) := rdN_numB 2 _ _ hn2
  have hlen : (numB body.length ++ (body ++ fourB S).set j y).length < 20000 := by simp [h4]; omega
  have hns : ¬ Short (numB body.length ++ (body ++ fourB S).set j y) := by
    rintro (h | ⟨x, h, _⟩)
    · have := congrArg List.length h; simp [h4] at this
    · have := congrArg List.length h; simp [h4] at this; omega
  refine rdF_sum hlen hns hR (by omega) (by simp [h4]) ?_
  by_cases hjb : j < body.length
  · rw [set_append_left _ _ _ hjb]
    have l1 : (body.set j y).length = body.length := by simp
    rw [List.drop_left' l1, List.take_left' l1, List.take_of_length_le (by rw [h4]; omega)]
    intro e
    have e2 := fourB_inj hS1 (hS2 _) e
    obtain ⟨m1, m2⟩ := set_mid body j hjb y
    rw [List.getElem_append_left hjb] at hy
    have e3 : sumL ((numB body.length ++ body.take j) ++ body[j] :: body.drop (j + 1)) = sumL ((numB body.length ++ body.take j) ++ y :: body.drop (j + 1)) := by
      rw [List.append_assoc, List.append_assoc, ← m1, ← m2, hS]; exact e2
    exact hy (sum_turned _ _ _ _ e3).symm
  · rw [set_append_right _ _ _ (by omega)]
    rw [List.drop_left, List.take_left, List.take_of_length_le (by simp [h4]), hS]
    intro e
    rw [List.getElem_append_right (by omega)] at hy
    have hjs : j - body.length < (fourB S).length := by rw [h4]; omega
    have : ((fourB S).set (j - body.length) y)[j - body.length]? = (fourB S)[j - body.length]? := by rw [e]
    rw [List.getElem?_set_self hjs, List.getElem?_eq_getElem hjs] at this
    exact hy (by simpa using this)

theorem xor_ne (x c : Nat) (hc : c ≠ 0) : x ^^^ c ≠ x := by
  intro h
  have : x ^^^ (x ^^^ c) = x ^^^ x := by rw [h]
  rw [← Nat.xor_assoc, Nat.xor_self, Nat.zero_xor] at this
  exact hc this
theorem xor_lt (x c : Nat) (hx : x < 256) (hc : c < 256) : x ^^^ c < 256 := Nat.xor_lt_two_pow (n := 8) hx hc

end Go.Proofs.YtnkdkbchendpmaaDoor
