/-
  THE LAWS' TABLES: their sizes.
-/
import Derived.Test.YtgfclllfkpblnaaAe
namespace Go.Proofs.Ytgfclllfkpblnaa
open Go.RowKit
set_option linter.unusedVariables false

/-- What is left. -/
def lft (m : Int) (n : Nat) : Int := if m - n < 0 then -1 else m - n
theorem lft_cases (m : Int) (n : Nat) (h0 : 0 ≤ m) : (lft m n = -1 ∧ m < n) ∨ (lft m n = m - n ∧ (n : Int) ≤ m) := by
  unfold lft
  split <;> omega

def DomIn0 (w : World) (r : LSt) : Prop := ∃ sl cap, r.2.2.1 = .slice sl r.2.2.2.length cap ∧ Ints w sl r.2.2.2 ∧ r.2.2.2.length ≤ maxLen
/-- A slice of stations of whatever size. -/
structure Sts0 (w : World) (sl : Option Addr) (rs : List LSt) : Prop where
  row : rs = [] ∨ ∃ c o, sl = some ⟨c, o, none⟩ ∧ StAt w c o rs
  dom : ∀ r ∈ rs, DomIn0 w r
theorem DomIn0.below {w w' : World} {r : LSt} (h : DomIn0 w r) (hb : Below w.heap.size w w') : DomIn0 w' r := by
  obtain ⟨sl, cap, e, hi, hl⟩ := h
  exact ⟨sl, cap, e, hi.below hb, hl⟩
theorem Sts0.below {w w' : World} {sl : Option Addr} {rs : List LSt} (h : Sts0 w sl rs) (hb : Below w.heap.size w w') : Sts0 w' sl rs := by
  refine ⟨?_, fun r hr => (h.dom r hr).below hb⟩
  rcases h.row with h | ⟨c, o, e, h⟩
  · exact .inl h
  · exact .inr ⟨c, o, e, h.below hb⟩
/-- All channels of all Domains. -/
def totD (rs : List LSt) : Nat := (rs.map fun r => r.2.2.2.length).sum
theorem totD_add (a b : List LSt) : totD (a ++ b) = totD a + totD b := by simp [totD]
theorem totD_take (rs : List LSt) (k : Nat) (h : k < rs.length) : totD (rs.take (k + 1)) = totD (rs.take k) + rs[k].2.2.2.length := by
  rw [show rs.take (k + 1) = rs.take k ++ [rs[k]] by rw [List.take_add_one, List.getElem?_eq_getElem h]; rfl, totD_add]
  rfl
theorem totD_le (rs : List LSt) (k : Nat) : totD (rs.take k) ≤ totD rs := by
  have := congrArg totD (List.take_append_drop k rs)
  rw [totD_add] at this
  omega
theorem totD_mem (rs : List LSt) (r : LSt) (h : r ∈ rs) : r.2.2.2.length ≤ totD rs := by
  induction rs with
  | nil => cases h
  | cons a l ih =>
    rcases List.mem_cons.1 h with rfl | h
    · simp [totD]
    · have := ih h; simp only [totD, List.map_cons, List.sum_cons] at *; omega



end Go.Proofs.Ytgfclllfkpblnaa
