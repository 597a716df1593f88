/-
  A CNF READ BY THE MODEL, AS LISTS: the lines one after another.
  A CNF READ BY THE MODEL, AS LISTS: the head's text, the literals' number.
-/
import Derived.Test.YtoncpiaboceefaaDoorGy
import Derived.Test.YtoncpiaboceefaaDoorQf
namespace Go.Proofs.YtoncpiaboceefaaDoor
open Go.RowKit
set_option linter.unusedVariables false

theorem specC_last (vars : Int) (many i k : Nat) (acc : List (List Int)) (L : List (List UInt8)) (l : List UInt8) (h : L[k]? = some l) (hk : k + 1 = L.length) : specC vars many i acc (L.drop k) = if l = [] ∧ i = many then (acc, 0, true) else ([], i + 1, false) := by
  obtain ⟨hk', e⟩ := List.getElem?_eq_some_iff.1 h
  rw [List.drop_eq_getElem_cons hk', e, List.drop_of_length_le (show L.length ≤ k + 1 by omega), specC, if_pos rfl]
theorem specC_more (vars : Int) (many i k : Nat) (acc : List (List Int)) (L : List (List UInt8)) (l : List UInt8) (h : L[k]? = some l) (hk : k + 1 < L.length) : specC vars many i acc (L.drop k) = if (litK l && B (ClR vars (litV l)) && decide (i < many)) = true then specC vars many (i + 1) (acc ++ [litV l]) (L.drop (k + 1)) else ([], i + 1, false) := by
  obtain ⟨hk', e⟩ := List.getElem?_eq_some_iff.1 h
  rw [List.drop_eq_getElem_cons hk', e, specC, if_neg (fun e => by have := congrArg List.length e; rw [List.length_drop, List.length_nil] at this; omega)]
/-- One line alone is no Cnf. -/
theorem readS_alone (t : List UInt8) (h : (splitL 10 t).length = 1) : readS t = (0, [], 0, false) := by
  obtain ⟨l, e⟩ := List.length_eq_one_iff.1 h
  unfold readS
  rw [e]
/-- The first of many lines. -/
theorem readS_first (t : List UInt8) (l : List UInt8) (h : (splitL 10 t)[0]? = some l) (hm : 1 < (splitL 10 t).length) : readS t = if headS l = true then (numV ((splitL 32 l).getD 2 []), specC (numV ((splitL 32 l).getD 2 [])) (numV ((splitL 32 l).getD 3 [])).toNat 0 [] ((splitL 10 t).drop 1)) else (0, [], 0, false) := by
  unfold readS
  generalize splitL 10 t = L at *
  match L, h, hm with
  | x :: y :: r, h, _ =>
    simp at h
    subst h
    rfl

end Go.Proofs.YtoncpiaboceefaaDoor
namespace Go.Proofs.YtoncpiaboceefaaDoor
open Go.RowKit
set_option linter.unusedVariables false

theorem wfI_big {a : Int} (h : -1000000000000000 < a ∧ a < 1000000000000000) : wfI a := by
  unfold wfI
  have e1 : IntKind.i64.min = -9223372036854775808 := by rfl
  have e2 : IntKind.i64.max = 9223372036854775807 := by rfl
  simp [Lit.wf, e1, e2]
  omega
theorem body_len (zs : List Int) : zs.length ≤ (bodyL zs).length := by
  unfold bodyL
  rw [List.length_append]
  induction zs with
  | nil => simp
  | cons z r ih =>
    simp only [List.flatMap_cons, List.length_append, List.length_cons, litB] at *
    omega
theorem lit_len {a : List UInt8} (h : litK a = true) : (litV a).length ≤ a.length := by
  have e := lit_line h
  have := body_len (litV a)
  rw [← e] at this
  exact this
theorem ba_head (l : List UInt8) (v m : Int) : (l = headT v m → (l == (({ data := #[112, 32, 99, 110, 102, 32] } : ByteArray) ++ { data := (Lib.itoa v).toArray } ++ { data := #[32] } ++ { data := (Lib.itoa m).toArray }).toList) = true) ∧ (¬ l = headT v m → (l == (({ data := #[112, 32, 99, 110, 102, 32] } : ByteArray) ++ { data := (Lib.itoa v).toArray } ++ { data := #[32] } ++ { data := (Lib.itoa m).toArray }).toList) = false) := by
  have e1 : (({ data := #[112, 32, 99, 110, 102, 32] } : ByteArray) ++ { data := (Lib.itoa v).toArray } ++ { data := #[32] } ++ { data := (Lib.itoa m).toArray }) = { data := (headT v m).toArray } := by
    have h1 := ba_app [112, 32, 99, 110, 102, 32] (Lib.itoa v)
    have h2 := ba_app ([112, 32, 99, 110, 102, 32] ++ Lib.itoa v) [32]
    have h3 := ba_app ([112, 32, 99, 110, 102, 32] ++ Lib.itoa v ++ [32]) (Lib.itoa m)
    rw [show headT v m = [112, 32, 99, 110, 102, 32] ++ Lib.itoa v ++ [32] ++ Lib.itoa m by simp [headT, P6], ← h3, ← h2, ← h1]
  rw [e1]
  have key : (({ data := (headT v m).toArray } : ByteArray)).toList = headT v m := by
    rw [Go.ByteArray.toList_eq]
  rw [key]
  exact ⟨fun h => by rw [h]; simp, fun h => by simp [h]⟩
end Go.Proofs.YtoncpiaboceefaaDoor
