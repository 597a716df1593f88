/-
  READING MONEY, AS THE MODEL DOES.
-/
import Derived.Test.YtcganhhnkidddaaDoorRc
namespace Go.Proofs.YtcganhhnkidddaaDoor
open Go.RowKit
set_option linter.unusedVariables false

def sgn (v : Int) : List UInt8 := if v < 0 then [45] else []
def qD (v : Int) : List UInt8 := Lib.decDigits (mag v / 100).toNat
theorem good_parts (s : ByteArray) (hg : goodT s.data.toList) :
    (s.extract 0 (s.size - 3)).data.toList = sgn (vOf s.data.toList) ++ qD (vOf s.data.toList) ∧ (s.extract (s.size - 2) s.size).data.toList = [by8 (48 + mag (vOf s.data.toList) / 10 % 10), by8 (48 + mag (vOf s.data.toList) % 10)] := by
  have e := hg.2
  have hl : s.data.toList.length = s.size := by simp
  unfold mtextI at e
  change sgn _ ++ qD _ ++ [46] ++ [_, _] = _ at e
  generalize vOf s.data.toList = v at *
  rw [Lib.extract_data, Lib.extract_data, ← hl]
  generalize s.data.toList = t at *
  subst e
  generalize by8 (48 + mag v / 10 % 10) = x at *
  generalize by8 (48 + mag v % 10) = y at *
  generalize sgn v ++ qD v = l at *
  have e3 : (l ++ [46] ++ [x, y]).length = l.length + 3 := by simp
  rw [e3]
  constructor
  · simp
  · rw [show l.length + 3 - 2 = (l ++ [46]).length by simp, List.drop_left]; simp
theorem by8_small (x : Int) (h0 : 0 ≤ x) (h1 : x < 10) : ((by8 (48 + x)).toNat : Int) = 48 + x := by8_nat (by omega) (by omega)
theorem good_two (s : ByteArray) (hg : goodT s.data.toList) (h0 : 0 < (s.extract (s.size - 2) s.size).size) (h1 : 1 < (s.extract (s.size - 2) s.size).size) :
    ((s.extract (s.size - 2) s.size)[0].toNat : Int) = 48 + mag (vOf s.data.toList) / 10 % 10 ∧ ((s.extract (s.size - 2) s.size)[1].toNat : Int) = 48 + mag (vOf s.data.toList) % 10 := by
  have h := (good_parts s hg).2
  have m0 : 0 ≤ mag (vOf s.data.toList) := by unfold mag; omega
  have e0 : (s.extract (s.size - 2) s.size).data.toList[0]? = some (s.extract (s.size - 2) s.size)[0] := by rw [List.getElem?_eq_getElem (by simpa using h0)]; rfl
  have e1 : (s.extract (s.size - 2) s.size).data.toList[1]? = some (s.extract (s.size - 2) s.size)[1] := by rw [List.getElem?_eq_getElem (by simpa using h1)]; rfl
  rw [h] at e0 e1
  simp only [List.getElem?_cons_zero, List.getElem?_cons_succ, Option.some.injEq] at e0 e1
  rw [← e0, ← e1]
  exact ⟨by8_small _ (by omega) (by omega), by8_small _ (by omega) (by omega)⟩
theorem told_any_good (s : ByteArray) (hp : 0 < s.size) (v : Int) (h : (⟨(mtextOf v).toArray⟩ : ByteArray) = s) : goodT s.data.toList ∧ vOf s.data.toList = v := by
  have e := ba_list.1 h
  unfold mtextOf at e
  by_cases hm : isM v = true
  · rw [if_pos hm] at e
    have e2 : vOf s.data.toList = v := by rw [← e]; exact vOf_mtext v
    exact ⟨⟨by rw [e2]; exact hm, by rw [e2]; exact e⟩, e2⟩
  · rw [if_neg hm] at e
    have : s.data.toList.length = 0 := by rw [← e]; rfl
    have e2 : s.data.toList.length = s.size := by simp
    omega
theorem told_bad (s : ByteArray) (hp : 0 < s.size) (hg : ¬ goodT s.data.toList) (v : Int) : ((⟨(mtextOf v).toArray⟩ : ByteArray).toList == s.toList) = false := by
  rw [beq_eq_false_iff_ne, Go.ByteArray.toList_eq, Go.ByteArray.toList_eq]
  exact fun e => hg (told_any_good s hp v (Go.WideShapes.bytes_inj e)).1
theorem told_self (s : ByteArray) (hg : goodT s.data.toList) : (⟨(mtextOf (vOf s.data.toList)).toArray⟩ : ByteArray) = s := by
  unfold mtextOf; rw [if_pos hg.1]; exact ba_list.2 hg.2

end Go.Proofs.YtcganhhnkidddaaDoor
