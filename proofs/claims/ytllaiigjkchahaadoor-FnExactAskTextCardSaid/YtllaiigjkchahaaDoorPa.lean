/-
  PLANS: lists of places, and their Ids as both sides gather them.
-/
import Derived.Test.YtllaiigjkchahaaDoorAe
namespace Go.Proofs.YtllaiigjkchahaaDoor
open Go.RowKit
set_option linter.unusedVariables false

/-- A place: an Id and a Channel. -/
abbrev LPl := Int × Int
/-- Places lie from cell o of block c on. -/
structure PlAt (w : World) (c o : Nat) (pl : List LPl) : Prop where
  lt : c < w.heap.size
  cell : ∀ i (h : i < pl.length), w.cell? ⟨c, o + i * 2, none⟩ = some (.int .i64 pl[i].1) ∧ w.cell? ⟨c, o + i * 2 + 1, none⟩ = some (.int .i64 pl[i].2)
/-- A slice of the places pl. -/
def Pls (w : World) (sl : Option Addr) (pl : List LPl) : Prop := pl = [] ∨ ∃ c o, sl = some ⟨c, o, none⟩ ∧ PlAt w c o pl
theorem PlAt.below {w w' : World} {c o : Nat} {pl : List LPl} (h : PlAt w c o pl) (hb : Below w.heap.size w w') : PlAt w' c o pl :=
  ⟨Nat.lt_of_lt_of_le h.lt hb.size, fun i hi => ⟨(hb.cell h.lt).trans (h.cell i hi).1, (hb.cell h.lt).trans (h.cell i hi).2⟩⟩
theorem Pls.below {w w' : World} {sl : Option Addr} {pl : List LPl} (h : Pls w sl pl) (hb : Below w.heap.size w w') : Pls w' sl pl := by
  rcases h with h | ⟨c, o, e, h⟩
  · exact .inl h
  · exact .inr ⟨c, o, e, h.below hb⟩
def pidsL (pl : List LPl) : List Int := pl.map fun p => p.1
theorem pidsL_len (pl : List LPl) : (pidsL pl).length = pl.length := by simp [pidsL]
theorem pidsL_step (pl : List LPl) (k : Nat) (h : k < pl.length) : valsZ ((pidsL pl).take k) ++ [.int .i64 pl[k].1] = valsZ ((pidsL pl).take (k + 1)) := by
  rw [List.take_add_one, show (pidsL pl)[k]? = some pl[k].1 by simp [pidsL, h]]
  simp [valsZ]
/-- The Ids as they stand; none, if they are too many. -/
def pidsA (pl : List LPl) : List Int := if pl.length ≤ 400 then pidsL pl else []
theorem pidsA_len (pl : List LPl) : (pidsA pl).length ≤ 400 := by
  unfold pidsA
  split
  · rw [pidsL_len]; assumption
  · exact Nat.zero_le _

/-- An empty row just made. -/
theorem own_none5 (w : World) : (w.alloc (.cells #[] 2)).ownsRow w.heap.size 2 1 (.slice (some ⟨w.heap.size, 0, none⟩) 0 0) 0 [] :=
  ⟨rfl, .inr ⟨w.heap.size, 0, #[], rfl, Nat.le_refl _, by show (w.heap.push _)[w.heap.size]? = _; simp, Nat.le_refl _, Nat.zero_le _, rfl, rfl⟩⟩



end Go.Proofs.YtllaiigjkchahaaDoor
