/-
  AN ORACLE'S ANSWER OF THE LAWS, OPENED: what an argument that reads as one is.
-/
import Derived.Test.YtllaiigjkchahaaDoorTp
import Derived.Test.YtllaiigjkchahaaDoorTl
namespace Go.Proofs.YtllaiigjkchahaaDoor
open Go.RowKit Go.ChangeShapes Go.WideShapes
set_option linter.unusedVariables false

theorem trod_struct6 {H : Type} {enc : TypeId × Value → H} {P : Program} {w : World} {base : Nat} {spare : Nat → Bool} {held : Bool} {t : TypeId} {f0 f1 f2 f3 f4 f5 : Field} {fuel : Nat} {cs : List Value} {x : DataW H × List MemPlace} (ht : P.underlying t = some (.struct #[f0, f1, f2, f3, f4, f5])) (h : DataW.trod enc P w base spare held fuel t cs = some x) :
    ∃ y0 y1 y2 y3 y4 y5 n, cs.length = P.cellsOf t ∧ DataW.trod enc P w base spare held n f0.type ((cs.drop f0.offset).take (P.cellsOf f0.type)) = some y0 ∧ DataW.trod enc P w base spare held n f1.type ((cs.drop f1.offset).take (P.cellsOf f1.type)) = some y1 ∧ DataW.trod enc P w base spare held n f2.type ((cs.drop f2.offset).take (P.cellsOf f2.type)) = some y2 ∧ DataW.trod enc P w base spare held n f3.type ((cs.drop f3.offset).take (P.cellsOf f3.type)) = some y3 ∧ DataW.trod enc P w base spare held n f4.type ((cs.drop f4.offset).take (P.cellsOf f4.type)) = some y4 ∧ DataW.trod enc P w base spare held n f5.type ((cs.drop f5.offset).take (P.cellsOf f5.type)) = some y5 := by
  obtain ⟨xs, n, _, rfl, hl, hlen, hf⟩ := DataW.trod_struct ht h
  match xs, hlen with
  | [y0, y1, y2, y3, y4, y5], _ => exact ⟨y0, y1, y2, y3, y4, y5, n, hl, by simpa using hf 0 f0 rfl, by simpa using hf 1 f1 rfl, by simpa using hf 2 f2 rfl, by simpa using hf 3 f3 rfl, by simpa using hf 4 f4 rfl, by simpa using hf 5 f5 rfl⟩
theorem cellsS22 : Tryd.prog.cellsOf 22 = 1 := by kernel_rfl
theorem cellsS29 : Tryd.prog.cellsOf 29 = 1 := by kernel_rfl
section
variable {H : Type} {enc : TypeId × Value → H} {W : World} {base : Nat} {sp : Nat → Bool} {held : Bool}
theorem open_ask {a0 a1 a2 a3 a4 a5 : Value} {d : DataW H} {ps : List MemPlace} (h : DataW.Trod enc Tryd.prog W base sp held 31 (.agg #[a0, a1, a2, a3, a4, a5]) d ps) :
    ∃ v hw s1 c1 pl s2 c2 cl st cd, (Value.agg #[a0, a1, a2, a3, a4, a5]) = .agg #[.int .i64 v, .int .i64 hw, .slice s1 (List.length pl) c1, .slice s2 (List.length cl) c2, .int .i64 st, .int .i64 cd] ∧ (Pls W s1 pl ∧ pl.length ≤ maxLen ∧ ∀ p ∈ pl, WfPl p) ∧ (cl.length ≤ maxLen ∧ Cls W s2 cl ∧ ∀ r ∈ cl, ∀ z ∈ r.2, wfI z) ∧ wfI st := by
  obtain ⟨fuel, hf⟩ := h
  obtain ⟨y0, y1, y2, y3, y4, y5, n, _, f0, f1, f2, f3, f4, f5⟩ := trod_struct6 Tryd.underlying31 hf
  simp only [Value.cells, cellsS22, cellsS29, cells2', List.drop_zero, List.take_succ_cons, List.take_zero, List.drop_succ_cons] at f0 f1 f2 f3 f4 f5
  obtain ⟨v, h0, _⟩ := open_i64 f0
  obtain ⟨hw, h1, _⟩ := open_i64 f1
  obtain ⟨s1, c1, pl, h2, hp, hlp, hwp⟩ := open_pls0 f2
  obtain ⟨s2, c2, cl, h3, hc⟩ := open_rows f3
  obtain ⟨st, h4, w4⟩ := open_i64 f4
  obtain ⟨cd, h5, _⟩ := open_i64 f5
  simp at h0 h1 h2 h3 h4 h5
  exact ⟨v, hw, s1, c1, pl, s2, c2, cl, st, cd, by rw [h0, h1, h2, h3, h4, h5], ⟨hp, hlp, hwp⟩, hc, w4⟩
end
end Go.Proofs.YtllaiigjkchahaaDoor
