/-
  A STAGE OF THE LAWS, OPENED: what an argument that reads as one is.
-/
import Derived.Test.YtanoklpffenljaaGreatDoorTz
import Derived.Test.YtanoklpffenljaaGreatDoorEz
namespace Go.Proofs.YtanoklpffenljaaGreatDoor
open Go.RowKit Go.ChangeShapes Go.WideShapes
set_option linter.unusedVariables false

structure InSg (w : World) (sl tl bl pl ul : Option Addr) (rs : List LSt) (ps : List LPr) (bs : List LPr) (ls : List LPl) (us : List Int) : Prop where
  c : InC w sl tl bl pl rs ps bs ls
  ui : Ints w ul us
  lu : us.length ≤ maxLen
theorem cells4' : Tryz.prog.cellsOf 4 = 1 := by kernel_rfl
theorem trod_struct6 {H : Type} {enc : TypeId × Value → H} {P : Program} {w : World} {base : Nat} {spare : Nat → Bool} {held : Bool} {t : TypeId} {f0 f1 f2 f3 f4 f5 : Field} {fuel : Nat} {cs : List Value} {x : DataW H × List MemPlace} (ht : P.underlying t = some (.struct #[f0, f1, f2, f3, f4, f5])) (h : DataW.trod enc P w base spare held fuel t cs = some x) :
    ∃ y0 y1 y2 y3 y4 y5 n, cs.length = P.cellsOf t ∧ DataW.trod enc P w base spare held n f0.type ((cs.drop f0.offset).take (P.cellsOf f0.type)) = some y0 ∧ DataW.trod enc P w base spare held n f1.type ((cs.drop f1.offset).take (P.cellsOf f1.type)) = some y1 ∧ DataW.trod enc P w base spare held n f2.type ((cs.drop f2.offset).take (P.cellsOf f2.type)) = some y2 ∧ DataW.trod enc P w base spare held n f3.type ((cs.drop f3.offset).take (P.cellsOf f3.type)) = some y3 ∧ DataW.trod enc P w base spare held n f4.type ((cs.drop f4.offset).take (P.cellsOf f4.type)) = some y4 ∧ DataW.trod enc P w base spare held n f5.type ((cs.drop f5.offset).take (P.cellsOf f5.type)) = some y5 := by
  obtain ⟨xs, n, _, rfl, hl, hlen, hf⟩ := DataW.trod_struct ht h
  match xs, hlen with
  | [y0, y1, y2, y3, y4, y5], _ => exact ⟨y0, y1, y2, y3, y4, y5, n, hl, by simpa using hf 0 f0 rfl, by simpa using hf 1 f1 rfl, by simpa using hf 2 f2 rfl, by simpa using hf 3 f3 rfl, by simpa using hf 4 f4 rfl, by simpa using hf 5 f5 rfl⟩
section
variable {H : Type} {enc : TypeId × Value → H} {W : World} {base : Nat} {sp : Nat → Bool} {held : Bool}
theorem open_bo {fuel : Nat} {cs : List Value} {x : DataW H × List MemPlace} (h : DataW.trod enc Tryz.prog W base sp held fuel 4 cs = some x) : ∃ b, cs = [.bool b] := by
  obtain ⟨b, hb, _⟩ := DataW.trod_bool Tryz.underlying4 h
  exact ⟨b, hb⟩
/-- A stage handed in. -/
theorem open_stg {a0 a1 a2 a3 a4 a5 a6 a7 a8 a9 a10 a11 a12 : Value} {d : DataW H} {ps : List MemPlace} (h : DataW.Trod enc Tryz.prog W base sp held 45 (.agg #[a0, a1, a2, a3, a4, a5, a6, a7, a8, a9, a10, a11, a12]) d ps) :
    ∃ sl cap tl kap top pr st bu bl cb pl cp ul cu ai fx gc gf rs qs bs ls us, (Value.agg #[a0, a1, a2, a3, a4, a5, a6, a7, a8, a9, a10, a11, a12]) = SgV sl (List.length rs) cap tl (List.length qs) kap top pr st bu bl (List.length bs) cb pl (List.length ls) cp ul (List.length us) cu ai fx gc gf ∧ InSg W sl tl bl pl ul rs qs bs ls us ∧ (∀ p ∈ ls, WfL p) ∧ wfI top ∧ wfI ai := by
  obtain ⟨fuel, hf⟩ := h
  obtain ⟨y0, y1, y2, y3, y4, y5, n, _, f0, f1, f2, f3, f4, f5⟩ := trod_struct6 Tryz.underlying45 hf
  simp only [Value.cells, cells29k, cells29, cells2', cells4', List.drop_zero, List.take_succ_cons, List.take_zero, List.drop_succ_cons] at f0 f1 f2 f3 f4 f5
  obtain ⟨sl, cap, tl, kap, top, pr, st, bu, bl, cb, pl, cp, rs, qs, bs, ls, h0, hC, hwl, wtop⟩ := open_clk ⟨_, f0⟩
  obtain ⟨ul, cu, us, h1, hI, hL⟩ := open_dom f1
  obtain ⟨ai, h2, wai⟩ := open_i64 f2
  obtain ⟨fx, h3, _⟩ := open_i64 f3
  obtain ⟨gc, h4⟩ := open_bo f4
  obtain ⟨gf, h5⟩ := open_bo f5
  simp at h0 h1 h2 h3 h4 h5
  obtain ⟨i0, i1, i2, i3, i4, i5, i6, i7⟩ := h0
  exact ⟨sl, cap, tl, kap, top, pr, st, bu, bl, cb, pl, cp, ul, cu, ai, fx, gc, gf, rs, qs, bs, ls, us, by rw [i0, i1, i2, i3, i4, i5, i6, i7, h1, h2, h3, h4, h5], ⟨hC, hI, hL⟩, hwl, wtop, wai⟩
end

end Go.Proofs.YtanoklpffenljaaGreatDoor
