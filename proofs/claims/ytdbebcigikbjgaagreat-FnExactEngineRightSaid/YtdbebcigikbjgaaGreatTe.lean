/-
  AN ENGINE OF THE LAWS, OPENED: what an argument that reads as one is.
-/
import Derived.Test.YtdbebcigikbjgaaGreatTs
import Derived.Test.YtdbebcigikbjgaaGreatGy
namespace Go.Proofs.YtdbebcigikbjgaaGreat
open Go.RowKit Go.ChangeShapes Go.WideShapes
set_option linter.unusedVariables false

/-- An engine handed in. -/
structure InE (w : World) (sa ta xl sl tl bl pl ul : Option Addr) (ra : List LSt) (qa : List LPr) (zs : List Int) (rs : List LSt) (ps : List LPr) (bs : List LPr) (ls : List LPl) (us : List Int) : Prop where
  t : InT w sa ta ra qa
  xi : Ints w xl zs
  lx : zs.length ≤ maxLen
  s : InSg w sl tl bl pl ul rs ps bs ls us
theorem cells32k : Tryz.prog.cellsOf 32 = 13 := by kernel_rfl
theorem trod_struct4 {H : Type} {enc : TypeId × Value → H} {P : Program} {w : World} {base : Nat} {spare : Nat → Bool} {held : Bool} {t : TypeId} {f0 f1 f2 f3 : Field} {fuel : Nat} {cs : List Value} {x : DataW H × List MemPlace} (ht : P.underlying t = some (.struct #[f0, f1, f2, f3])) (h : DataW.trod enc P w base spare held fuel t cs = some x) :
    ∃ y0 y1 y2 y3 n, cs.length = P.cellsOf t ∧ DataW.trod enc P w base spare held n f0.type ((cs.drop f0.offset).take (P.cellsOf f0.type)) = some y0 ∧ DataW.trod enc P w base spare held n f1.type ((cs.drop f1.offset).take (P.cellsOf f1.type)) = some y1 ∧ DataW.trod enc P w base spare held n f2.type ((cs.drop f2.offset).take (P.cellsOf f2.type)) = some y2 ∧ DataW.trod enc P w base spare held n f3.type ((cs.drop f3.offset).take (P.cellsOf f3.type)) = some y3 := by
  obtain ⟨xs, n, _, rfl, hl, hlen, hf⟩ := DataW.trod_struct ht h
  match xs, hlen with
  | [y0, y1, y2, y3], _ => exact ⟨y0, y1, y2, y3, n, hl, by simpa using hf 0 f0 rfl, by simpa using hf 1 f1 rfl, by simpa using hf 2 f2 rfl, by simpa using hf 3 f3 rfl⟩
section
variable {H : Type} {enc : TypeId × Value → H} {W : World} {base : Nat} {sp : Nat → Bool} {held : Bool}
theorem open_eng {a0 a1 a2 a3 a4 a5 a6 a7 a8 a9 a10 a11 a12 a13 a14 a15 a16 : Value} {d : DataW H} {ps : List MemPlace} (h : DataW.Trod enc Tryz.prog W base sp held 34 (.agg #[a0, a1, a2, a3, a4, a5, a6, a7, a8, a9, a10, a11, a12, a13, a14, a15, a16]) d ps) :
    ∃ sa ca ta ka xl cx op sl cap tl kap top pr st bu bl cb pl cp ul cu ai fx gc gf ra qa zs rs qs bs ls us, (Value.agg #[a0, a1, a2, a3, a4, a5, a6, a7, a8, a9, a10, a11, a12, a13, a14, a15, a16]) = EnV sa (List.length ra) ca ta (List.length qa) ka xl (List.length zs) cx op sl (List.length rs) cap tl (List.length qs) kap top pr st bu bl (List.length bs) cb pl (List.length ls) cp ul (List.length us) cu ai fx gc gf ∧ InE W sa ta xl sl tl bl pl ul ra qa zs rs qs bs ls us := by
  obtain ⟨fuel, hf⟩ := h
  obtain ⟨y0, y1, y2, y3, n, _, f0, f1, f2, f3⟩ := trod_struct4 Tryz.underlying34 hf
  simp only [Value.cells, cells25, cells29, cells32k, cells4', List.drop_zero, List.take_succ_cons, List.take_zero, List.drop_succ_cons] at f0 f1 f2 f3
  obtain ⟨sa, ca, ta, ka, ra, qa, i0, i1, hT⟩ := open_tab0 f0
  obtain ⟨xl, cx, zs, h1, hI, hL⟩ := open_dom f1
  obtain ⟨op, h2⟩ := open_bo f2
  obtain ⟨sl, cap, tl, kap, top, pr, st, bu, bl, cb, pl, cp, ul, cu, ai, fx, gc, gf, rs, qs, bs, ls, us, h3, hS⟩ := open_stg ⟨_, f3⟩
  simp at h1 h2 h3
  obtain ⟨j0, j1, j2, j3, j4, j5, j6, j7, j8, j9, j10, j11, j12⟩ := h3
  exact ⟨sa, ca, ta, ka, xl, cx, op, sl, cap, tl, kap, top, pr, st, bu, bl, cb, pl, cp, ul, cu, ai, fx, gc, gf, ra, qa, zs, rs, qs, bs, ls, us, by rw [i0, i1, h1, h2, j0, j1, j2, j3, j4, j5, j6, j7, j8, j9, j10, j11, j12], ⟨hT, hI, hL, hS⟩⟩
end

end Go.Proofs.YtdbebcigikbjgaaGreat
