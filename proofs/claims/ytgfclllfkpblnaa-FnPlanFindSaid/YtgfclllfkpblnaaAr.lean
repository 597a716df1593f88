/-
  THE LAWS' TABLES, copied: whose memory the copies are.
-/
import Derived.Test.YtgfclllfkpblnaaAo
namespace Go.Proofs.Ytgfclllfkpblnaa
open Go.RowKit
set_option linter.unusedVariables false

/-- The numbers zs, in a block of their own. -/
def RowZ (w : World) (g : Nat) (zs : List Int) : Prop := RowAt w g (vsOf zs zs.length)
theorem RowZ.lt {w : World} {g : Nat} {zs : List Int} (h : RowZ w g zs) : g < w.heap.size := RowAt.lt h
theorem RowZ.below {w w' : World} {g : Nat} {zs : List Int} (h : RowZ w g zs) (hb : Below w.heap.size w w') : RowZ w' g zs := (hb.block g h.lt).trans h
theorem RowZ.set {w : World} {c : Nat} {zs : List Int} (h : RowZ w c zs) {b : Nat} (hb : c ≠ b) (i : Nat) (v : Value) : RowZ (w.setCell ⟨b, i, none⟩ v) c zs := (Below.heap_setCell _ _ _ _ hb).trans h
theorem RowZ.ints {w : World} {g : Nat} {zs : List Int} (h : RowZ w g zs) : Ints w (some ⟨g, 0, none⟩) zs := .inr ⟨g, 0, rfl, RowAt.ints h (Nat.le_refl _)⟩





/-- A station whose Domain has memory of its own, above block b. -/
def DomOwn (b : Nat) (w : World) (r : LSt) : Prop := ∃ g, r.2.2.1 = .slice (some ⟨g, 0, none⟩) r.2.2.2.length r.2.2.2.length ∧ RowZ w g r.2.2.2 ∧ b < g ∧ r.2.2.2.length ≤ 1048576
theorem DomOwn.below {b : Nat} {w w' : World} {r : LSt} (h : DomOwn b w r) (hb : Below w.heap.size w w') : DomOwn b w' r := by
  obtain ⟨g, e, hi, hg, hl⟩ := h
  exact ⟨g, e, hi.below hb, hg, hl⟩
theorem DomOwn.set {b : Nat} {w : World} {r : LSt} (h : DomOwn b w r) (i : Nat) (v : Value) : DomOwn b (w.setCell ⟨b, i, none⟩ v) r := by
  obtain ⟨g, e, hi, hg, hl⟩ := h
  exact ⟨g, e, hi.set (Nat.ne_of_gt hg) i v, hg, hl⟩
theorem DomOwn.din {b : Nat} {w : World} {r : LSt} (h : DomOwn b w r) : DomIn w r := by
  obtain ⟨g, e, hi, hg, hl⟩ := h
  exact ⟨_, _, e, hi.ints, hl⟩

theorem DomOwn.setLow {b : Nat} {w : World} {r : LSt} (h : DomOwn b w r) {b' : Nat} (hb : b' < b) (i : Nat) (v : Value) : DomOwn b (w.setCell ⟨b', i, none⟩ v) r := by
  obtain ⟨g, e, hi, hg, hl⟩ := h
  exact ⟨g, e, hi.set (by omega) i v, hg, hl⟩
theorem Row3.stsO {w : World} {b n : Nat} {rs : List LSt} (h : Row3 w b 67 n (rs.map stT)) (hd : ∀ r ∈ rs, DomOwn b w r) : Sts w (some ⟨b, 0, none⟩) rs := by
  refine ⟨.inr ⟨b, 0, rfl, h.lt, fun i hi => ?_⟩, fun r hr => (hd r hr).din⟩
  have := h.at i (by simpa using hi)
  simpa [stT] using this
/-- A table in memory of its own, from block C on. -/
structure OwnT (C : Nat) (w : World) (b1 b2 : Nat) (rs : List LSt) (ps : List LPr) : Prop where
  r1 : Row3 w b1 67 rs.length (rs.map stT)
  dom : ∀ r ∈ rs, DomOwn b1 w r
  r2 : Row3 w b2 69 ps.length (ps.map prT)
  lo1 : C ≤ b1
  lo2 : C ≤ b2
theorem OwnT.sts {C : Nat} {w : World} {b1 b2 : Nat} {rs : List LSt} {ps : List LPr} (h : OwnT C w b1 b2 rs ps) : Sts w (some ⟨b1, 0, none⟩) rs := h.r1.stsO h.dom
theorem OwnT.prs {C : Nat} {w : World} {b1 b2 : Nat} {rs : List LSt} {ps : List LPr} (h : OwnT C w b1 b2 rs ps) : Prs w (some ⟨b2, 0, none⟩) ps := h.r2.prs
theorem OwnT.below {C : Nat} {w w' : World} {b1 b2 : Nat} {rs : List LSt} {ps : List LPr} (h : OwnT C w b1 b2 rs ps) (hb : Below w.heap.size w w') : OwnT C w' b1 b2 rs ps :=
  ⟨h.r1.below hb, fun r hr => (h.dom r hr).below hb, h.r2.below hb, h.lo1, h.lo2⟩

end Go.Proofs.Ytgfclllfkpblnaa
