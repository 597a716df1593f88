/-
  THE LAW FnExactTableRight: the walk.
-/
import Derived.Test.YtgfclllfkpblnaaAm
import Derived.Test.YtgfclllfkpblnaaAg
import Derived.Test.YtgfclllfkpblnaaAp
namespace Go.Proofs.Ytgfclllfkpblnaa
open Go.RowKit
set_option linter.unusedVariables false

theorem idsL_bare {rs rs' : List LSt} (h : bareS rs = bareS rs') : idsL rs = idsL rs' := by
  have := congrArg (List.map (fun r : Int × Int × List Int => r.1)) h
  simpa [bareS, idsL, Function.comp_def] using this
theorem TabR_bare {rs rs' : List LSt} (ps : List LPr) (h : bareS rs = bareS rs') (g : TabR rs ps) : TabR rs' ps := by
  obtain ⟨h1, h2, h3, h4, h5⟩ := g
  rw [bareS_len h] at h1
  rw [idsL_bare h] at h3 h4
  refine ⟨h1, fun r hr => ?_, h3, h4, h5⟩
  have hm : (r.1, r.2.1, r.2.2.2) ∈ bareS rs' := List.mem_map.2 ⟨r, hr, rfl⟩
  rw [← h] at hm
  obtain ⟨a, ha, e⟩ := List.mem_map.1 hm
  have := h2 a ha
  simp only [Prod.mk.injEq] at e
  rw [e.2.1, e.2.2] at this
  exact this
theorem BTab {rs rs' : List LSt} (ps : List LPr) (h : bareS rs = bareS rs') : B (TabR rs ps) = B (TabR rs' ps) := B_iff ⟨TabR_bare ps h, TabR_bare ps h.symm⟩

/-- A table of the laws, as it lies. -/
structure InT (w : World) (sl : Option Addr) (sl2 : Option Addr) (rs : List LSt) (ps : List LPr) : Prop where
  st : Sts0 w sl rs
  pr : Prs w sl2 ps
  wf : ∀ p ∈ ps, WfP p
  ln : rs.length ≤ maxLen
  lp : ps.length ≤ maxLen
theorem Sts0.small {w : World} {sl : Option Addr} {rs : List LSt} (h : Sts0 w sl rs) (hs : totD rs ≤ 1048576) : Sts w sl rs := by
  refine ⟨h.row, fun r hr => ?_⟩
  obtain ⟨s, c, e, hi, _⟩ := h.dom r hr
  exact ⟨s, c, e, hi, Nat.le_trans (totD_mem rs r hr) hs⟩

end Go.Proofs.Ytgfclllfkpblnaa
