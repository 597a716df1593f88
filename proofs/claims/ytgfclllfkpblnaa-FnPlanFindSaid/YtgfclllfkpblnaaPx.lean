/-
  THE LAW 7: the walk.
  IS A PLAN RIGHT? As both sides answer it.
-/
import Derived.Test.YtgfclllfkpblnaaAq
import Derived.Test.YtgfclllfkpblnaaPb
import Derived.Test.YtgfclllfkpblnaaPz
import Derived.Test.YtgfclllfkpblnaaPj
namespace Go.Proofs.Ytgfclllfkpblnaa
open Go.RowKit
set_option linter.unusedVariables false

theorem dom_bare {rs rs' : List LSt} (id top : Int) (h : bareS rs = bareS rs') : rs.flatMap (domF id top) = rs'.flatMap (domF id top) := by
  have e : ∀ l : List LSt, l.flatMap (domF id top) = (bareS l).flatMap (fun r => FF r.1 id top r.2.2) := fun l => by
    unfold bareS
    rw [List.flatMap_map]
    rfl
  rw [e, e, h]


end Go.Proofs.Ytgfclllfkpblnaa
namespace Go.Proofs.Ytgfclllfkpblnaa
open Go.RowKit
set_option linter.unusedVariables false

/-- What PlanRight answers. -/
noncomputable def planB (rs : List LSt) (ps : List LPr) (top : Int) (pl : List LPl) : Bool := decide (pl.length ≤ 400) && (faultA rs ps top pl == 0)
theorem planB_bare {rs rs' : List LSt} (ps : List LPr) (top : Int) (pl : List LPl) (h : bareS rs = bareS rs') : planB rs ps top pl = planB rs' ps top pl := by
  unfold planB
  rw [faultA_bare ps top pl h (fun id => dom_bare id top h) (BIds ps (pidsL pl) h)]

set_option maxRecDepth 100000 in
set_option maxHeartbeats 1000000 in
/-- impl.PlanRight. -/
theorem ipr_any (sl : Option Addr) (cap : Nat) (sl2 : Option Addr) (cap2 : Nat) (sl3 : Option Addr) (cap3 : Nat) (rs : List LSt) (ps : List LPr) (pl : List LPl) (top : Int) (w : World) (hn : rs.length ≤ 1048576) (hl : pl.length ≤ 1048576) (hz : Sts w sl rs) (hp : Prs w sl2 ps) (hw : ∀ p ∈ ps, WfP p) (hi : Pls w sl3 pl) (hc3 : pl.length ≤ cap3) :
    Calls Try.prog 8 #[TV sl rs.length cap sl2 ps.length cap2, .int .i64 top, .slice sl3 pl.length cap3] w fun e w' => e = .returned (.bool (planB rs ps top pl)) ∧ Below w.heap.size w w' := by
  have HT := Lib.hid (TabAt.new w sl rs.length cap sl2 ps.length cap2)
  have B0 := Lib.hid (bA0 w (.cells #[.slice sl rs.length cap, .slice sl2 ps.length cap2] 26))
  have E : Hid (∀ W, Below w.heap.size w W → Calls Try.prog 26 #[TV sl rs.length cap sl2 ps.length cap2, .int .i64 top, .slice sl3 pl.length cap3] W fun e w' => e = .returned (.int .i64 (faultA rs ps top pl)) ∧ Below W.heap.size W w') := fun W hW => ipf_any sl cap sl2 cap2 sl3 cap3 rs ps pl top W hn hl (hz.below hW) (hp.below hW) hw (hi.below hW) hc3
  clear hz hp hw hi
  obtain ⟨t0, t1⟩ := HT.out.cells
  have tl := HT.out.lt
  unfold planB
  by_cases h4 : pl.length ≤ 400
  · have h4' : (pl.length : Int) ≤ 400 := by omega
    rw [decide_eq_true h4, Bool.true_and]
    generalize faultA rs ps top pl = f at *
    generalize rs.length = n at *
    generalize ps.length = m at *
    generalize pl.length = l at *
    go_enter Try.func8, Try.ntmps8
    go_wp2_with fail
    refine (E.out _ B0.out).mono ?_
    rintro e w1 ⟨rfl, b1⟩
    have D1 := Lib.hid (bT B0.out b1)
    clear b1 E
    go_wp2
    go_ret
    exact ⟨rfl, D1.out⟩
  · have h4' : ¬ (pl.length : Int) ≤ 400 := by omega
    rw [decide_eq_false h4, Bool.false_and]
    generalize rs.length = n at *
    generalize ps.length = m at *
    generalize pl.length = l at *
    go_enter Try.func8, Try.ntmps8
    go_wp2
    go_ret
    exact ⟨rfl, B0.out⟩


end Go.Proofs.Ytgfclllfkpblnaa
