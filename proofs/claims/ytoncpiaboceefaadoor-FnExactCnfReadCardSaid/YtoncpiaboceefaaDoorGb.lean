/-
  headRight, and the closure of cnfIn that asks if a clause is right.
-/
import Derived.Test.YtoncpiaboceefaaDoorQd
import Derived.Test.YtoncpiaboceefaaDoorFj
namespace Go.Proofs.YtoncpiaboceefaaDoor
open Go.RowKit
set_option linter.unusedVariables false

/-- Two numbers that may head a Cnf. -/
noncomputable def headB (zs : List Int) : Bool := decide (zs.length = 2) && (B (CnfR (zs.getD 0 0) []) && (decide (0 ≤ zs.getD 1 0) && decide (zs.getD 1 0 ≤ 4000)))
set_option maxRecDepth 100000 in
set_option maxHeartbeats 2000000 in
theorem hr_any (g cap : Nat) (zs : List Int) (w : World) (hl : zs.length ≤ maxLen) (hcp : zs.length ≤ cap) (hz : IntsAt w g 0 zs) :
    Calls Tryd.prog 124 #[.slice (some ⟨g, 0, none⟩) zs.length cap] w fun e w' => e = .returned (.bool (headB zs)) ∧ Below w.heap.size w w' := by
  unfold maxLen at hl
  by_cases h2 : zs.length = 2
  · obtain ⟨x, y, rfl⟩ : ∃ x y, zs = [x, y] := by
      match zs, h2 with
      | [x, y], _ => exact ⟨x, y, rfl⟩
    have c0 : w.cell? ⟨g, 0, none⟩ = some (.int .i64 x) := hz.2 0 (by simp)
    have c1 : w.cell? ⟨g, 1, none⟩ = some (.int .i64 y) := hz.2 1 (by simp)
    have gl := hz.1
    have IC : Hid (∀ W, Below w.heap.size w W → Calls Tryd.prog 78 #[.agg #[.int .i64 x, .slice none 0 0]] W fun e w' => e = .returned (.bool (B (CnfR x []))) ∧ Below W.heap.size W w') := fun W _ => icr_any x none 0 [] W (by simp [maxLen]) ⟨.inl rfl, fun r hr => absurd hr List.not_mem_nil⟩
    have HB : Hid (headB [x, y] = (B (CnfR x []) && (decide (0 ≤ y) && decide (y ≤ 4000)))) := by show _ = _; simp [headB]
    have KX : Hid (∀ W, Below w.heap.size w W → W.cell? ⟨g, 1, none⟩ = some (.int .i64 y)) := fun W hW => (hW.cell gl).trans c1
    have BR := Lib.hid (Below.refl w.heap.size w)
    rw [HB.out]
    clear HB hz h2 hl
    have hcp2 : (2 : Int) ≤ (cap : Int) := by simp at hcp; omega
    clear hcp c1
    generalize B (CnfR x []) = bb at *
    show Calls Tryd.prog 124 #[.slice (some ⟨g, 0, none⟩) 2 cap] w _
    cases bb with
    | false =>
      rw [Bool.false_and]
      go_enter Tryd.func124, Tryd.ntmps124
      go_wp2_with (go_at_call 78; refine (IC.out _ BR.out).mono ?_; rintro e w2 ⟨rfl, b2⟩; have c2 := KX.out w2 b2; have B2 := Lib.hid b2; clear b2)
      go_ret
      exact ⟨rfl, B2.out⟩
    | true =>
      rw [Bool.true_and]
      by_cases hy : 0 ≤ y
      · by_cases hy2 : y ≤ 4000
        · rw [decide_eq_true hy, decide_eq_true hy2, Bool.true_and]
          go_enter Tryd.func124, Tryd.ntmps124
          go_wp2_with (go_at_call 78; refine (IC.out _ BR.out).mono ?_; rintro e w2 ⟨rfl, b2⟩; have c2 := KX.out w2 b2; have B2 := Lib.hid b2; clear b2)
          go_ret
          exact ⟨rfl, B2.out⟩
        · rw [decide_eq_true hy, decide_eq_false hy2, Bool.true_and]
          go_enter Tryd.func124, Tryd.ntmps124
          go_wp2_with (go_at_call 78; refine (IC.out _ BR.out).mono ?_; rintro e w2 ⟨rfl, b2⟩; have c2 := KX.out w2 b2; have B2 := Lib.hid b2; clear b2)
          go_ret
          exact ⟨by show Ending.returned (.bool (decide (y ≤ 4000))) = _; rw [decide_eq_false (by omega)], B2.out⟩
      · rw [decide_eq_false hy, Bool.false_and]
        go_enter Tryd.func124, Tryd.ntmps124
        go_wp2_with (go_at_call 78; refine (IC.out _ BR.out).mono ?_; rintro e w2 ⟨rfl, b2⟩; have c2 := KX.out w2 b2; have B2 := Lib.hid b2; clear b2)
        go_ret
        exact ⟨rfl, B2.out⟩
  · have HB : headB zs = false := by unfold headB; rw [decide_eq_false h2, Bool.false_and]
    rw [HB]
    have B2 := Lib.hid (Below.refl w.heap.size w)
    generalize zs.length = n at *
    clear hz HB
    have hn : ((n : Int) == 2) = false := by rw [beq_eq_false_iff_ne]; omega
    go_enter Tryd.func124, Tryd.ntmps124
    go_wp2
    go_ret
    exact ⟨rfl, B2.out⟩
set_option maxRecDepth 100000 in
set_option maxHeartbeats 2000000 in
/-- cnfIn$1. -/
theorem cr_any (vb : Nat) (vars : Int) (sl : Option Addr) (cap : Nat) (zs : List Int) (w : World) (hz : Ints w sl zs) (hv : w.cell? ⟨vb, 0, none⟩ = some (.int .i64 vars)) (hb : vb < w.heap.size) :
    Calls Tryd.prog 125 #[.slice sl zs.length cap, .pointer (some ⟨vb, 0, none⟩)] w fun e w' => e = .returned (.bool (B (ClR vars zs))) ∧ Below w.heap.size w w' := by
  have E := Lib.hid (clr_any vars sl cap zs w hz)
  clear hz
  generalize B (ClR vars zs) = bb at *
  generalize zs.length = n at *
  go_enter Tryd.func125, Tryd.ntmps125
  go_wp2_with (go_at_call 120; refine E.out.mono ?_; rintro e w2 ⟨rfl, b2⟩)
  have B2 := Lib.hid b2
  clear b2
  go_wp2
  go_ret
  exact ⟨rfl, B2.out⟩

end Go.Proofs.YtoncpiaboceefaaDoor
