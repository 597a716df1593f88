/-
  THE LAW FnExactRecRead: an answer is marked and held; the walk.
-/
import Derived.Test.YtnkdkbchendpmaaDoorVb
namespace Go.Proofs.YtnkdkbchendpmaaDoor
open Go.RowKit
set_option linter.unusedVariables false

theorem own_v {B : Nat} {w : World} {v : Value} {n : Nat} {xs : List Value} (h : w.ownsRow B 2 1 v n xs) : ∃ sl cap, v = .slice sl n cap := by
  rcases h.2 with ⟨rfl, h0⟩ | ⟨g, cap, cur, rfl, _⟩
  · exact ⟨none, 0, by rw [h0]⟩
  · exact ⟨_, cap, rfl⟩
theorem below_row {B : Nat} {w0 w w' : World} {v : Value} {n : Nat} {xs : List Value} (h : Below B w0 w) (hB : B ≤ w.heap.size) (ho : w.ownsRow B 2 1 v n xs) (hg : w.grownBy w' v.ownBlock) : Below B w0 w' := h.grown hg hB (fun j hj => (ho.lt j hj).1)

set_option maxRecDepth 100000 in
set_option maxHeartbeats 1000000 in
theorem mkR_any (B : Nat) (k : Int) (v : Value) (zs : List Int) (w : World) (hn : zs.length ≤ 60) (h : w.ownsRow B 2 1 v zs.length (valsZ zs)) :
    Calls Tryd.prog 52 #[.agg #[.int .i64 k, v], .int .i64 1] w fun e w' => e = .returned (.int .i64 (1 + (zs.length : Int))) ∧ w'.ownsRow B 2 1 v zs.length (valsZ (marks 1 zs.length)) ∧ w.grownBy w' v.ownBlock := by
  obtain ⟨sl, cap, rfl⟩ := own_v h
  have M1 := Lib.hid (mark_row B _ zs 1 (by omega) (by omega) (by omega) _ (h.alloc (.cells #[.int .i64 k, .slice sl zs.length cap] 28)))
  clear h
  generalize zs.length = n at *
  go_enter Tryd.func52, Tryd.ntmps52
  go_wp2_with fail
  refine M1.out.mono ?_
  rintro e w1 ⟨rfl, o1, g1⟩
  have P := Lib.hid (And.intro o1 ((World.grownBy_alloc _ _ _).trans g1))
  clear o1 g1 M1
  go_wp2
  go_ret
  exact ⟨rfl, P.out.1, P.out.2⟩
set_option maxRecDepth 100000 in
set_option maxHeartbeats 1000000 in
theorem hdR_any (B : Nat) (k : Int) (v : Value) (n : Nat) (w : World) (hn : n ≤ 60) (h : w.ownsRow B 2 1 v n (valsZ (marks 1 n))) :
    Calls Tryd.prog 53 #[.agg #[.int .i64 k, v], .int .i64 1] w fun e w' => e = .returned (.int .i64 (1 + (n : Int))) ∧ Below w.heap.size w w' := by
  obtain ⟨sl, cap, rfl⟩ := own_v h
  have M1 := Lib.hid (held_row B _ n 1 (by omega) (by omega) (by omega) _ (h.alloc (.cells #[.int .i64 k, .slice sl n cap] 28)))
  have hk : ¬ (1 + (n : Int)) < 0 := by omega
  clear h
  go_enter Tryd.func53, Tryd.ntmps53
  go_wp2_with fail
  refine M1.out.mono ?_
  rintro e w1 ⟨rfl, rfl⟩
  go_wp2
  go_ret
  exact ⟨rfl, bA0 _ _⟩
set_option maxRecDepth 100000 in
set_option maxHeartbeats 1000000 in
theorem mkO_any (B : Nat) (k u c : Int) (v : Value) (zs : List Int) (w : World) (hn : zs.length ≤ 60) (h : w.ownsRow B 2 1 v zs.length (valsZ zs)) :
    Calls Tryd.prog 26 #[RO k v u c, .int .i64 1] w fun e w' => e = .returned (.int .i64 (1 + (zs.length : Int))) ∧ w'.ownsRow B 2 1 v zs.length (valsZ (marks 1 zs.length)) ∧ w.grownBy w' v.ownBlock := by
  obtain ⟨sl, cap, rfl⟩ := own_v h
  have M1 := Lib.hid (mkR_any B k _ zs (w.alloc (.cells #[.int .i64 k, .slice sl zs.length cap, .int .i64 u, .int .i64 c] 36)) hn (h.alloc _))
  clear h
  generalize zs.length = n at *
  go_enter Tryd.func26, Tryd.ntmps26
  go_wp2_with fail
  refine M1.out.mono ?_
  rintro e w1 ⟨rfl, o1, g1⟩
  have P := Lib.hid (And.intro o1 ((World.grownBy_alloc _ _ _).trans g1))
  clear o1 g1 M1
  go_wp2
  go_ret
  exact ⟨rfl, P.out.1, P.out.2⟩
set_option maxRecDepth 100000 in
set_option maxHeartbeats 1000000 in
theorem hdO_any (B : Nat) (k u c : Int) (v : Value) (n : Nat) (w : World) (hn : n ≤ 60) (h : w.ownsRow B 2 1 v n (valsZ (marks 1 n))) :
    Calls Tryd.prog 27 #[RO k v u c, .int .i64 1] w fun e w' => e = .returned (.int .i64 (1 + (n : Int))) ∧ Below w.heap.size w w' := by
  obtain ⟨sl, cap, rfl⟩ := own_v h
  have M1 := Lib.hid (hdR_any B k _ n (w.alloc (.cells #[.int .i64 k, .slice sl n cap, .int .i64 u, .int .i64 c] 36)) hn (h.alloc _))
  have hk : ¬ (1 + (n : Int)) < 0 := by omega
  clear h
  go_enter Tryd.func27, Tryd.ntmps27
  go_wp2_with fail
  refine M1.out.mono ?_
  rintro e w1 ⟨rfl, b1⟩
  have P := Lib.hid (bT (bA0 w _) b1)
  clear b1 M1
  go_wp2
  go_ret
  exact ⟨rfl, P.out⟩

end Go.Proofs.YtnkdkbchendpmaaDoor
