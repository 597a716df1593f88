/-
  THE COMMANDS, AND WHAT IS ASKED OF THEM: which words there are, how many numbers each takes; numbers that are too great.
-/
import Derived.Test.YtemkfdpbhdjgfaaGreatDoorLi
import Derived.Test.YtemkfdpbhdjgfaaGreatDoorLg
namespace Go.Proofs.YtemkfdpbhdjgfaaGreatDoor
open Go.RowKit
set_option linter.unusedVariables false

theorem wpList_ins {ops : Array Oper} {rest : List Oper} {o : Oper} {a : Act} {w a0 : World} {Q : Exit → Act → World → Prop} (hgd : o.guard = none) (m x v : Operand) (ho : o.op = .insert 39 m x v)
    (r : Nat) (ks : List (List UInt8 × Int × Bool)) (k : List UInt8) (n : Int) (mo op ch : Bool) (fv : Value) (hfv : ∃ fx fy fz, fv = .func fx fy fz) (hm : a.eval m = .map (some r)) (hx : a.eval x = .string ⟨k.toArray⟩) (hv : a.eval v = .agg #[.int .i64 n, .bool mo, .bool op, .bool ch, fv])
    (hcm : CM w r ks) (hD : Below r a0 w) (hno : cmdOf ks k = none) (h : ∀ W', CM W' r (ks ++ [(k, n, mo)]) → Below r a0 W' → wpList Tryz.prog ops Q rest (a.put o.dst undef) W') : wpList Tryz.prog ops Q (o :: rest) a w :=
  wpList_cmd hgd m x v ho r ks k n mo op ch fv hfv hm hx hv hcm hno fun es clock hc => h _ hc (mapW_below hD r (Nat.le_refl _) es clock)
/-- All commands. -/
def cmdsL : List (List UInt8 × Int × Bool) := [([115, 116, 97, 116, 105, 111, 110], 3, true), ([115, 97, 109, 101], 2, false), ([98, 101, 115, 105, 100, 101], 2, false), ([109, 117, 115, 116], 1, false), ([111, 112, 101, 110], 5, true), ([114, 111, 117, 110, 100], 0, true), ([99, 108, 111, 115, 101], 1, false), ([110, 101, 101, 100, 115], 0, false), ([116, 111, 116, 97, 108], 0, false), ([98, 105, 100], 1, false), ([99, 104, 97, 110, 110, 101, 108], 1, false)]
theorem CM.made (w : World) : CM (w.alloc (.map #[] 0)) w.heap.size [] := ⟨#[], 0, by show (w.heap.push _)[w.heap.size]? = _; simp, .nil⟩

set_option maxHeartbeats 400000 in
/-- impl.addToTable. -/
theorem att_any (n : Int) (w : World) : Calls Tryz.prog 21 #[.int .i64 n] w fun e w' => ∃ a b c, e = .returned (.func a b c) ∧ Below w.heap.size w w' := by
  go_enter Tryz.func21, Tryz.ntmps21
  go_wp2
  go_ret
  exact ⟨_, _, _, rfl, bA0 _ _⟩

set_option maxRecDepth 100000 in
set_option maxHeartbeats 4000000 in
/-- impl.commands. -/
theorem com_any (w : World) : Calls Tryz.prog 12 #[] w fun e w' => e = .returned (.map (some w.heap.size)) ∧ CM w' w.heap.size cmdsL ∧ Below w.heap.size w w' := by
  have hmk : ∀ w : World, (Instr.makeMap 39 none).run Tryz.prog w = .ok (.map (some w.heap.size)) (w.alloc (.map #[] 0)) := fun w => run_makeMap_plain w 39
  have C0 := CM.made w
  have D0 := bA0 w (.map #[] 0)
  have E := Lib.hid att_any
  go_enter Tryz.func12, Tryz.ntmps12
  go_wp2_with fail
  generalize w.alloc (.map #[] 0) = w0 at *
  refine (E.out _ _).mono ?_
  rintro e w1 ⟨x1, y1, z1, rfl, b1⟩
  have C1 := C0.below b1
  have D1 := bT D0 b1
  clear b1 C0 D0 hmk
  go_wp2_with (refine wpList_ins rfl _ _ _ rfl w.heap.size _ _ _ _ _ _ _ (by exact ⟨_, _, _, rfl⟩) rfl rfl rfl (by assumption) (by assumption) (by decide) ?_; intro W' hcm hD; try dsimp only [List.nil_append, List.cons_append] at hcm)
  refine (E.out _ _).mono ?_
  rintro e w2 ⟨x2, y2, z2, rfl, b2⟩
  have C2 := hcm.below b2
  have D2 := bT hD b2
  clear b2 hcm hD C1 D1
  go_wp2_with (refine wpList_ins rfl _ _ _ rfl w.heap.size _ _ _ _ _ _ _ (by exact ⟨_, _, _, rfl⟩) rfl rfl rfl (by assumption) (by assumption) (by decide) ?_; intro W' hcm hD; try dsimp only [List.nil_append, List.cons_append] at hcm)
  refine (E.out _ _).mono ?_
  rintro e w3 ⟨x3, y3, z3, rfl, b3⟩
  have C3 := hcm.below b3
  have D3 := bT hD b3
  clear b3 hcm hD C2 D2
  go_wp2_with (refine wpList_ins rfl _ _ _ rfl w.heap.size _ _ _ _ _ _ _ (by exact ⟨_, _, _, rfl⟩) rfl rfl rfl (by assumption) (by assumption) (by decide) ?_; intro W' hcm hD; try dsimp only [List.nil_append, List.cons_append] at hcm)
  go_ret
  refine ⟨rfl, ?_, ?_⟩
  · assumption
  · assumption

end Go.Proofs.YtemkfdpbhdjgfaaGreatDoor
