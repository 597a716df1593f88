/-
  THE TWO MAPS BY WORD, AS SETS OF WORDS: what is written into them, in order; their keys.
-/
import Derived.Test.YtebmhpgaahhlpaaGreatDoorMa
import Derived.Maps.Own
import Derived.Sort.KeysCollected
import Derived.WideMake
namespace Go.Proofs.YtebmhpgaahhlpaaGreatDoor
open Go.RowKit
set_option linter.unusedVariables false
set_option linter.unusedSimpArgs false

/-- Whatever a map's value is, it is there. -/
def RV (_ : Value) : Option (DataW Unit × List MemPlace) := some (.lit (.bool true), [])
theorem wpList_insM {ops : Array Oper} {rest : List Oper} {o : Oper} {a : Act} {w a0 : World} {Q : Exit → Act → World → Prop} {t e : TypeId} (ht : Tryz.prog.underlying t = some (.map 9 e)) (hgd : o.guard = none) (m x v : Operand) (ho : o.op = .insert t m x v)
    (r n : Nat) (D : DataW Unit) (k : List UInt8) (hk : k.length ≤ maxLen) (hm : a.eval m = .map (some r)) (hx : a.eval x = .string ⟨k.toArray⟩)
    (hown : w.ownsMap Tryz.prog 9 RV r n D) (hD : Below r a0 w) (hn : n < maxLen) (h : ∀ W', W'.ownsMap Tryz.prog 9 RV r (n + 1) (D.put (.string k) (.lit (.bool true))) → Below r a0 W' → wpList Tryz.prog ops Q rest (a.put o.dst undef) W') : wpList Tryz.prog ops Q (o :: rest) a w := by
  refine wpList_plain hgd fun _ hK => ?_
  have hkey : keyOf Tryz.prog 9 (.string ⟨k.toArray⟩) = some (.string k) := by
    have := WideMaps.keyOf_string_mk (P := Tryz.prog) (k := 9) Tryz.underlying9 (s := ⟨k.toArray⟩) (by simpa [ByteArray.size] using hk)
    simpa using this
  obtain ⟨w', hrun, r1, r2⟩ := hown.update (val := a.eval v) (Maps.string_keyed Tryz.underlying9) ht hn hkey rfl
  unfold Oper.wp execOp
  simp only [ho, hm, hx, Sem.run_bind, hrun, Result.andThen_ok]
  have hr := hown.lt
  exact hK _ _ (h w' r1 (hD.grown r2 (by omega) (fun j e => by cases e; exact Nat.le_refl _)))

set_option maxHeartbeats 400000 in
/-- impl.addToTable. -/
theorem att_any (n : Int) (w : World) : Calls Tryz.prog 18 #[.int .i64 n] w fun e w' => ∃ a b c, e = .returned (.func a b c) ∧ Below w.heap.size w w' := by
  go_enter Tryz.func18, Tryz.ntmps18
  go_wp2
  go_ret
  exact ⟨_, _, _, rfl, bA0 _ _⟩
theorem ownsM_below {w w' : World} {r n : Nat} {D : DataW Unit} (h : w.ownsMap Tryz.prog 9 RV r n D) (hb : Below w.heap.size w w') : w'.ownsMap Tryz.prog 9 RV r n D := by
  have hl := h.lt
  obtain ⟨es, clock, hb1, F, hs, hD⟩ := h
  exact ⟨es, clock, (hb.block r hl).trans hb1, F, hs, hD⟩
/-- The words of the engine's lines, in order. -/
def cmdKeys : List (List UInt8) := [[98, 101, 115, 105, 100, 101], [98, 105, 100], [99, 104, 97, 110, 110, 101, 108], [99, 108, 111, 115, 101], [109, 117, 115, 116], [110, 101, 101, 100, 115], [111, 112, 101, 110], [114, 111, 117, 110, 100], [115, 97, 109, 101], [115, 116, 97, 116, 105, 111, 110], [116, 111, 116, 97, 108]]
/-- The words of the desk's own lines, in order. -/
def ownKeys : List (List UInt8) := [[97, 115, 107], [98, 105, 100, 115], [108, 105, 110, 101, 115], [112, 97, 121, 115], [112, 108, 97, 110], [115, 116, 97, 103, 101]]
/-- A map of these words. -/
def KM (w : World) (r : Nat) (ks : List (List UInt8)) : Prop := ∃ n D, w.ownsMap Tryz.prog 9 RV r n D ∧ strKeys D = ks ∧ Maps.size D = ks.length

set_option maxRecDepth 100000 in
set_option maxHeartbeats 4000000 in
/-- impl.commands. -/
theorem com_any (w : World) : Calls Tryz.prog 11 #[] w fun e w' => e = .returned (.map (some w.heap.size)) ∧ KM w' w.heap.size cmdKeys ∧ Below w.heap.size w w' := by
  have hmk : ∀ w : World, (Instr.makeMap 31 none).run Tryz.prog w = .ok (.map (some w.heap.size)) (w.alloc (.map #[] 0)) := fun w => run_makeMap_plain w 31
  have C0 := World.ownsMap_made w Tryz.prog 9 RV
  have D0 := bA0 w (.map #[] 0)
  have E := Lib.hid att_any
  go_enter Tryz.func11, Tryz.ntmps11
  go_wp2_with fail
  generalize w.alloc (.map #[] 0) = w0 at *
  refine (E.out _ _).mono ?_
  rintro e w1 ⟨x1, y1, z1, rfl, b1⟩
  have C1 := ownsM_below C0 b1
  have D1 := bT D0 b1
  clear b1 C0 D0 hmk
  go_wp2_with (refine wpList_insM Tryz.underlying31 rfl _ _ _ rfl w.heap.size _ _ _ (by decide) rfl rfl (by assumption) (by assumption) (by decide) ?_; intro W' hcm hD)
  refine (E.out _ _).mono ?_
  rintro e w2 ⟨x2, y2, z2, rfl, b2⟩
  have C2 := ownsM_below hcm b2
  have D2 := bT hD b2
  clear b2 hcm hD C1 D1
  go_wp2_with (refine wpList_insM Tryz.underlying31 rfl _ _ _ rfl w.heap.size _ _ _ (by decide) rfl rfl (by assumption) (by assumption) (by decide) ?_; intro W' hcm hD)
  refine (E.out _ _).mono ?_
  rintro e w3 ⟨x3, y3, z3, rfl, b3⟩
  have C3 := ownsM_below hcm b3
  have D3 := bT hD b3
  clear b3 hcm hD C2 D2
  go_wp2_with (refine wpList_insM Tryz.underlying31 rfl _ _ _ rfl w.heap.size _ _ _ (by decide) rfl rfl (by assumption) (by assumption) (by decide) ?_; intro W' hcm hD)
  go_ret
  refine ⟨rfl, ⟨_, _, by assumption, ?_, ?_⟩, ?_⟩
  · rfl
  · rfl
  · assumption

set_option maxRecDepth 100000 in
set_option maxHeartbeats 4000000 in
/-- impl.ownLines. -/
theorem own_any (w : World) : Calls Tryz.prog 14 #[] w fun e w' => e = .returned (.map (some w.heap.size)) ∧ KM w' w.heap.size ownKeys ∧ Below w.heap.size w w' := by
  have hmk : ∀ w : World, (Instr.makeMap 38 none).run Tryz.prog w = .ok (.map (some w.heap.size)) (w.alloc (.map #[] 0)) := fun w => run_makeMap_plain w 38
  have C0 := World.ownsMap_made w Tryz.prog 9 RV
  have D0 := bA0 w (.map #[] 0)
  go_enter Tryz.func14, Tryz.ntmps14
  go_wp2_with (refine wpList_insM Tryz.underlying38 rfl _ _ _ rfl w.heap.size _ _ _ (by decide) rfl rfl (by assumption) (by assumption) (by decide) ?_; intro W' hcm hD)
  go_ret
  refine ⟨rfl, ⟨_, _, by assumption, ?_, ?_⟩, ?_⟩
  · rfl
  · rfl
  · assumption

end Go.Proofs.YtebmhpgaahhlpaaGreatDoor
