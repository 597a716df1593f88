/-
  IS A PLACE AMONG PLACES? slices.Index and slices.Contains at places.
-/
import Derived.Test.YtgfclllfkpblnaaUb
namespace Go.Proofs.Ytgfclllfkpblnaa
open Go.RowKit
set_option linter.unusedVariables false

theorem eq34 (a b c d : Int) (w : World) : Sem.run Try.prog (binOp .eql 62 (.agg #[.int .i64 a, .int .i64 b]) (.agg #[.int .i64 c, .int .i64 d])) w = .ok (.bool (a == c && b == d)) w := by
  have u2 := Try.underlying2
  have a2 := Try.isAgg2
  have z2 := Try.sizeOf2
  have hS : Try.prog.underlying 62 = some (.struct (Try.prog.fieldsOf 62)) := by kernel_rfl
  have hp : Try.prog.stoodInHeld 62 = false := by kernel_rfl
  rw [run_eql_struct, show (10000 : Nat) = 9999 + 1 from rfl, run_equalIn_agg w 9999 62 _ _ hS hp]
  simp only [Program.fieldsOf, Try.underlying62]
  go_simp
  by_cases h1 : a = c <;> by_cases h2 : b = d <;> simp [h1, h2]
def NotP (pl : List LPl) (p : LPl) (k : Nat) : Prop := ∀ i (h : i < pl.length), i < k → pl[i] ≠ p
theorem NotP.all {pl : List LPl} {p : LPl} {k : Nat} (h : NotP pl p k) (hk : pl.length ≤ k) : p ∉ pl := fun g => by
  obtain ⟨i, hi, e⟩ := List.getElem_of_mem g
  exact h i hi (by omega) e
theorem NotP.step {pl : List LPl} {p : LPl} {k : Nat} (h : NotP pl p k) (hk : k < pl.length) (g : pl[k] ≠ p) : NotP pl p (k + 1) := fun i hi hik => by
  by_cases e : i = k
  · subst e; exact g
  · exact h i hi (by omega)
/-- Two cells. -/
def TwoAt (w : World) (b : Nat) (x y : Int) : Prop := w.heap[b]? = some (.cells #[.int .i64 x, .int .i64 y] 62)
theorem TwoAt.lt {w : World} {b : Nat} {x y : Int} (h : TwoAt w b x y) : b < w.heap.size := (Array.getElem?_eq_some_iff.1 h).1
theorem TwoAt.below {w w' : World} {b : Nat} {x y : Int} (h : TwoAt w b x y) (hb : Below w.heap.size w w') : TwoAt w' b x y := (hb.block b h.lt).trans h
theorem TwoAt.cells {w : World} {b : Nat} {x y : Int} (h : TwoAt w b x y) : w.cell? ⟨b, 0, none⟩ = some (.int .i64 x) ∧ w.cell? ⟨b, 1, none⟩ = some (.int .i64 y) := by
  unfold TwoAt at h
  constructor <;> simp [World.cell?, h]
theorem TwoAt.new (w : World) (x y : Int) : TwoAt (w.alloc (.cells #[.int .i64 x, .int .i64 y] 62)) w.heap.size x y := new_at _ _



end Go.Proofs.Ytgfclllfkpblnaa
