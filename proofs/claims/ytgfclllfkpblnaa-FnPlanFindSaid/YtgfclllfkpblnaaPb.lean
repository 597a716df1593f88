/-
  THE LAWS' PLANS: measured, copied, held against each other, marked.
-/
import Derived.Test.YtgfclllfkpblnaaPa
import Derived.Test.YtgfclllfkpblnaaAp
import Derived.Test.YtgfclllfkpblnaaAz
namespace Go.Proofs.Ytgfclllfkpblnaa
open Go.RowKit
set_option linter.unusedVariables false



/-- A row of places, the first of them written. -/
def Row2 (w : World) (b : Nat) (n : Nat) (ts : List LPl) : Prop :=
  ∃ vs : Array Value, w.heap[b]? = some (.cells vs 62) ∧ vs.size = n * 2 ∧ ∀ i (h : i < ts.length), vs[i * 2]? = some (.int .i64 ts[i].1) ∧ vs[i * 2 + 1]? = some (.int .i64 ts[i].2)
theorem Row2.lt {w : World} {b : Nat} {n : Nat} {ts : List LPl} (h : Row2 w b n ts) : b < w.heap.size := by
  obtain ⟨vs, h1, _⟩ := h
  exact (Array.getElem?_eq_some_iff.1 h1).1
theorem Row2.below {w w' : World} {b : Nat} {n : Nat} {ts : List LPl} (h : Row2 w b n ts) (hb : Below w.heap.size w w') : Row2 w' b n ts := by
  have hl := h.lt
  obtain ⟨vs, h1, h2, h3⟩ := h
  exact ⟨vs, (hb.block b hl).trans h1, h2, h3⟩
theorem Row2.there {w : World} {b : Nat} {n : Nat} {ts : List LPl} (h : Row2 w b n ts) (j : Nat) (hj : j < n * 2) : (∃ v, w.cell? ⟨b, j, none⟩ = some v) ∧ w.frozen? ⟨b, j, none⟩ = false := by
  obtain ⟨vs, h1, h2, h3⟩ := h
  exact ⟨⟨vs[j]'(by omega), by simp [World.cell?, h1, show j < vs.size by omega]⟩, by simp [World.frozen?, h1]⟩
theorem Row2.pls {w : World} {b n : Nat} {ts : List LPl} (h : Row2 w b n ts) : Pls w (some ⟨b, 0, none⟩) ts := by
  have hl := h.lt
  obtain ⟨vs, h1, h2, h3⟩ := h
  refine .inr ⟨b, 0, rfl, hl, fun i hi => ?_⟩
  have := h3 i hi
  constructor <;> simp [World.cell?, h1, this]
theorem Row2.step {w : World} {b : Nat} {n : Nat} {ts : List LPl} (h : Row2 w b n ts) (hl : ts.length < n) (x y : Int) (k : Nat) (hk : k = ts.length) :
    Row2 ((w.setCell ⟨b, k * 2, none⟩ (.int .i64 x)).setCell ⟨b, k * 2 + 1, none⟩ (.int .i64 y)) b n (ts ++ [(x, y)]) := by
  subst hk
  obtain ⟨vs, h1, h2, h3⟩ := h
  refine ⟨_, heap_setCell_same _ b _ _ 62 _ (heap_setCell_same w b _ vs 62 _ h1), by simp [h2], fun i hi => ?_⟩
  simp only [List.length_append, List.length_singleton] at hi
  by_cases e : i < ts.length
  · obtain ⟨a1, a2⟩ := h3 i e
    simp only [List.getElem_append_left e]
    refine ⟨?_, ?_⟩
    · rw [Array.getElem?_setIfInBounds_ne (by omega), Array.getElem?_setIfInBounds_ne (by omega)]; exact a1
    · rw [Array.getElem?_setIfInBounds_ne (by omega), Array.getElem?_setIfInBounds_ne (by omega)]; exact a2
  · have e' : i = ts.length := by omega
    subst e'
    simp only [List.getElem_append_right (Nat.le_refl _), Nat.sub_self, List.getElem_cons_zero]
    refine ⟨?_, ?_⟩
    · rw [Array.getElem?_setIfInBounds_ne (by omega), Array.getElem?_setIfInBounds_self_of_lt (by omega)]
    · rw [Array.getElem?_setIfInBounds_self_of_lt (by simp; omega)]
theorem info44 : (Try.prog.info? 62).map (fun i => (i.zero, i.size, i.bytes)) = some (some (.agg #[.int .i64 0, .int .i64 0]), 2, 16) := by kernel_rfl
theorem make44 (n : Nat) (h : n ≤ 1048576) (w : World) :
    ∃ vs : Array Value, Sem.run Try.prog (Instr.makeSlice 30 (.int .i64 (n : Int)) (.int .i64 (n : Int))) w = .ok (.slice (some ⟨w.heap.size, 0, none⟩) n n) (w.alloc (.cells vs 62)) ∧ Row2 (w.alloc (.cells vs 62)) w.heap.size n [] := by
  obtain ⟨i, h1, h2, h3, h4⟩ := info_parts info44
  have := run_make (P := Try.prog) w 30 62 i _ Try.underlying30 h1 h2 .i64 .i64 (n : Int) (n : Int) (by omega) (Int.le_refl _) (by rw [h4]; omega) (by omega)
  rw [h3] at this
  simp only [Int.toNat_natCast] at this
  exact ⟨_, this, _, new_at _ _, size_madeCells _ _, fun i hi => absurd hi (Nat.not_lt_zero _)⟩




/-- A row of m places. -/
def PlM (w : World) (b m : Nat) : Prop := ∃ vs : Array Value, w.heap[b]? = some (.cells vs 62) ∧ m * 2 ≤ vs.size
theorem PlM.set {w : World} {b m : Nat} (h : PlM w b m) (o : Nat) (v : Value) : PlM (w.setCell ⟨b, o, none⟩ v) b m := by
  obtain ⟨vs, h1, h2⟩ := h
  exact ⟨_, heap_setCell_same w b o vs 62 v h1, by simp [h2]⟩
theorem PlM.there {w : World} {b m : Nat} (h : PlM w b m) (j : Nat) (hj : j < m * 2) : (∃ v, w.cell? ⟨b, j, none⟩ = some v) ∧ w.frozen? ⟨b, j, none⟩ = false := by
  obtain ⟨vs, h1, h2⟩ := h
  exact ⟨⟨vs[j]'(by omega), by simp [World.cell?, h1, show j < vs.size by omega]⟩, by simp [World.frozen?, h1]⟩


end Go.Proofs.Ytgfclllfkpblnaa
