/-
  LISTS OF NUMBERS: how they lie, that all are in bounds, how they are copied and held against each other.
-/
import Derived.Test.YtnkiaickkbkjnaaRows
import Derived.WalkKit
import Derived.WalkSpells
import Derived.WalkLawsBesides
import Derived.Laws.EntriesVeiled
import Derived.Deep.QuietTactic
import Derived.BigQuiet
namespace Go.Proofs.Ytnkiaickkbkjnaa
open Go.RowKit
set_option linter.unusedVariables false

/-- Is it so? -/
noncomputable def B (p : Prop) : Bool := @decide p (Classical.propDecidable p)
theorem B_yes {p : Prop} (h : p) : B p = true := by unfold B; simp [h]
theorem B_no {p : Prop} (h : ¬ p) : B p = false := by unfold B; simp [h]
theorem B_iff {p q : Prop} (h : p ↔ q) : B p = B q := by rw [propext h]
theorem B_true {p : Prop} (h : B p = true) : p := by unfold B at h; simpa using h
theorem B_false {p : Prop} (h : B p = false) : ¬ p := by unfold B at h; simpa using h

def inB (lo hi a : Int) : Bool := decide (lo ≤ a ∧ a ≤ hi)

theorem bcell {W w1 : World} (hb : Below W.heap.size W w1) : (∀ b o, b < W.heap.size → w1.cell? ⟨b, o, none⟩ = W.cell? ⟨b, o, none⟩) ∧ (∀ b o, b < W.heap.size → w1.frozen? ⟨b, o, none⟩ = W.frozen? ⟨b, o, none⟩) :=
  ⟨fun _ _ h => hb.cell h, fun _ _ h => hb.frozen h⟩
theorem bT {W w w1 : World} (h : Below W.heap.size W w) (hb : Below w.heap.size w w1) : Below W.heap.size W w1 := h.trans (hb.mono h.size)
theorem bZ {W w1 : World} {o : Obj} (hb : Below (W.alloc o).heap.size (W.alloc o) w1) : W.heap.size < w1.heap.size := by have := hb.size; simp at this; omega
theorem bA {W w : World} (h : Below W.heap.size W w) (o : Obj) : Below W.heap.size W (w.alloc o) := h.alloc h.size o
theorem bA0 (W : World) (o : Obj) : Below W.heap.size W (W.alloc o) := (Below.refl _ _).alloc (Nat.le_refl _) o

/-- The numbers zs lie from cell o of block c on. -/
def IntsAt (w : World) (c o : Nat) (zs : List Int) : Prop :=
  c < w.heap.size ∧ ∀ i, i < zs.length → w.cell? ⟨c, o + i, none⟩ = some (.int .i64 (zs.getD i 0))
/-- A slice of the numbers zs. -/
def Ints (w : World) (sl : Option Addr) (zs : List Int) : Prop := zs = [] ∨ ∃ c o, sl = some ⟨c, o, none⟩ ∧ IntsAt w c o zs

theorem IntsAt.below {w w' : World} {c o : Nat} {zs : List Int} (h : IntsAt w c o zs) (hb : Below w.heap.size w w') : IntsAt w' c o zs :=
  ⟨Nat.lt_of_lt_of_le h.1 hb.size, fun i hi => (hb.cell h.1).trans (h.2 i hi)⟩
theorem Ints.below {w w' : World} {sl : Option Addr} {zs : List Int} (h : Ints w sl zs) (hb : Below w.heap.size w w') : Ints w' sl zs := by
  rcases h with h | ⟨c, o, e, h⟩
  · exact .inl h
  · exact .inr ⟨c, o, e, h.below hb⟩

theorem all_step (p : Int → Bool) (zs : List Int) (k : Nat) (h : k < zs.length) (hp : (zs.take k).all p = true) : (zs.take (k + 1)).all p = p (zs.getD k 0) := by
  rw [List.take_succ_eq_append_getElem h, List.all_append, hp]
  simp [h]
theorem all_no (p : Int → Bool) (zs : List Int) (k : Nat) (h : k < zs.length) (hp : p (zs.getD k 0) = false) : zs.all p = false := by
  rw [List.all_eq_false]
  exact ⟨zs[k], List.getElem_mem h, by simpa [h] using hp⟩
theorem all_end (p : Int → Bool) (zs : List Int) (k : Nat) (h : zs.length ≤ k) (hp : (zs.take k).all p = true) : zs.all p = true := by
  rwa [List.take_of_length_le h] at hp




/-- The first k of zs written, the rest noughts. -/
def vsOf (zs : List Int) (k : Nat) : Array Value := ((zs.take k).map (Value.int .i64) ++ List.replicate (zs.length - k) (Value.int .i64 0)).toArray
def RowAt (w : World) (b : Nat) (vs : Array Value) : Prop := w.heap[b]? = some (.cells vs 2)

theorem vs_size (zs : List Int) (k : Nat) (h : k ≤ zs.length) : (vsOf zs k).size = zs.length := by simp [vsOf]; omega
theorem vs_step (zs : List Int) (k : Nat) (h : k < zs.length) : (vsOf zs k).setIfInBounds k (.int .i64 (zs.getD k 0)) = vsOf zs (k + 1) := by
  apply Array.ext
  · simp [vsOf]; omega
  · intro i h1 h2
    simp only [Array.size_setIfInBounds] at h1
    rw [Array.getElem_setIfInBounds h1]
    simp only [vsOf, List.getElem_toArray]
    by_cases hi : k = i
    · subst hi
      rw [if_pos rfl, List.getElem_append_left (by simp; omega)]
      simp [h]
    · rw [if_neg hi]
      by_cases hlt : i < k
      · rw [List.getElem_append_left (by simp; omega), List.getElem_append_left (by simp; omega)]
        simp
      · rw [List.getElem_append_right (by simp; omega), List.getElem_append_right (by simp; omega)]
        simp
theorem vs_at (zs : List Int) (k : Nat) (h : k < zs.length) : (vsOf zs k)[k]? = some (.int .i64 0) := by
  rw [Array.getElem?_eq_getElem (by rw [vs_size zs k (by omega)]; exact h)]
  simp only [vsOf, List.getElem_toArray]
  rw [List.getElem_append_right (by simp; omega)]
  simp
theorem vs_all (zs : List Int) (k : Nat) (hk : zs.length ≤ k) (i : Nat) (h : i < zs.length) : (vsOf zs k)[i]? = some (.int .i64 (zs.getD i 0)) := by
  rw [Array.getElem?_eq_getElem (by simp [vsOf]; omega)]
  simp only [vsOf, List.getElem_toArray]
  rw [List.getElem_append_left (by simp; omega)]
  simp [h]
theorem RowAt.cell {w : World} {b : Nat} {vs : Array Value} (h : RowAt w b vs) (i : Nat) : w.cell? ⟨b, i, none⟩ = vs[i]? := by
  unfold RowAt at h; simp [World.cell?, h]
theorem RowAt.frozen {w : World} {b : Nat} {vs : Array Value} (h : RowAt w b vs) (i : Nat) : w.frozen? ⟨b, i, none⟩ = false := by
  unfold RowAt at h; simp [World.frozen?, h]
theorem RowAt.lt {w : World} {b : Nat} {vs : Array Value} (h : RowAt w b vs) : b < w.heap.size := (Array.getElem?_eq_some_iff.1 h).1
theorem RowAt.set {w : World} {b : Nat} {vs : Array Value} (h : RowAt w b vs) (i : Nat) (v : Value) : RowAt (w.setCell ⟨b, i, none⟩ v) b (vs.setIfInBounds i v) := heap_setCell_same w b i vs 2 v h
theorem RowAt.ints {w : World} {b : Nat} {zs : List Int} {k : Nat} (h : RowAt w b (vsOf zs k)) (hk : zs.length ≤ k) : IntsAt w b 0 zs :=
  ⟨h.lt, fun i hi => by rw [Nat.zero_add, h.cell i]; exact vs_all zs k hk i hi⟩

def mk64 (n : Nat) : Array Value := madeCells #[.int .i64 0] n
theorem mk64_eq (zs : List Int) : mk64 zs.length = vsOf zs 0 := by
  apply Array.toList_inj.1
  rw [mk64, toList_madeCells_one]
  simp [vsOf]
theorem info2 : ∃ i, Try.prog.info? 2 = some i ∧ i.zero = some (.int .i64 0) ∧ i.size = 1 ∧ i.bytes = 8 := by
  have h : ((Try.prog.info? 2).map fun i => (i.zero, i.size, i.bytes)) = some (some (.int .i64 0), 1, 8) := by kernel_rfl
  generalize Try.prog.info? 2 = o at *
  cases o with
  | none => simp at h
  | some i => simp at h; exact ⟨i, rfl, h.1, h.2.1, h.2.2⟩







end Go.Proofs.Ytnkiaickkbkjnaa
