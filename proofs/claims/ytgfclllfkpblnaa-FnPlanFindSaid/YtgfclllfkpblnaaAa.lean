/-
  LISTS OF NUMBERS: how they lie, that all are in bounds, how they are copied and held against each other.
-/
import Derived.Test.YtgfclllfkpblnaaRows
import Derived.WalkKit
import Derived.WalkSpells
import Derived.WalkLawsBesides
import Derived.Laws.EntriesVeiled
import Derived.Deep.QuietTactic
import Derived.BigQuiet
namespace Go.Proofs.Ytgfclllfkpblnaa
open Go.RowKit
set_option linter.unusedVariables false

/-- Is it so? -/
noncomputable def B (p : Prop) : Bool := @decide p (Classical.propDecidable p)
theorem B_yes {p : Prop} (h : p) : B p = true := by unfold B; simp [h]
theorem B_no {p : Prop} (h : ¬ p) : B p = false := by unfold B; simp [h]
theorem B_iff {p q : Prop} (h : p ↔ q) : B p = B q := by rw [propext h]
theorem B_true {p : Prop} (h : B p = true) : p := by unfold B at h; simpa using h
theorem B_false {p : Prop} (h : B p = false) : ¬ p := by unfold B at h; simpa using h

def inB (lo hi a : Int) : Bool := decide (lo ≤ a ∧ a ≤ hi)

theorem bcell {W w1 : World} (hb : Below W.heap.size W w1) : (∀ b o, b < W.heap.size → w1.cell? ⟨b, o, none⟩ = W.cell? ⟨b, o, none⟩) ∧ (∀ b o, b < W.heap.size → w1.frozen? ⟨b, o, none⟩ = W.frozen? ⟨b, o, none⟩) :=
  ⟨fun _ _ h => hb.cell h, fun _ _ h => hb.frozen h⟩
theorem bT {W w w1 : World} (h : Below W.heap.size W w) (hb : Below w.heap.size w w1) : Below W.heap.size W w1 := h.trans (hb.mono h.size)
theorem bZ {W w1 : World} {o : Obj} (hb : Below (W.alloc o).heap.size (W.alloc o) w1) : W.heap.size < w1.heap.size := by have := hb.size; simp at this; omega
theorem bA {W w : World} (h : Below W.heap.size W w) (o : Obj) : Below W.heap.size W (w.alloc o) := h.alloc h.size o
theorem bA0 (W : World) (o : Obj) : Below W.heap.size W (W.alloc o) := (Below.refl _ _).alloc (Nat.le_refl _) o

/-- The numbers zs lie from cell o of block c on. -/
def IntsAt (w : World) (c o : Nat) (zs : List Int) : Prop :=
  c < w.heap.size ∧ ∀ i, i < zs.length → w.cell? ⟨c, o + i, none⟩ = some (.int .i64 (zs.getD i 0))
/-- A slice of the numbers zs. -/
def Ints (w : World) (sl : Option Addr) (zs : List Int) : Prop := zs = [] ∨ ∃ c o, sl = some ⟨c, o, none⟩ ∧ IntsAt w c o zs

theorem IntsAt.below {w w' : World} {c o : Nat} {zs : List Int} (h : IntsAt w c o zs) (hb : Below w.heap.size w w') : IntsAt w' c o zs :=
  ⟨Nat.lt_of_lt_of_le h.1 hb.size, fun i hi => (hb.cell h.1).trans (h.2 i hi)⟩
theorem Ints.below {w w' : World} {sl : Option Addr} {zs : List Int} (h : Ints w sl zs) (hb : Below w.heap.size w w') : Ints w' sl zs := by
  rcases h with h | ⟨c, o, e, h⟩
  · exact .inl h
  · exact .inr ⟨c, o, e, h.below hb⟩

theorem all_step (p : Int → Bool) (zs : List Int) (k : Nat) (h : k < zs.length) (hp : (zs.take k).all p = true) : (zs.take (k + 1)).all p = p (zs.getD k 0) := by
  rw [List.take_succ_eq_append_getElem h, List.all_append, hp]
  simp [h]
theorem all_no (p : Int → Bool) (zs : List Int) (k : Nat) (h : k < zs.length) (hp : p (zs.getD k 0) = false) : zs.all p = false := by
  rw [List.all_eq_false]
  exact ⟨zs[k], List.getElem_mem h, by simpa [h] using hp⟩
theorem all_end (p : Int → Bool) (zs : List Int) (k : Nat) (h : zs.length ≤ k) (hp : (zs.take k).all p = true) : zs.all p = true := by
  rwa [List.take_of_length_le h] at hp

set_option maxHeartbeats 400000 in
theorem l01All_nil (sl : Option Addr) (cap : Nat) (x y : Value) (w : World) :
    Calls Try.prog 46 #[.slice sl 0 cap, x, y] w fun e w' => e = .returned (.bool true) ∧ w' = w := by
  go_enter Try.func46, Try.ntmps46
  go_wp2
  refine wp_loop_rounds 1 ?_
  rw [rounds_succ]
  go_wp2
  go_ret
  exact ⟨rfl, rfl⟩

set_option maxHeartbeats 400000 in
theorem l01All_some (lo hi : Int) (c o cap : Nat) (zs : List Int) (w : World) (hn : zs.length ≤ maxLen) (hz : IntsAt w c o zs) :
    Calls Try.prog 46 #[.slice (some ⟨c, o, none⟩) zs.length cap, .int .i64 lo, .int .i64 hi] w fun e w' => e = .returned (.bool (zs.all (inB lo hi))) ∧ w' = w := by
  unfold maxLen at hn
  have HZ : Hid (IntsAt w c o zs) := hz
  clear hz
  generalize hN : zs.length = n at *
  have HN : Hid (zs.length = n) := hN
  clear hN
  go_enter Try.func46, Try.ntmps46
  go_wp2
  go_loop [7] (fun i => ∃ k : Nat, i = .int .i64 k ∧ k ≤ n ∧ Hid ((zs.take k).all (inB lo hi) = true)) (fun i => n - (intOf i).toNat)
  case atStart => exact ⟨0, rfl, Nat.zero_le _, (by show (zs.take 0).all (inB lo hi) = true; simp)⟩
  case round =>
    obtain ⟨k, rfl, hk, H1⟩ := hrel
    have hk0 : (0 : Int) ≤ (k : Int) := by omega
    by_cases h1 : k < n
    · have h1' : (k : Int) < (n : Int) := by omega
      have hc : w.cell? ⟨c, o + k, none⟩ = some (.int .i64 (zs.getD k 0)) := HZ.out.2 k (by rw [HN.out]; exact h1)
      by_cases a1 : zs.getD k 0 < lo
      · have HF : Hid (zs.all (inB lo hi) = false) := all_no (inB lo hi) zs k (by rw [HN.out]; exact h1) (by simp only [inB, decide_eq_false_iff_not]; omega)
        generalize zs.getD k 0 = z at *
        go_wp2
        go_ret
        exact ⟨by rw [HF.out]; rfl, rfl⟩
      · by_cases a2 : hi < zs.getD k 0
        · have HF : Hid (zs.all (inB lo hi) = false) := all_no (inB lo hi) zs k (by rw [HN.out]; exact h1) (by simp only [inB, decide_eq_false_iff_not]; omega)
          generalize zs.getD k 0 = z at *
          go_wp2
          go_ret
          exact ⟨by rw [HF.out]; rfl, rfl⟩
        · have HS : Hid ((zs.take (k + 1)).all (inB lo hi) = true) := (all_step (inB lo hi) zs k (by rw [HN.out]; exact h1) H1.out).trans (by simp only [inB, decide_eq_true_eq]; omega)
          generalize zs.getD k 0 = z at *
          go_wp2
          go_round
          case rel => exact ⟨k + 1, by go_num, by omega, HS⟩
          case measure => simp [intOf]; omega
    · have h1' : ¬ (k : Int) < (n : Int) := by omega
      have HE : Hid (zs.all (inB lo hi) = true) := all_end (inB lo hi) zs k (by rw [HN.out]; omega) H1.out
      go_wp2
      go_ret
      exact ⟨by rw [HE.out]; rfl, rfl⟩

theorem l01All_any (lo hi : Int) (sl : Option Addr) (cap : Nat) (zs : List Int) (w : World) (hn : zs.length ≤ maxLen) (hz : Ints w sl zs) :
    Calls Try.prog 46 #[.slice sl zs.length cap, .int .i64 lo, .int .i64 hi] w fun e w' => e = .returned (.bool (zs.all (inB lo hi))) ∧ w' = w := by
  rcases hz with rfl | ⟨c, o, rfl, h⟩
  · exact l01All_nil sl cap _ _ w
  · exact l01All_some lo hi c o cap zs w hn h

/-- The first k of zs written, the rest noughts. -/
def vsOf (zs : List Int) (k : Nat) : Array Value := ((zs.take k).map (Value.int .i64) ++ List.replicate (zs.length - k) (Value.int .i64 0)).toArray
def RowAt (w : World) (b : Nat) (vs : Array Value) : Prop := w.heap[b]? = some (.cells vs 2)

theorem vs_size (zs : List Int) (k : Nat) (h : k ≤ zs.length) : (vsOf zs k).size = zs.length := by simp [vsOf]; omega
theorem vs_step (zs : List Int) (k : Nat) (h : k < zs.length) : (vsOf zs k).setIfInBounds k (.int .i64 (zs.getD k 0)) = vsOf zs (k + 1) := by
  apply Array.ext
  · simp [vsOf]; omega
  · intro i h1 h2
    simp only [Array.size_setIfInBounds] at h1
    rw [Array.getElem_setIfInBounds h1]
    simp only [vsOf, List.getElem_toArray]
    by_cases hi : k = i
    · subst hi
      rw [if_pos rfl, List.getElem_append_left (by simp; omega)]
      simp [h]
    · rw [if_neg hi]
      by_cases hlt : i < k
      · rw [List.getElem_append_left (by simp; omega), List.getElem_append_left (by simp; omega)]
        simp
      · rw [List.getElem_append_right (by simp; omega), List.getElem_append_right (by simp; omega)]
        simp
theorem vs_at (zs : List Int) (k : Nat) (h : k < zs.length) : (vsOf zs k)[k]? = some (.int .i64 0) := by
  rw [Array.getElem?_eq_getElem (by rw [vs_size zs k (by omega)]; exact h)]
  simp only [vsOf, List.getElem_toArray]
  rw [List.getElem_append_right (by simp; omega)]
  simp
theorem vs_all (zs : List Int) (k : Nat) (hk : zs.length ≤ k) (i : Nat) (h : i < zs.length) : (vsOf zs k)[i]? = some (.int .i64 (zs.getD i 0)) := by
  rw [Array.getElem?_eq_getElem (by simp [vsOf]; omega)]
  simp only [vsOf, List.getElem_toArray]
  rw [List.getElem_append_left (by simp; omega)]
  simp [h]
theorem RowAt.cell {w : World} {b : Nat} {vs : Array Value} (h : RowAt w b vs) (i : Nat) : w.cell? ⟨b, i, none⟩ = vs[i]? := by
  unfold RowAt at h; simp [World.cell?, h]
theorem RowAt.frozen {w : World} {b : Nat} {vs : Array Value} (h : RowAt w b vs) (i : Nat) : w.frozen? ⟨b, i, none⟩ = false := by
  unfold RowAt at h; simp [World.frozen?, h]
theorem RowAt.lt {w : World} {b : Nat} {vs : Array Value} (h : RowAt w b vs) : b < w.heap.size := (Array.getElem?_eq_some_iff.1 h).1
theorem RowAt.set {w : World} {b : Nat} {vs : Array Value} (h : RowAt w b vs) (i : Nat) (v : Value) : RowAt (w.setCell ⟨b, i, none⟩ v) b (vs.setIfInBounds i v) := heap_setCell_same w b i vs 2 v h
theorem RowAt.ints {w : World} {b : Nat} {zs : List Int} {k : Nat} (h : RowAt w b (vsOf zs k)) (hk : zs.length ≤ k) : IntsAt w b 0 zs :=
  ⟨h.lt, fun i hi => by rw [Nat.zero_add, h.cell i]; exact vs_all zs k hk i hi⟩

def mk64 (n : Nat) : Array Value := madeCells #[.int .i64 0] n
theorem mk64_eq (zs : List Int) : mk64 zs.length = vsOf zs 0 := by
  apply Array.toList_inj.1
  rw [mk64, toList_madeCells_one]
  simp [vsOf]
theorem info2 : ∃ i, Try.prog.info? 2 = some i ∧ i.zero = some (.int .i64 0) ∧ i.size = 1 ∧ i.bytes = 8 := by
  have h : ((Try.prog.info? 2).map fun i => (i.zero, i.size, i.bytes)) = some (some (.int .i64 0), 1, 8) := by kernel_rfl
  generalize Try.prog.info? 2 = o at *
  cases o with
  | none => simp at h
  | some i => simp at h; exact ⟨i, rfl, h.1, h.2.1, h.2.2⟩
theorem make64 (n : Nat) (h : n ≤ 1048576) (w : World) :
    Sem.run Try.prog (Instr.makeSlice 27 (.int .i64 (n : Int)) (.int .i64 (n : Int))) w = .ok (.slice (some ⟨w.heap.size, 0, none⟩) n n) (w.alloc (.cells (mk64 n) 2)) := by
  obtain ⟨i, h1, h2, h3, h4⟩ := info2
  have := run_make (P := Try.prog) w 27 2 i (.int .i64 0) Try.underlying27 h1 h2 .i64 .i64 (n : Int) (n : Int) (by omega) (Int.le_refl _) (by rw [h4]; omega) (by omega)
  rw [this, h3]
  simp [mk64, Value.cells]







end Go.Proofs.Ytgfclllfkpblnaa
