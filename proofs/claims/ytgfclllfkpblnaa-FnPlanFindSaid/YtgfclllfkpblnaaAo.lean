/-
  THE LAWS' TABLES: copied into tables of the program.
-/
import Derived.Test.YtgfclllfkpblnaaAn
namespace Go.Proofs.Ytgfclllfkpblnaa
open Go.RowKit
set_option linter.unusedVariables false

theorem IntsAt.set {w : World} {c o : Nat} {zs : List Int} (h : IntsAt w c o zs) {b : Nat} (hb : c ≠ b) (i : Nat) (v : Value) : IntsAt (w.setCell ⟨b, i, none⟩ v) c o zs := by
  refine ⟨by simpa [World.setCell] using h.1, fun j hj => ?_⟩
  rw [← h.2 j hj]
  simp only [World.cell?]
  rw [Below.heap_setCell _ _ _ _ hb]
theorem Ints.set {w : World} {c o : Nat} {zs : List Int} (h : Ints w (some ⟨c, o, none⟩) zs) {b : Nat} (hb : c ≠ b) (i : Nat) (v : Value) : Ints (w.setCell ⟨b, i, none⟩ v) (some ⟨c, o, none⟩) zs := by
  rcases h with h | ⟨c', o', e, h⟩
  · exact .inl h
  · cases e; exact .inr ⟨_, _, rfl, h.set hb i v⟩



/-- A row of triples, the first of them written. -/
def Row3 (w : World) (b : Nat) (t : TypeId) (n : Nat) (ts : List (Value × Value × Value)) : Prop :=
  ∃ vs : Array Value, w.heap[b]? = some (.cells vs t) ∧ vs.size = n * 3 ∧ ∀ i (h : i < ts.length), vs[i * 3]? = some ts[i].1 ∧ vs[i * 3 + 1]? = some ts[i].2.1 ∧ vs[i * 3 + 2]? = some ts[i].2.2
theorem Row3.lt {w : World} {b : Nat} {t : TypeId} {n : Nat} {ts : List (Value × Value × Value)} (h : Row3 w b t n ts) : b < w.heap.size := by
  obtain ⟨vs, h1, _⟩ := h
  exact (Array.getElem?_eq_some_iff.1 h1).1
theorem Row3.below {w w' : World} {b : Nat} {t : TypeId} {n : Nat} {ts : List (Value × Value × Value)} (h : Row3 w b t n ts) (hb : Below w.heap.size w w') : Row3 w' b t n ts := by
  have hl := h.lt
  obtain ⟨vs, h1, h2, h3⟩ := h
  exact ⟨vs, (hb.block b hl).trans h1, h2, h3⟩
theorem Row3.there {w : World} {b : Nat} {t : TypeId} {n : Nat} {ts : List (Value × Value × Value)} (h : Row3 w b t n ts) (j : Nat) (hj : j < n * 3) : (∃ v, w.cell? ⟨b, j, none⟩ = some v) ∧ w.frozen? ⟨b, j, none⟩ = false := by
  obtain ⟨vs, h1, h2, h3⟩ := h
  exact ⟨⟨vs[j]'(by omega), by simp [World.cell?, h1, show j < vs.size by omega]⟩, by simp [World.frozen?, h1]⟩
theorem Row3.at {w : World} {b : Nat} {t : TypeId} {n : Nat} {ts : List (Value × Value × Value)} (h : Row3 w b t n ts) (i : Nat) (hi : i < ts.length) : w.cell? ⟨b, i * 3, none⟩ = some ts[i].1 ∧ w.cell? ⟨b, i * 3 + 1, none⟩ = some ts[i].2.1 ∧ w.cell? ⟨b, i * 3 + 2, none⟩ = some ts[i].2.2 := by
  obtain ⟨vs, h1, h2, h3⟩ := h
  have := h3 i hi
  refine ⟨?_, ?_, ?_⟩ <;> simp [World.cell?, h1, this]
theorem Row3.step {w : World} {b : Nat} {t : TypeId} {n : Nat} {ts : List (Value × Value × Value)} (h : Row3 w b t n ts) (hl : ts.length < n) (x y z : Value) (k : Nat) (hk : k = ts.length) :
    Row3 (((w.setCell ⟨b, k * 3, none⟩ x).setCell ⟨b, k * 3 + 1, none⟩ y).setCell ⟨b, k * 3 + 2, none⟩ z) b t n (ts ++ [(x, y, z)]) := by
  subst hk
  obtain ⟨vs, h1, h2, h3⟩ := h
  refine ⟨_, heap_setCell_same _ b _ _ t _ (heap_setCell_same _ b _ _ t _ (heap_setCell_same w b _ vs t x h1)), by simp [h2], fun i hi => ?_⟩
  simp only [List.length_append, List.length_singleton] at hi
  by_cases e : i < ts.length
  · obtain ⟨a1, a2, a3⟩ := h3 i e
    simp only [List.getElem_append_left e]
    refine ⟨?_, ?_, ?_⟩
    · rw [Array.getElem?_setIfInBounds_ne (by omega), Array.getElem?_setIfInBounds_ne (by omega), Array.getElem?_setIfInBounds_ne (by omega)]; exact a1
    · rw [Array.getElem?_setIfInBounds_ne (by omega), Array.getElem?_setIfInBounds_ne (by omega), Array.getElem?_setIfInBounds_ne (by omega)]; exact a2
    · rw [Array.getElem?_setIfInBounds_ne (by omega), Array.getElem?_setIfInBounds_ne (by omega), Array.getElem?_setIfInBounds_ne (by omega)]; exact a3
  · have e' : i = ts.length := by omega
    subst e'
    simp only [List.getElem_append_right (Nat.le_refl _), Nat.sub_self, List.getElem_cons_zero]
    refine ⟨?_, ?_, ?_⟩
    · rw [Array.getElem?_setIfInBounds_ne (by omega), Array.getElem?_setIfInBounds_ne (by omega), Array.getElem?_setIfInBounds_self_of_lt (by omega)]
    · rw [Array.getElem?_setIfInBounds_ne (by omega), Array.getElem?_setIfInBounds_self_of_lt (by simp; omega)]
    · rw [Array.getElem?_setIfInBounds_self_of_lt (by simp; omega)]

theorem new_at (w : World) (o : Obj) : (w.alloc o).heap[w.heap.size]? = some o := by
  show (w.heap.push _)[w.heap.size]? = _
  simp
theorem info56 : (Try.prog.info? 69).map (fun i => (i.zero, i.size, i.bytes)) = some (some (.agg #[.int .i64 0, .int .i64 0, .int .i64 0]), 3, 24) := by kernel_rfl
theorem info54 : (Try.prog.info? 67).map (fun i => (i.zero, i.size, i.bytes)) = some (some (.agg #[.int .i64 0, .int .i64 0, .slice none 0 0]), 3, 40) := by kernel_rfl
theorem make56 (n : Nat) (h : n ≤ 1048576) (w : World) :
    ∃ vs : Array Value, Sem.run Try.prog (Instr.makeSlice 24 (.int .i64 (n : Int)) (.int .i64 (n : Int))) w = .ok (.slice (some ⟨w.heap.size, 0, none⟩) n n) (w.alloc (.cells vs 69)) ∧ Row3 (w.alloc (.cells vs 69)) w.heap.size 69 n [] := by
  obtain ⟨i, h1, h2, h3, h4⟩ := info_parts info56
  have := run_make (P := Try.prog) w 24 69 i _ Try.underlying24 h1 h2 .i64 .i64 (n : Int) (n : Int) (by omega) (Int.le_refl _) (by rw [h4]; omega) (by omega)
  rw [h3] at this
  simp only [Int.toNat_natCast] at this
  exact ⟨_, this, _, new_at _ _, size_madeCells _ _, fun i hi => absurd hi (Nat.not_lt_zero _)⟩
theorem make54 (n : Nat) (h : n ≤ 1048576) (w : World) :
    ∃ vs : Array Value, Sem.run Try.prog (Instr.makeSlice 23 (.int .i64 (n : Int)) (.int .i64 (n : Int))) w = .ok (.slice (some ⟨w.heap.size, 0, none⟩) n n) (w.alloc (.cells vs 67)) ∧ Row3 (w.alloc (.cells vs 67)) w.heap.size 67 n [] := by
  obtain ⟨i, h1, h2, h3, h4⟩ := info_parts info54
  have := run_make (P := Try.prog) w 23 67 i _ Try.underlying23 h1 h2 .i64 .i64 (n : Int) (n : Int) (by omega) (Int.le_refl _) (by rw [h4]; omega) (by omega)
  rw [h3] at this
  simp only [Int.toNat_natCast] at this
  exact ⟨_, this, _, new_at _ _, size_madeCells _ _, fun i hi => absurd hi (Nat.not_lt_zero _)⟩

def prT (p : LPr) : Value × Value × Value := (.int .i64 p.1, .int .i64 p.2.1, .int .i64 p.2.2)

def stT (r : LSt) : Value × Value × Value := (.int .i64 r.1, .int .i64 r.2.1, r.2.2.1)
/-- Stations without where their Domains lie. -/
def bareS (rs : List LSt) : List (Int × Int × List Int) := rs.map fun r => (r.1, r.2.1, r.2.2.2)
/-- A station whose Domain has memory of its own, not in block b. -/
def DomOut (b : Nat) (w : World) (r : LSt) : Prop := ∃ g, r.2.2.1 = .slice (some ⟨g, 0, none⟩) r.2.2.2.length r.2.2.2.length ∧ Ints w (some ⟨g, 0, none⟩) r.2.2.2 ∧ b < g ∧ r.2.2.2.length ≤ 1048576
theorem DomOut.below {b : Nat} {w w' : World} {r : LSt} (h : DomOut b w r) (hb : Below w.heap.size w w') : DomOut b w' r := by
  obtain ⟨g, e, hi, hg, hl⟩ := h
  exact ⟨g, e, hi.below hb, hg, hl⟩
theorem DomOut.set {b : Nat} {w : World} {r : LSt} (h : DomOut b w r) (i : Nat) (v : Value) : DomOut b (w.setCell ⟨b, i, none⟩ v) r := by
  obtain ⟨g, e, hi, hg, hl⟩ := h
  exact ⟨g, e, hi.set (Nat.ne_of_gt hg) i v, hg, hl⟩
theorem DomOut.din {b : Nat} {w : World} {r : LSt} (h : DomOut b w r) : DomIn w r := by
  obtain ⟨g, e, hi, hg, hl⟩ := h
  exact ⟨_, _, e, hi, hl⟩

theorem DomOut.setLow {b : Nat} {w : World} {r : LSt} (h : DomOut b w r) {b' : Nat} (hb : b' < b) (i : Nat) (v : Value) : DomOut b (w.setCell ⟨b', i, none⟩ v) r := by
  obtain ⟨g, e, hi, hg, hl⟩ := h
  exact ⟨g, e, hi.set (by omega) i v, hg, hl⟩
theorem Row3.setLow {w : World} {b : Nat} {t : TypeId} {n : Nat} {ts : List (Value × Value × Value)} (h : Row3 w b t n ts) {b' : Nat} (hb : b' < b) (i : Nat) (v : Value) : Row3 (w.setCell ⟨b', i, none⟩ v) b t n ts := by
  obtain ⟨vs, h1, h2, h3⟩ := h
  exact ⟨vs, (Below.heap_setCell _ _ _ _ (show b ≠ b' by omega)).trans h1, h2, h3⟩
theorem Row3.sts {w : World} {b n : Nat} {rs : List LSt} (h : Row3 w b 67 n (rs.map stT)) (hd : ∀ r ∈ rs, DomOut b w r) : Sts w (some ⟨b, 0, none⟩) rs := by
  refine ⟨.inr ⟨b, 0, rfl, h.lt, fun i hi => ?_⟩, fun r hr => (hd r hr).din⟩
  have := h.at i (by simpa using hi)
  simpa [stT] using this
theorem Row3.prs {w : World} {b n : Nat} {ps : List LPr} (h : Row3 w b 69 n (ps.map prT)) : Prs w (some ⟨b, 0, none⟩) ps := by
  refine .inr ⟨b, 0, rfl, h.lt, fun i hi => ?_⟩
  have := h.at i (by simpa using hi)
  simpa [prT] using this
theorem three_new (w : World) (o0 o1 o2 : Obj) : (((w.alloc o0).alloc o1).alloc o2).heap[w.heap.size]? = some o0 ∧ (((w.alloc o0).alloc o1).alloc o2).heap[w.heap.size + 1]? = some o1 ∧ (((w.alloc o0).alloc o1).alloc o2).heap[w.heap.size + 2]? = some o2 ∧ (((w.alloc o0).alloc o1).alloc o2).heap.size = w.heap.size + 3 := by
  have s1 : (w.alloc o0).heap.size = w.heap.size + 1 := by simp
  have s2 : ((w.alloc o0).alloc o1).heap.size = w.heap.size + 2 := by simp
  have a1 := new_at (w.alloc o0) o1
  rw [s1] at a1
  have a2 := new_at ((w.alloc o0).alloc o1) o2
  rw [s2] at a2
  exact ⟨(Below.heap_alloc _ _ _ (by rw [s2]; omega)).trans ((Below.heap_alloc _ _ _ (by rw [s1]; omega)).trans (new_at w o0)), (Below.heap_alloc _ _ _ (by rw [s2]; omega)).trans a1, a2, by simp⟩
theorem bareS_len {a b : List LSt} (h : bareS a = bareS b) : a.length = b.length := by have := congrArg List.length h; simpa [bareS] using this

end Go.Proofs.Ytgfclllfkpblnaa
