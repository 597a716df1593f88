/-
  MARKS: lists of numbers and tables of one's own written over by numbers that rise, and held against them.
  A TABLE OF ONE'S OWN, marked: what turns and what does not.
-/
import Derived.Test.YtgfclllfkpblnaaAr
namespace Go.Proofs.Ytgfclllfkpblnaa
open Go.RowKit
set_option linter.unusedVariables false

/-- Of the blocks that were there only block b may have turned. -/
structure Only (b : Nat) (w w' : World) : Prop where
  os : w'.os = w.os
  tape : w'.tape = w.tape
  output : w'.output = w.output
  size : w.heap.size ≤ w'.heap.size
  block : ∀ k, k < w.heap.size → k ≠ b → w'.heap[k]? = w.heap[k]?

theorem Only.refl (b : Nat) (w : World) : Only b w w := ⟨rfl, rfl, rfl, Nat.le_refl _, fun _ _ _ => rfl⟩
theorem Only.trans {b : Nat} {u v w : World} (h : Only b u v) (k : Only b v w) : Only b u w :=
  ⟨k.os.trans h.os, k.tape.trans h.tape, k.output.trans h.output, Nat.le_trans h.size k.size, fun i hi hb => (k.block i (Nat.lt_of_lt_of_le hi h.size) hb).trans (h.block i hi hb)⟩
theorem Only.drewN {b : Nat} {u v : World} (h : Only b u v) (n : Nat) : Only b u (v.drewN n) := ⟨h.os, h.tape, h.output, h.size, h.block⟩
theorem Only.drew {b : Nat} {u v : World} (h : Only b u v) : Only b u v.drew := ⟨h.os, h.tape, h.output, h.size, h.block⟩
theorem Only.setCell {b : Nat} {u v : World} (h : Only b u v) (o : Nat) (x : Value) : Only b u (v.setCell ⟨b, o, none⟩ x) :=
  h.trans ⟨rfl, rfl, rfl, by simp [World.setCell], fun k _ hk => Below.heap_setCell _ _ _ _ hk⟩
theorem Only.alloc {b : Nat} {u v : World} (h : Only b u v) (o : Obj) : Only b u (v.alloc o) :=
  h.trans ⟨rfl, rfl, rfl, by simp, fun k hk _ => Below.heap_alloc _ _ _ hk⟩
theorem Only.of_below {b : Nat} {u v : World} (h : Below u.heap.size u v) : Only b u v := ⟨h.os, h.tape, h.output, h.size, fun k hk _ => h.block k hk⟩
theorem Only.below {b : Nat} {u v w : World} (h : Below u.heap.size u v) (hb : u.heap.size ≤ b) (k : Only b v w) : Below u.heap.size u w :=
  ⟨k.os.trans h.os, k.tape.trans h.tape, k.output.trans h.output, Nat.le_trans h.size k.size, fun i hi => (k.block i (Nat.lt_of_lt_of_le hi h.size) (by omega)).trans (h.block i hi)⟩
theorem Only.cell {b : Nat} {w w' : World} (h : Only b w w') {c o : Nat} (hc : c < w.heap.size) (hb : c ≠ b) : w'.cell? ⟨c, o, none⟩ = w.cell? ⟨c, o, none⟩ := World.cell?_of_block (w := w) (h.block c hc hb)
theorem Only.frozen {b : Nat} {w w' : World} (h : Only b w w') {c o : Nat} (hc : c < w.heap.size) (hb : c ≠ b) : w'.frozen? ⟨c, o, none⟩ = w.frozen? ⟨c, o, none⟩ := World.frozen?_of_block (w := w) (h.block c hc hb)

/-- The n numbers from k on. -/
def marks (k : Int) (n : Nat) : List Int := (List.range n).map (fun i : Nat => k + (i : Int))
theorem marks_len (k : Int) (n : Nat) : (marks k n).length = n := by simp [marks]
theorem marks_get (k : Int) (n i : Nat) (h : i < n) : (marks k n)[i]? = some (k + (i : Int)) := by simp [marks, h]

/-- The first i cells of a row hold the marks. -/
def Marked (w : World) (b s : Nat) (k : Int) (i : Nat) : Prop := ∃ vs : Array Value, RowAt w b vs ∧ vs.size = s ∧ ∀ j, j < i → vs[j]? = some (.int .i64 (k + (j : Int)))
theorem Marked.step {w : World} {b s : Nat} {k : Int} {i : Nat} (h : Marked w b s k i) (hi : i < s) : Marked (w.setCell ⟨b, i, none⟩ (.int .i64 (k + (i : Int)))) b s k (i + 1) := by
  obtain ⟨vs, h1, h2, h3⟩ := h
  refine ⟨_, h1.set i _, by simp [h2], fun j hj => ?_⟩
  rw [Array.getElem?_setIfInBounds]
  by_cases e : i = j
  · subst e; simp [h2, hi]
  · rw [if_neg e]; exact h3 j (by omega)
theorem Marked.cell {w : World} {b s : Nat} {k : Int} {i : Nat} (h : Marked w b s k i) (j : Nat) (hj : j < s) : (∃ v, w.cell? ⟨b, j, none⟩ = some v) ∧ w.frozen? ⟨b, j, none⟩ = false := by
  obtain ⟨vs, h1, h2, h3⟩ := h
  exact ⟨⟨vs[j]'(by omega), by rw [h1.cell j]; exact Array.getElem?_eq_getElem (by omega)⟩, h1.frozen j⟩
theorem Marked.at {w : World} {b s : Nat} {k : Int} {i : Nat} (h : Marked w b s k i) (j : Nat) (hj : j < i) : w.cell? ⟨b, j, none⟩ = some (.int .i64 (k + (j : Int))) := by
  obtain ⟨vs, h1, h2, h3⟩ := h
  rw [h1.cell j]; exact h3 j hj




theorem Only.grownBy {b : Nat} {w w' : World} (h : Only b w w') : w.grownBy w' (some b) := ⟨h.os, h.tape, h.output, h.size, fun k hk hne => h.block k hk (fun e => hne (by rw [e]))⟩

/-- Nothing has turned but blocks from B on, below L. -/
structure Btw (B L : Nat) (w w' : World) : Prop where
  os : w'.os = w.os
  tape : w'.tape = w.tape
  output : w'.output = w.output
  size : w.heap.size ≤ w'.heap.size
  block : ∀ k, k < w.heap.size → (k < B ∨ L ≤ k) → w'.heap[k]? = w.heap[k]?
theorem Btw.refl (B L : Nat) (w : World) : Btw B L w w := ⟨rfl, rfl, rfl, Nat.le_refl _, fun _ _ _ => rfl⟩
theorem Btw.trans {B L : Nat} {u v w : World} (h : Btw B L u v) (k : Btw B L v w) : Btw B L u w :=
  ⟨k.os.trans h.os, k.tape.trans h.tape, k.output.trans h.output, Nat.le_trans h.size k.size, fun j hj hc => (k.block j (Nat.lt_of_lt_of_le hj h.size) hc).trans (h.block j hj hc)⟩
theorem Btw.grown {B L : Nat} {w0 w w' : World} {row : Option Nat} (h : Btw B L w0 w) (hg : w.grownBy w' row) (hr : ∀ j, row = some j → B ≤ j ∧ j < L) : Btw B L w0 w' :=
  h.trans ⟨hg.os, hg.tape, hg.output, hg.size, fun k hk hc => hg.block k hk (fun e => by have := hr k e.symm; omega)⟩
theorem Btw.alloc {B L : Nat} (w : World) (o : Obj) : Btw B L w (w.alloc o) := (Btw.refl B L w).grown (World.grownBy_alloc w o none) (fun j hj => by cases hj)
theorem Btw.below {B L : Nat} {w w' : World} (h : Btw B L w w') (hB : B ≤ w.heap.size) : Below B w w' := ⟨h.os, h.tape, h.output, h.size, fun k hk => h.block k (Nat.lt_of_lt_of_le hk hB) (.inl hk)⟩
theorem Btw.only {B L g : Nat} {w0 w w' : World} (h : Btw B L w0 w) (hg : Only g w w') (h1 : B ≤ g) (h2 : g < L) : Btw B L w0 w' := h.grown hg.grownBy (fun j hj => by cases hj; exact ⟨h1, h2⟩)
theorem own_btw {B L C : Nat} {e : TypeId} {m : Nat} {v : Value} {n : Nat} {xs : List Value} {w w' : World} (h : w.ownsRow C e m v n xs) (hb : Btw B L w w') (hc : ∀ j, v.ownBlock = some j → j < B ∨ L ≤ j) : w'.ownsRow C e m v n xs := by
  refine ⟨h.1, ?_⟩
  rcases h.2 with h | ⟨g, cap, cur, hv, hg, hh, r⟩
  · exact .inl h
  · exact .inr ⟨g, cap, cur, hv, hg, (hb.block g (Array.getElem?_eq_some_iff.1 hh).1 (hc g (by rw [hv]; rfl))).trans hh, r⟩

/-- A row of stations whose Domains are rows of their own, all from block C on and below L. -/
structure StM (C L : Nat) (w : World) (b : Nat) (rs : List LSt) : Prop where
  row : ∃ vs : Array Value, w.heap[b]? = some (.cells vs 67) ∧ vs.size = rs.length * 3 ∧ ∀ i (h : i < rs.length), vs[i * 3 + 2]? = some rs[i].2.2.1
  dom : ∀ r ∈ rs, ∃ g us, r.2.2.1 = .slice (some ⟨g, 0, none⟩) r.2.2.2.length r.2.2.2.length ∧ RowAt w g us ∧ us.size = r.2.2.2.length ∧ C ≤ g ∧ g < L
  lo : C ≤ b
  hi : b < L
theorem OwnT.stM {C : Nat} {w : World} {b1 b2 : Nat} {rs : List LSt} {ps : List LPr} (h : OwnT C w b1 b2 rs ps) : StM C w.heap.size w b1 rs := by
  refine ⟨?_, fun r hr => ?_, h.lo1, h.r1.lt⟩
  · obtain ⟨vs, h1, h2, h3⟩ := h.r1
    exact ⟨vs, h1, h2, fun i hi => by
      have := (h3 i (by simpa using hi)).2.2
      rw [List.getElem_map] at this
      exact this⟩
  · obtain ⟨g, e, hz, hg, _⟩ := h.dom r hr
    exact ⟨g, _, e, hz, vs_size _ _ (Nat.le_refl _), by have := h.lo1; omega, hz.lt⟩
theorem StM.below {C L : Nat} {w w' : World} {b : Nat} {rs : List LSt} (h : StM C L w b rs) (hb : Below w.heap.size w w') : StM C L w' b rs := by
  refine ⟨?_, fun r hr => ?_, h.lo, h.hi⟩
  · obtain ⟨vs, h1, h2⟩ := h.row
    exact ⟨vs, (hb.block b (Array.getElem?_eq_some_iff.1 h1).1).trans h1, h2⟩
  · obtain ⟨g, us, e, hz, r⟩ := h.dom r hr
    exact ⟨g, us, e, (hb.block g hz.lt).trans hz, r⟩
theorem StM.kind {C L : Nat} {w : World} {b : Nat} {rs : List LSt} (h : StM C L w b rs) (o : Nat) (ho : ∀ i, o ≠ i * 3 + 2) (v : Value) : StM C L (w.setCell ⟨b, o, none⟩ v) b rs := by
  obtain ⟨vs, h1, h2, h3⟩ := h.row
  refine ⟨⟨_, heap_setCell_same w b o vs 67 v h1, by simp [h2], fun i hi => ?_⟩, fun r hr => ?_, h.lo, h.hi⟩
  · rw [Array.getElem?_setIfInBounds_ne (ho i)]; exact h3 i hi
  · obtain ⟨g, us, e, hz, r⟩ := h.dom r hr
    have hne : g ≠ b := by
      rintro rfl
      have hz' : w.heap[g]? = some (.cells us 2) := hz
      rw [h1] at hz'
      simp at hz'
    exact ⟨g, us, e, (Below.heap_setCell _ _ _ _ hne).trans hz, r⟩
theorem StM.rowed {C L : Nat} {w w' : World} {b g : Nat} {rs : List LSt} (h : StM C L w b rs) (us us' : Array Value) (hg : RowAt w g us) (hg' : RowAt w' g us') (hs : us'.size = us.size) (ho : Only g w w') : StM C L w' b rs := by
  have hg0 : w.heap[g]? = some (.cells us 2) := hg
  refine ⟨?_, fun r hr => ?_, h.lo, h.hi⟩
  · obtain ⟨vs, h1, h2⟩ := h.row
    have hne : b ≠ g := by
      rintro rfl
      rw [h1] at hg0
      simp at hg0
    exact ⟨vs, (ho.block b (Array.getElem?_eq_some_iff.1 h1).1 hne).trans h1, h2⟩
  · obtain ⟨c, vs, e, hz, hl, r⟩ := h.dom r hr
    by_cases hc : c = g
    · subst hc
      have hz' : w.heap[c]? = some (.cells vs 2) := hz
      rw [hg0] at hz'
      simp at hz'
      subst hz'
      exact ⟨c, us', e, hg', by rw [hs, hl], r⟩
    · exact ⟨c, vs, e, (ho.block c hz.lt hc).trans hz, hl, r⟩
theorem StM.there {C L : Nat} {w : World} {b : Nat} {rs : List LSt} (h : StM C L w b rs) (j : Nat) (hj : j < rs.length * 3) : (∃ v, w.cell? ⟨b, j, none⟩ = some v) ∧ w.frozen? ⟨b, j, none⟩ = false := by
  obtain ⟨vs, h1, h2, h3⟩ := h.row
  exact ⟨⟨vs[j]'(by omega), by simp [World.cell?, h1, show j < vs.size by omega]⟩, by simp [World.frozen?, h1]⟩
theorem StM.at {C L : Nat} {w : World} {b : Nat} {rs : List LSt} (h : StM C L w b rs) (i : Nat) (hi : i < rs.length) : w.cell? ⟨b, i * 3 + 2, none⟩ = some rs[i].2.2.1 := by
  obtain ⟨vs, h1, h2, h3⟩ := h.row
  simp [World.cell?, h1, h3 i hi]
/-- What no mark of a station touches: rows of pairs. -/
def Keep (w w' : World) : Prop := ∀ (b : Nat) (vs : Array Value), w.heap[b]? = some (.cells vs 69) → w'.heap[b]? = some (.cells vs 69)
theorem Keep.refl (w : World) : Keep w w := fun _ _ h => h
theorem Keep.trans {u v w : World} (h : Keep u v) (k : Keep v w) : Keep u w := fun b vs g => k b vs (h b vs g)
theorem Keep.only {w w' : World} {g : Nat} {t : TypeId} {us : Array Value} (ho : Only g w w') (hg : w.heap[g]? = some (.cells us t)) (ht : t ≠ 69) : Keep w w' := fun b vs h => by
  refine (ho.block b (Array.getElem?_eq_some_iff.1 h).1 ?_).trans h
  rintro rfl
  rw [h] at hg
  simp at hg
  exact ht hg.2.symm
theorem Keep.below {w w' : World} (hb : Below w.heap.size w w') : Keep w w' := fun b vs h => (hb.block b (Array.getElem?_eq_some_iff.1 h).1).trans h

end Go.Proofs.Ytgfclllfkpblnaa
namespace Go.Proofs.Ytgfclllfkpblnaa
open Go.RowKit
set_option linter.unusedVariables false

theorem totD_nonneg (rs : List LSt) (j : Nat) : (0 : Int) ≤ (totD (rs.take j) : Int) := by omega


/-- A row of m pairs. -/
def PrM (w : World) (b m : Nat) : Prop := ∃ vs : Array Value, w.heap[b]? = some (.cells vs 69) ∧ vs.size = m * 3
theorem PrM.set {w : World} {b m : Nat} (h : PrM w b m) (o : Nat) (v : Value) : PrM (w.setCell ⟨b, o, none⟩ v) b m := by
  obtain ⟨vs, h1, h2⟩ := h
  exact ⟨_, heap_setCell_same w b o vs 69 v h1, by simp [h2]⟩
theorem PrM.there {w : World} {b m : Nat} (h : PrM w b m) (j : Nat) (hj : j < m * 3) : (∃ v, w.cell? ⟨b, j, none⟩ = some v) ∧ w.frozen? ⟨b, j, none⟩ = false := by
  obtain ⟨vs, h1, h2⟩ := h
  exact ⟨⟨vs[j]'(by omega), by simp [World.cell?, h1, show j < vs.size by omega]⟩, by simp [World.frozen?, h1]⟩



end Go.Proofs.Ytgfclllfkpblnaa
