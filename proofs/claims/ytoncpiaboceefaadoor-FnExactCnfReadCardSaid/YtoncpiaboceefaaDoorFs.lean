/-
  LEMMAS READ BY THE PROGRAM: readBy, LemmasRead.
-/
import Derived.Test.YtoncpiaboceefaaDoorFr
namespace Go.Proofs.YtoncpiaboceefaaDoor
open Go.RowKit
set_option linter.unusedVariables false

/-- What is read of a text: the lists, the line, the code. -/
noncomputable def outR (s : ByteArray) : List (List Int) × Nat × Int := if 20000 < s.size then ([], 0, 2) else if (readR s).2.2 = true then ((readR s).1, 0, 0) else ([], (readR s).2.1, 3)
def RdPost (s : ByteArray) (w : World) (e : Ending) (w' : World) : Prop :=
  ∃ sl n cap cs, e = .returned (.agg #[.int .i64 0, .slice sl n cap, .int .i64 ((outR s).2.1 : Nat), .int .i64 (outR s).2.2]) ∧ bareC cs = (outR s).1 ∧ OwC w' w.heap.size (.slice sl n cap) cs ∧ Below w.heap.size w w'
theorem cell1 {w : World} {b : Nat} {t : TypeId} {x : Value} (h : w.heap[b]? = some (.cells #[x] t)) : w.cell? ⟨b, 0, none⟩ = some x ∧ w.frozen? ⟨b, 0, none⟩ = false := by
  constructor <;> simp [World.cell?, World.frozen?, h]
abbrev Z29 : Obj := .cells #[.int .i64 0, .slice none 0 0, .int .i64 0, .int .i64 0] 29
theorem OwC.put4 {w : World} {B : Nat} {v : Value} {cs : List LCl} (h : OwC w B v cs) {b : Nat} (hb : b < B) (x0 x1 x2 x3 : Value) :
    OwC ((((w.setCell ⟨b, 0, none⟩ x0).setCell ⟨b, 1, none⟩ x1).setCell ⟨b, 2, none⟩ x2).setCell ⟨b, 3, none⟩ x3) B v cs := (((h.setLow hb 0 x0).setLow hb 1 x1).setLow hb 2 x2).setLow hb 3 x3
theorem below_put4 {B : Nat} {a w : World} (h : Below B a w) {b : Nat} (hb : B ≤ b) (x0 x1 x2 x3 : Value) : Below B a ((((w.setCell ⟨b, 0, none⟩ x0).setCell ⟨b, 1, none⟩ x1).setCell ⟨b, 2, none⟩ x2).setCell ⟨b, 3, none⟩ x3) :=
  (((h.setCell (p := ⟨b, 0, none⟩) hb x0).setCell (p := ⟨b, 1, none⟩) hb x1).setCell (p := ⟨b, 2, none⟩) hb x2).setCell (p := ⟨b, 3, none⟩) hb x3

set_option maxRecDepth 100000 in
set_option maxHeartbeats 2000000 in
theorem rb_long (s : ByteArray) (w : World) (hs : 20000 < s.size) :
    Calls Tryd.prog 48 #[.func (.func 49) #[] #[], .string s] w fun e w' => RdPost s w e w' := by
  have hs' : (20000 : Int) < (s.size : Int) := by omega
  have ho : outR s = ([], 0, 2) := by unfold outR; rw [if_pos hs]
  have PP : Hid (∀ w', Below w.heap.size w w' → RdPost s w (.returned (.agg #[.int .i64 0, .slice none 0 0, .int .i64 0, .int .i64 2])) w') := fun w' hb => ⟨none, 0, 0, [], by rw [ho]; rfl, by rw [ho]; rfl, OwC.nil _ _, hb⟩
  clear ho
  go_enter Tryd.func48, Tryd.ntmps48
  go_wp2
  exact bodyPost_ret (v := .agg #[.int .i64 0, .slice none 0 0, .int .i64 0, .int .i64 2]) (by simp [results, Tryd.results48, go_sem]) rfl (PP.out _ (bA0 _ _))

set_option maxRecDepth 100000 in
set_option maxHeartbeats 2000000 in
theorem rb_main (s : ByteArray) (w : World) (hs : s.size ≤ 20000) (hg : w.cell? ⟨0, 0, none⟩ = some (.iface 203 (hdl 96))) :
    Calls Tryd.prog 48 #[.func (.func 49) #[] #[], .string s] w fun e w' => RdPost s w e w' := by
  have hs' : ¬ (20000 : Int) < (s.size : Int) := by omega
  have h0 : 0 < w.heap.size := by
    rcases Nat.eq_zero_or_pos w.heap.size with h0 | h
    · simp [World.cell?, h0] at hg
    · exact h
  have LI := Lib.hid (li_any s (w.alloc Z29) hs)
  have HG := Lib.hid hg
  clear hg
  go_enter Tryd.func48, Tryd.ntmps48
  go_wp2_with fail
  refine LI.out.mono ?_
  rintro e w5 ⟨hc, b5⟩
  have Z5 : Hid (w5.heap[w.heap.size]? = some Z29) := (b5.block w.heap.size (by simp)).trans (new_at w Z29)
  have B5 := Lib.hid (bT (bA0 w Z29) b5)
  have hw5 : w.heap.size < w5.heap.size := by have := b5.size; simp at this; omega
  have hW : (w.alloc Z29).heap.size = w.heap.size + 1 := by simp
  rw [hW] at hc
  clear LI b5
  rcases hc with ⟨hr, sl, n, cap, cs, rfl, hb, hC⟩ | ⟨hr, rfl⟩
  · have ho : outR s = ((readR s).1, 0, 0) := by unfold outR; rw [if_neg (by omega), if_pos hr]
    have PP : Hid (∀ w', Below w.heap.size w w' → OwC w' w.heap.size (.slice sl n cap) cs → RdPost s w (.returned (.agg #[.int .i64 0, .slice sl n cap, .int .i64 0, .int .i64 0])) w') := fun w' hb' hC' => ⟨sl, n, cap, cs, by rw [ho]; rfl, by rw [ho]; exact hb, hC', hb'⟩
    have C5 := Lib.hid hC
    clear hC hb hr ho
    have AN := Lib.hid (as_nil (.iface 138 (.pointer (some ⟨w5.heap.size + 1, 0, none⟩))) ((w5.alloc (.cells #[.int .i64 0, .slice sl n cap] 27)).alloc (.cells #[.int .i64 0] 136)))
    have BX : Hid (Below w5.heap.size w5 ((w5.alloc (.cells #[.int .i64 0, .slice sl n cap] 27)).alloc (.cells #[.int .i64 0] 136))) := bA (bA0 _ _) _
    have Z6 := Lib.hid ((BX.out.block w.heap.size hw5).trans Z5.out)
    have C6 := Lib.hid (C5.out.below BX.out)
    have B6 := Lib.hid (bT B5.out BX.out)
    have E0 : Hid (((w5.alloc (.cells #[.int .i64 0, .slice sl n cap] 27)).alloc (.cells #[.int .i64 0] 136)).heap[w5.heap.size]? = some (.cells #[.int .i64 0, .slice sl n cap] 27)) :=
      ((bA0 (w5.alloc (.cells #[.int .i64 0, .slice sl n cap] 27)) (.cells #[.int .i64 0] 136)).block w5.heap.size (by simp)).trans (new_at w5 _)
    go_wp2_with fail
    refine AN.out.mono ?_
    rintro e w7 ⟨rfl, rfl⟩
    generalize (w5.alloc (.cells #[.int .i64 0, .slice sl n cap] 27)).alloc (.cells #[.int .i64 0] 136) = W6 at *
    obtain ⟨d0, d1, -, -⟩ := cells2 E0.out
    obtain ⟨c0, c1, c2, c3, cf, clt⟩ := cells4 Z6.out
    have hP := put4 Z6.out (.int .i64 0) (.slice sl n cap) (.int .i64 0) (.int .i64 0)
    obtain ⟨q0, q1, q2, q3, -, -⟩ := cells4 hP
    have B9 := Lib.hid (below_put4 B6.out (Nat.le_refl w.heap.size) (.int .i64 0) (.slice sl n cap) (.int .i64 0) (.int .i64 0))
    have C9 := Lib.hid ((C6.out.put4 (b := w.heap.size) (by omega) (.int .i64 0) (.slice sl n cap) (.int .i64 0) (.int .i64 0)).mono (B' := w.heap.size) (by omega))
    clear hP BX Z6 C6 B6 E0 AN
    go_wp2
    exact bodyPost_ret (v := .agg #[.int .i64 0, .slice sl n cap, .int .i64 0, .int .i64 0]) (by simp [results, Tryd.results48, go_sem, q0, q1, q2, q3]) rfl (PP.out _ B9.out C9.out)
  · have ho : outR s = ([], (readR s).2.1, 3) := by unfold outR; rw [if_neg (by omega), if_neg (by rw [hr]; simp)]
    have PP : Hid (∀ w', Below w.heap.size w w' → RdPost s w (.returned (.agg #[.int .i64 0, .slice none 0 0, .int .i64 ((readR s).2.1 : Nat), .int .i64 3])) w') := fun w' hb' => ⟨none, 0, 0, [], by rw [ho], by rw [ho]; rfl, OwC.nil _ _, hb'⟩
    clear hr ho
    generalize ((readR s).2.1 : Nat) = ln at *
    have BX : Hid (Below w5.heap.size w5 ((w5.alloc (.cells #[.int .i64 0, .slice none 0 0] 27)).alloc (.cells #[.int .i64 0] 136))) := bA (bA0 _ _) _
    have hz6 : (w5.alloc (.cells #[.int .i64 0, .slice none 0 0] 27)).heap.size = w5.heap.size + 1 := by simp
    have E1 : Hid (((w5.alloc (.cells #[.int .i64 0, .slice none 0 0] 27)).alloc (.cells #[.int .i64 0] 136)).heap[w5.heap.size + 1]? = some (.cells #[.int .i64 0] 136)) := by
      have := new_at (w5.alloc (.cells #[.int .i64 0, .slice none 0 0] 27)) (.cells #[.int .i64 0] 136)
      rwa [hz6] at this
    have Z6 := Lib.hid ((BX.out.block w.heap.size hw5).trans Z5.out)
    have B6 := Lib.hid (bT B5.out BX.out)
    have hg6 : ((w5.alloc (.cells #[.int .i64 0, .slice none 0 0] 27)).alloc (.cells #[.int .i64 0] 136)).cell? ⟨0, 0, none⟩ = some (.iface 203 (hdl 96)) := (B6.out.cell (p := ⟨0, 0, none⟩) h0).trans HG.out
    have AH := Lib.hid (as_hit (ln : Int) ⟨w5.heap.size + 1, 0, none⟩ (.int .i64 0) _ hg6 (cell1 E1.out).1 (cell1 E1.out).2)
    clear hg6
    go_wp2_with fail
    refine AH.out.mono ?_
    rintro e w7 ⟨rfl, hw7⟩
    clear AH
    generalize (w5.alloc (.cells #[.int .i64 0, .slice none 0 0] 27)).alloc (.cells #[.int .i64 0] 136) = W6 at *
    have hl6 : w5.heap.size + 1 < W6.heap.size := (Array.getElem?_eq_some_iff.1 E1.out).1
    generalize hX : (((W6.alloc (.cells #[.pointer (some ⟨w5.heap.size + 1, 0, none⟩)] 138)).alloc (.cells #[.pointer (some ⟨7, 138, none⟩), .pointer (some ⟨W6.heap.size, 0, none⟩), .int .u64 150] 176)).alloc (.cells #[.pointer (some ⟨7, 138, none⟩), .pointer (some ⟨W6.heap.size, 0, none⟩), .int .u64 150] 176)).alloc (.cells #[.int .i64 (ln : Int)] 136) = X at hw7
    have BW : Below W6.heap.size W6 X := by
      rw [← hX]; exact bA (bA (bA (bA0 _ _) _) _) _
    have E7 : w7.cell? ⟨w5.heap.size + 1, 0, none⟩ = some (.int .i64 ln) := by
      have h1 : X.heap[w5.heap.size + 1]? = some (.cells #[.int .i64 0] 136) := (BW.block _ hl6).trans E1.out
      have := heap_setCell_same X (w5.heap.size + 1) 0 _ 136 (.int .i64 ln) h1
      rw [hw7]
      simp only [World.cell?, this]
      rfl
    have Z7 : Hid (w7.heap[w.heap.size]? = some Z29) := by
      show _ = _
      rw [hw7, Below.heap_setCell _ _ _ _ (show w.heap.size ≠ w5.heap.size + 1 by omega)]
      exact (BW.block _ (by omega)).trans Z6.out
    have B7 : Hid (Below w.heap.size w w7) := by
      show Below _ _ _
      rw [hw7]
      exact (bT B6.out BW).setCell (p := ⟨w5.heap.size + 1, 0, none⟩) (by simp; omega) _
    clear hw7 hX BW E1 Z6 B6 BX
    obtain ⟨c0, c1, c2, c3, cf, clt⟩ := cells4 Z7.out
    have hP := put4 Z7.out (.int .i64 0) (.slice none 0 0) (.int .i64 (ln : Int)) (.int .i64 3)
    obtain ⟨q0, q1, q2, q3, -, -⟩ := cells4 hP
    have B9 := Lib.hid (below_put4 B7.out (Nat.le_refl w.heap.size) (.int .i64 0) (.slice none 0 0) (.int .i64 (ln : Int)) (.int .i64 3))
    clear hP Z7 B7
    go_wp2
    exact bodyPost_ret (v := .agg #[.int .i64 0, .slice none 0 0, .int .i64 (ln : Int), .int .i64 3]) (by simp [results, Tryd.results48, go_sem, q0, q1, q2, q3]) rfl (PP.out _ B9.out)

theorem rb_any (s : ByteArray) (w : World) (hg : w.cell? ⟨0, 0, none⟩ = some (.iface 203 (hdl 96))) :
    Calls Tryd.prog 48 #[.func (.func 49) #[] #[], .string s] w fun e w' => RdPost s w e w' := by
  by_cases h : 20000 < s.size
  · exact rb_long s w h
  · exact rb_main s w (by omega) hg

set_option maxRecDepth 100000 in
set_option maxHeartbeats 2000000 in
/-- impl.LemmasRead. -/
theorem ilr_any (s : ByteArray) (w : World) (hg : w.cell? ⟨0, 0, none⟩ = some (.iface 203 (hdl 96))) :
    Calls Tryd.prog 13 #[.string s] w fun e w' => RdPost s w e w' := by
  have h0 : 0 < w.heap.size := by
    rcases Nat.eq_zero_or_pos w.heap.size with h0 | h
    · simp [World.cell?, h0] at hg
    · exact h
  have RB := Lib.hid (rb_any s (w.alloc Z29) (((bA0 w Z29).cell (p := ⟨0, 0, none⟩) h0).trans hg))
  have PP : Hid (∀ (w' : World) (sl : Option Addr) (n cap : Nat) (cs : List LCl), bareC cs = (outR s).1 → OwC w' w.heap.size (.slice sl n cap) cs → Below w.heap.size w w' → RdPost s w (.returned (.agg #[.int .i64 0, .slice sl n cap, .int .i64 ((outR s).2.1 : Nat), .int .i64 (outR s).2.2])) w') := fun w' sl n cap cs hb hC hB => ⟨sl, n, cap, cs, rfl, hb, hC, hB⟩
  clear hg
  go_enter Tryd.func13, Tryd.ntmps13
  go_wp2_with fail
  refine RB.out.mono ?_
  rintro e w5 ⟨sl, n, cap, cs, rfl, hb, hC, b5⟩
  have Z5 : Hid (w5.heap[w.heap.size]? = some Z29) := (b5.block w.heap.size (by simp)).trans (new_at w Z29)
  have B5 := Lib.hid (bT (bA0 w Z29) b5)
  have hW : (w.alloc Z29).heap.size = w.heap.size + 1 := by simp
  rw [hW] at hC
  generalize ((outR s).2.1 : Nat) = ln at *
  generalize (outR s).2.2 = cd at *
  obtain ⟨c0, c1, c2, c3, cf, clt⟩ := cells4 Z5.out
  have hP := put4 Z5.out (.int .i64 0) (.slice sl n cap) (.int .i64 (ln : Int)) (.int .i64 cd)
  obtain ⟨q0, q1, q2, q3, -, -⟩ := cells4 hP
  have B9 := Lib.hid (below_put4 B5.out (Nat.le_refl w.heap.size) (.int .i64 0) (.slice sl n cap) (.int .i64 (ln : Int)) (.int .i64 cd))
  have C9 := Lib.hid ((hC.put4 (b := w.heap.size) (by omega) (.int .i64 0) (.slice sl n cap) (.int .i64 (ln : Int)) (.int .i64 cd)).mono (B' := w.heap.size) (by omega))
  have HB := Lib.hid hb
  clear hP hb hC b5 B5 Z5 RB
  go_wp2
  exact bodyPost_ret (v := .agg #[.int .i64 0, .slice sl n cap, .int .i64 (ln : Int), .int .i64 cd]) (by simp [results, Tryd.results13, go_sem, q0, q1, q2, q3]) rfl (PP.out _ sl n cap cs HB.out C9.out B9.out)

end Go.Proofs.YtoncpiaboceefaaDoor
