/-
  LEMMAS READ BY THE PROGRAM: lemmasIn, readBy, LemmasRead.
-/
import Derived.Test.YtoncpiaboceefaaDoorFq
import Derived.Test.YtoncpiaboceefaaDoorFp
namespace Go.Proofs.YtoncpiaboceefaaDoor
open Go.RowKit
set_option linter.unusedVariables false

theorem cells4 {w : World} {b : Nat} {t : TypeId} {x0 x1 x2 x3 : Value} (h : w.heap[b]? = some (.cells #[x0, x1, x2, x3] t)) :
    w.cell? ⟨b, 0, none⟩ = some x0 ∧ w.cell? ⟨b, 1, none⟩ = some x1 ∧ w.cell? ⟨b, 2, none⟩ = some x2 ∧ w.cell? ⟨b, 3, none⟩ = some x3 ∧ (∀ o, w.frozen? ⟨b, o, none⟩ = false) ∧ b < w.heap.size := by
  refine ⟨?_, ?_, ?_, ?_, fun o => ?_, (Array.getElem?_eq_some_iff.1 h).1⟩ <;> simp [World.cell?, World.frozen?, h]
theorem put4 {w : World} {b : Nat} {t : TypeId} {o0 o1 o2 o3 : Value} (h : w.heap[b]? = some (.cells #[o0, o1, o2, o3] t)) (x0 x1 x2 x3 : Value) :
    ((((w.setCell ⟨b, 0, none⟩ x0).setCell ⟨b, 1, none⟩ x1).setCell ⟨b, 2, none⟩ x2).setCell ⟨b, 3, none⟩ x3).heap[b]? = some (.cells #[x0, x1, x2, x3] t) := by
  rw [heap_setCell_same _ b 3 _ t x3 (heap_setCell_same _ b 2 _ t x2 (heap_setCell_same _ b 1 _ t x1 (heap_setCell_same _ b 0 _ t x0 h)))]
  rfl
theorem cells2 {w : World} {b : Nat} {t : TypeId} {x0 x1 : Value} (h : w.heap[b]? = some (.cells #[x0, x1] t)) :
    w.cell? ⟨b, 0, none⟩ = some x0 ∧ w.cell? ⟨b, 1, none⟩ = some x1 ∧ (∀ o, w.frozen? ⟨b, o, none⟩ = false) ∧ b < w.heap.size := by
  refine ⟨?_, ?_, fun o => ?_, (Array.getElem?_eq_some_iff.1 h).1⟩ <;> simp [World.cell?, World.frozen?, h]
theorem put2 {w : World} {b : Nat} {t : TypeId} {o0 o1 : Value} (h : w.heap[b]? = some (.cells #[o0, o1] t)) (x0 x1 : Value) :
    ((w.setCell ⟨b, 0, none⟩ x0).setCell ⟨b, 1, none⟩ x1).heap[b]? = some (.cells #[x0, x1] t) := by
  rw [heap_setCell_same _ b 1 _ t x1 (heap_setCell_same _ b 0 _ t x0 h)]
  rfl
theorem OwC.setLow {w : World} {B : Nat} {v : Value} {cs : List LCl} (h : OwC w B v cs) {b : Nat} (hb : b < B) (i : Nat) (u : Value) : OwC (w.setCell ⟨b, i, none⟩ u) B v cs := h.only ((Only.refl b w).setCell i u) hb

/-- A list that goes right, or the line that is none. -/
def LiPost (s : ByteArray) (w : World) (e : Ending) (w' : World) : Prop :=
  (((readR s).2.2 = true ∧ ∃ sl n cap cs, e = .returned (.tuple #[.agg #[.int .i64 0, .slice sl n cap], .nilIface]) ∧ bareC cs = (readR s).1 ∧ OwC w' w.heap.size (.slice sl n cap) cs) ∨
   ((readR s).2.2 = false ∧ e = .returned (.tuple #[.agg #[.int .i64 0, .slice none 0 0], .iface 136 (.agg #[.int .i64 ((readR s).2.1 : Nat)])]))) ∧ Below w.heap.size w w'

set_option maxRecDepth 100000 in
set_option maxHeartbeats 2000000 in
theorem li_any (s : ByteArray) (w : World) (hs : s.size ≤ 20000) :
    Calls Tryd.prog 49 #[.string s] w fun e w' => LiPost s w e w' := by
  have hz1 : (w.alloc (.cells #[.int .i64 0, .slice none 0 0] 27)).heap.size = w.heap.size + 1 := by simp
  have S0 : Hid (ScAt ((w.alloc (.cells #[.int .i64 0, .slice none 0 0] 27)).alloc (.cells #[.string s, .int .i64 0, .int .i64 0] 140)) (w.heap.size + 1) s 0 0) := by
    have := new_at (w.alloc (.cells #[.int .i64 0, .slice none 0 0] 27)) (.cells #[.string s, .int .i64 0, .int .i64 0] 140)
    rw [hz1] at this
    exact this
  have Z0 : Hid (((w.alloc (.cells #[.int .i64 0, .slice none 0 0] 27)).alloc (.cells #[.string s, .int .i64 0, .int .i64 0] 140)).heap[w.heap.size]? = some (.cells #[.int .i64 0, .slice none 0 0] 27)) :=
    ((bA0 (w.alloc (.cells #[.int .i64 0, .slice none 0 0] 27)) (.cells #[.string s, .int .i64 0, .int .i64 0] 140)).block w.heap.size (by simp)).trans (new_at w _)
  have B0 : Hid (Below w.heap.size w ((w.alloc (.cells #[.int .i64 0, .slice none 0 0] 27)).alloc (.cells #[.string s, .int .i64 0, .int .i64 0] 140))) := bA (bA0 _ _) _
  have hW : w.heap.size + 2 = ((w.alloc (.cells #[.int .i64 0, .slice none 0 0] 27)).alloc (.cells #[.string s, .int .i64 0, .int .i64 0] 140)).heap.size := by simp
  have CL := Lib.hid (cl_any (w.heap.size + 1) s _ S0.out hs)
  have PP := Lib.hid (fun e w' (h : LiPost s w e w') => h)
  go_enter Tryd.func49, Tryd.ntmps49
  go_wp2_with fail
  refine CL.out.mono ?_
  rintro e w5 ⟨hc, ho⟩
  have Z5 : Hid (w5.heap[w.heap.size]? = some (.cells #[.int .i64 0, .slice none 0 0] 27)) := (ho.block w.heap.size (by omega) (by omega)).trans Z0.out
  have B5 : Hid (Below w.heap.size w w5) := ⟨ho.os.trans B0.out.os, ho.tape.trans B0.out.tape, ho.output.trans B0.out.output, Nat.le_trans B0.out.size ho.size, fun k hk => (ho.block k (by omega) (by omega)).trans (B0.out.block k hk)⟩
  obtain ⟨c0, c1, cf, clt⟩ := cells2 Z5.out
  rw [← hW] at hc
  clear CL ho S0 Z0 B0 hW
  rcases hc with ⟨hr, v, cs, rfl, hb, hC⟩ | ⟨hr, rfl⟩
  · obtain ⟨sl, cap, rfl⟩ := hC.v
    have hP := put2 Z5.out (.int .i64 0) (.slice sl cs.length cap)
    obtain ⟨q0, q1, -, -⟩ := cells2 hP
    have O9 := Lib.hid (((OwC.setLow hC (b := w.heap.size) (by omega) 0 (.int .i64 0)).setLow (b := w.heap.size) (by omega) 1 (.slice sl cs.length cap)).mono (B' := w.heap.size) (by omega))
    have B9 := Lib.hid ((B5.out.setCell (p := ⟨w.heap.size, 0, none⟩) (Nat.le_refl _) (.int .i64 0)).setCell (p := ⟨w.heap.size, 1, none⟩) (Nat.le_refl _) (.slice sl cs.length cap))
    have HB := Lib.hid hb
    clear hP hC hb
    generalize cs.length = n at *
    go_wp2
    exact bodyPost_ret (v := .tuple #[.agg #[.int .i64 0, .slice sl n cap], .nilIface]) (by simp [results, Tryd.results49, go_sem, q0, q1]) rfl ⟨.inl ⟨hr, sl, n, cap, cs, rfl, HB.out, O9.out⟩, B9.out⟩
  · have hP := put2 Z5.out (.int .i64 0) (.slice none 0 0)
    obtain ⟨q0, q1, -, -⟩ := cells2 hP
    have B9 := Lib.hid ((B5.out.setCell (p := ⟨w.heap.size, 0, none⟩) (Nat.le_refl _) (.int .i64 0)).setCell (p := ⟨w.heap.size, 1, none⟩) (Nat.le_refl _) (.slice none 0 0))
    clear hP
    go_wp2
    exact bodyPost_ret (v := .tuple #[.agg #[.int .i64 0, .slice none 0 0], .iface 136 (.agg #[.int .i64 ((readR s).2.1 : Nat)])]) (by simp [results, Tryd.results49, go_sem, q0, q1]) rfl ⟨.inr ⟨hr, rfl⟩, B9.out⟩

end Go.Proofs.YtoncpiaboceefaaDoor
