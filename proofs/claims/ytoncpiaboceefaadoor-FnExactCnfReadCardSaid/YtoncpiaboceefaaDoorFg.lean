/-
  THE SCANNER: its block, its next byte, its fault.
-/
import Derived.Test.YtoncpiaboceefaaDoorFd
import Derived.ScopeJumps
import Derived.WalkMore
namespace Go.Proofs.YtoncpiaboceefaaDoor
open Go.RowKit
set_option linter.unusedVariables false

/-- Of the blocks that were there only block b may have turned. -/
structure Only (b : Nat) (w w' : World) : Prop where
  os : w'.os = w.os
  tape : w'.tape = w.tape
  output : w'.output = w.output
  size : w.heap.size ≤ w'.heap.size
  block : ∀ k, k < w.heap.size → k ≠ b → w'.heap[k]? = w.heap[k]?

theorem Only.refl (b : Nat) (w : World) : Only b w w := ⟨rfl, rfl, rfl, Nat.le_refl _, fun _ _ _ => rfl⟩
theorem Only.trans {b : Nat} {u v w : World} (h : Only b u v) (k : Only b v w) : Only b u w :=
  ⟨k.os.trans h.os, k.tape.trans h.tape, k.output.trans h.output, Nat.le_trans h.size k.size, fun i hi hb => (k.block i (Nat.lt_of_lt_of_le hi h.size) hb).trans (h.block i hi hb)⟩
theorem Only.drewN {b : Nat} {u v : World} (h : Only b u v) (n : Nat) : Only b u (v.drewN n) := ⟨h.os, h.tape, h.output, h.size, h.block⟩
theorem Only.drew {b : Nat} {u v : World} (h : Only b u v) : Only b u v.drew := ⟨h.os, h.tape, h.output, h.size, h.block⟩
theorem Only.setCell {b : Nat} {u v : World} (h : Only b u v) (o : Nat) (x : Value) : Only b u (v.setCell ⟨b, o, none⟩ x) :=
  h.trans ⟨rfl, rfl, rfl, by simp [World.setCell], fun k _ hk => Below.heap_setCell _ _ _ _ hk⟩
theorem Only.alloc {b : Nat} {u v : World} (h : Only b u v) (o : Obj) : Only b u (v.alloc o) :=
  h.trans ⟨rfl, rfl, rfl, by simp, fun k hk _ => Below.heap_alloc _ _ _ hk⟩
theorem Only.of_below {b : Nat} {u v : World} (h : Below u.heap.size u v) : Only b u v := ⟨h.os, h.tape, h.output, h.size, fun k hk _ => h.block k hk⟩
theorem Only.below {b : Nat} {u v w : World} (h : Below u.heap.size u v) (hb : u.heap.size ≤ b) (k : Only b v w) : Below u.heap.size u w :=
  ⟨k.os.trans h.os, k.tape.trans h.tape, k.output.trans h.output, Nat.le_trans h.size k.size, fun i hi => (k.block i (Nat.lt_of_lt_of_le hi h.size) (by omega)).trans (h.block i hi)⟩
theorem Only.cell {b : Nat} {w w' : World} (h : Only b w w') {c o : Nat} (hc : c < w.heap.size) (hb : c ≠ b) : w'.cell? ⟨c, o, none⟩ = w.cell? ⟨c, o, none⟩ := World.cell?_of_block (w := w) (h.block c hc hb)
theorem Only.frozen {b : Nat} {w w' : World} (h : Only b w w') {c o : Nat} (hc : c < w.heap.size) (hb : c ≠ b) : w'.frozen? ⟨c, o, none⟩ = w.frozen? ⟨c, o, none⟩ := World.frozen?_of_block (w := w) (h.block c hc hb)


/-- A scanner over s, at p, with ln lines behind it. -/
def ScAt (w : World) (b : Nat) (s : ByteArray) (p : Nat) (ln : Int) : Prop := w.heap[b]? = some (.cells #[.string s, .int .i64 p, .int .i64 ln] 140)
theorem cellsS3 {w : World} {b : Nat} {t : TypeId} {a0 a1 a2 : Value} (h : w.heap[b]? = some (.cells #[a0, a1, a2] t)) :
    w.cell? ⟨b, 0, none⟩ = some a0 ∧ w.cell? ⟨b, 1, none⟩ = some a1 ∧ w.cell? ⟨b, 2, none⟩ = some a2 ∧ (∀ o, w.frozen? ⟨b, o, none⟩ = false) ∧ b < w.heap.size := by
  refine ⟨?_, ?_, ?_, fun o => ?_, (Array.getElem?_eq_some_iff.1 h).1⟩ <;> simp [World.cell?, World.frozen?, h]
theorem ScAt.at {w : World} {b : Nat} {s : ByteArray} {p : Nat} {ln : Int} (h : ScAt w b s p ln) (q : Nat) : ScAt (w.setCell ⟨b, 1, none⟩ (.int .i64 q)) b s q ln := by
  unfold ScAt at *
  rw [heap_setCell_same w b 1 _ 140 _ h]
  rfl
theorem ScAt.line {w : World} {b : Nat} {s : ByteArray} {p : Nat} {ln : Int} (h : ScAt w b s p ln) (q : Int) : ScAt (w.setCell ⟨b, 2, none⟩ (.int .i64 q)) b s p q := by
  unfold ScAt at *
  rw [heap_setCell_same w b 2 _ 140 _ h]
  rfl
theorem ScAt.drewN {w : World} {b : Nat} {s : ByteArray} {p : Nat} {ln : Int} (h : ScAt w b s p ln) (n : Nat) : ScAt (w.drewN n) b s p ln := h
theorem ScAt.below {w w' : World} {b : Nat} {s : ByteArray} {p : Nat} {ln : Int} (h : ScAt w b s p ln) (hb : Below w.heap.size w w') : ScAt w' b s p ln := (hb.block b (Array.getElem?_eq_some_iff.1 h).1).trans h
/-- The byte that comes next, and the place behind it. -/
def nxB (s : ByteArray) (p : Nat) : UInt8 := if h : p < s.size then s[p] else 0
def nxP (s : ByteArray) (p : Nat) : Nat := if p < s.size then p + 1 else p

set_option maxRecDepth 100000 in
set_option maxHeartbeats 2000000 in
/-- (*scanner).next. -/
theorem nx_any (b : Nat) (s : ByteArray) (p : Nat) (ln : Int) (w : World) (h : ScAt w b s p ln) (hp : p ≤ s.size) (hs : s.size ≤ 1048576) :
    Calls Tryd.prog 151 #[.pointer (some ⟨b, 0, none⟩)] w fun e w' => e = .returned (.int .u8 ((nxB s p).toNat : Int)) ∧ ScAt w' b s (nxP s p) ln ∧ Only b w w' := by
  have H := Lib.hid h
  obtain ⟨c0, c1, c2, cf, cl⟩ := cellsS3 h
  clear h
  by_cases h1 : p < s.size
  · have e1 : ((p : Int) == (s.size : Int)) = false := by simp; omega
    have EB := Lib.hid (show nxB s p = s[p] from dif_pos h1)
    have EP := Lib.hid (show nxP s p = p + 1 from if_pos h1)
    go_enter Tryd.func151, Tryd.ntmps151
    go_wp2_with fail
    go_quiet (fail)
    have Z1 : Hid (∀ n, ScAt ((w.drewN n).setCell ⟨b, 1, none⟩ (.int .i64 ((p : Int) + 1))) b s (p + 1) ln) := fun n => (H.out.drewN n).at (p + 1)
    have Z2 : Hid (∀ n, Only b w ((w.drewN n).setCell ⟨b, 1, none⟩ (.int .i64 ((p : Int) + 1)))) := fun n => ((Only.refl b w).drewN n).setCell 1 _
    go_wp2_with fail
    have Y1 := Lib.hid (Z1.out ‹Nat›)
    have Y2 := Lib.hid (Z2.out ‹Nat›)
    clear Z1 Z2 c0 c1 c2 cf cl H
    generalize (World.setCell _ _ _) = w2 at *
    obtain ⟨c0, c1, c2, cf, cl⟩ := cellsS3 Y1.out
    have hq : ((p + 1 : Nat) : Int) - 1 = (p : Int) := by omega
    go_quiet (fail)
    go_wp2
    go_ret
    exact ⟨by rw [EB.out]; congr 1, by rw [EP.out]; exact Y1.out.drewN _, Y2.out.drewN _⟩
  · have e : p = s.size := by omega
    have EB := Lib.hid (show nxB s p = 0 from dif_neg h1)
    have EP := Lib.hid (show nxP s p = p from if_neg h1)
    have e1 : ((p : Int) == (s.size : Int)) = true := by simp; omega
    go_enter Tryd.func151, Tryd.ntmps151
    go_wp2_with fail
    go_quiet (fail)
    go_wp2
    go_ret
    exact ⟨by rw [EB.out]; rfl, by rw [EP.out]; exact H.out.drewN _, (Only.refl b w).drewN _⟩
set_option maxHeartbeats 1000000 in
/-- (*scanner).fault. -/
theorem fa_any (b : Nat) (s : ByteArray) (p : Nat) (ln : Int) (w : World) (h : ScAt w b s p ln) :
    Calls Tryd.prog 122 #[.pointer (some ⟨b, 0, none⟩)] w fun e w' => e = .returned (.iface 136 (.agg #[.int .i64 ln])) ∧ w' = w := by
  obtain ⟨c0, c1, c2, cf, cl⟩ := cellsS3 h
  go_enter Tryd.func122, Tryd.ntmps122
  go_wp2
  go_ret
  exact ⟨rfl, rfl⟩

end Go.Proofs.YtoncpiaboceefaaDoor
