/-
  THE DRAWS: a record from a code.
-/
import Derived.Test.YtnkdkbchendpmaaDoorDe
namespace Go.Proofs.YtnkdkbchendpmaaDoor
open Go.RowKit
set_option linter.unusedVariables false

def DwPost (w : World) (e : Ending) (w' : World) : Prop :=
  ∃ (k : Int) (zs : List Int) (v : Value), e = .returned (.agg #[.int .i64 k, v]) ∧ zs.length ≤ 100 ∧ w'.ownsRow w.heap.size 2 1 v zs.length (valsZ zs) ∧ Below w.heap.size w w'

set_option maxRecDepth 100000 in
set_option maxHeartbeats 1000000 in
theorem draw_any (sl : Option Addr) (len cap : Nat) (w : World) (hr : RowIn w sl len) :
    Calls Tryd.prog 32 #[.slice sl len cap] w fun e w' => DwPost w e w' := by
  have HR := Lib.hid hr
  clear hr
  go_enter Tryd.func32, Tryd.ntmps32
  go_wp2_with fail
  have R1 := Lib.hid (HR.out.below (bA0 w (.cells #[.int .i64 0, .slice none 0 0] 28)))
  have Q0 := Lib.hid (VAt.new w 0 (.slice none 0 0))
  have B0 := Lib.hid (bA0 w (.cells #[.int .i64 0, .slice none 0 0] 28))
  have z0 : (w.alloc (.cells #[.int .i64 0, .slice none 0 0] 28)).heap.size = w.heap.size + 1 := by simp
  refine (source_any sl len cap _ R1.out).mono ?_
  rintro e w2 ⟨rfl, s2, b2⟩
  rw [z0] at s2 b2 ⊢
  have Q2 := Lib.hid (Q0.out.of (b2.block w.heap.size (by omega)))
  have B2 : Hid (Below w.heap.size w w2) := ⟨b2.os.trans B0.out.os, b2.tape.trans B0.out.tape, b2.output.trans B0.out.output, Nat.le_trans B0.out.size b2.size, fun k hk => (b2.block k (by omega)).trans (B0.out.block k hk)⟩
  have z2 : w.heap.size + 1 ≤ w2.heap.size := by have := b2.size; omega
  have S2 := Lib.hid s2
  clear s2 b2 Q0 B0 R1 HR
  go_wp2_with fail
  refine (rec_any (w.heap.size + 1) w2 S2.out).mono ?_
  rintro e w3 ⟨k, zs, v, rfl, hl, n3, s3, o3⟩
  have Q3 := Q2.out.of (o3.block _ (by omega) (by omega))
  have B3 := Lib.hid (o3.below B2.out (by omega))
  have N3 := Lib.hid n3
  obtain ⟨g0, g1, gf, gl⟩ := Q3.cells
  obtain ⟨sl3, cap3, rfl, _⟩ := own_ints n3
  have FP : Hid (DwPost w (.returned (.agg #[.int .i64 k, .slice sl3 zs.length cap3])) ((w3.setCell ⟨w.heap.size, 0, none⟩ (.int .i64 k)).setCell ⟨w.heap.size, 1, none⟩ (.slice sl3 zs.length cap3))) :=
    ⟨k, zs, _, rfl, hl, own_mono (own_set (own_set N3.out (by omega) _ _) (by omega) _ _) (by omega), (B3.out.setCell (Nat.le_refl _) _).setCell (Nat.le_refl _) _⟩
  clear n3 s3 o3 Q3 B3 N3 Q2 S2 B2
  generalize zs.length = q at *
  go_wp2
  exact bodyPost_ret (v := .agg #[.int .i64 k, .slice sl3 q cap3]) (by simp [results, Tryd.results32, go_sem, g0, g1]) rfl FP.out
end Go.Proofs.YtnkdkbchendpmaaDoor
