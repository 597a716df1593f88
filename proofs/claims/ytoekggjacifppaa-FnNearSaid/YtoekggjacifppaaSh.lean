/-
  A TABLE DRAWN OUT OF BYTES (DrawTableIds).
-/
import Derived.Test.YtoekggjacifppaaSg
namespace Go.Proofs.Ytoekggjacifppaa
open Go.RowKit
set_option linter.unusedVariables false

/-- What a drawn table is to whoever draws it. -/
def DrPost (w : World) (e : Ending) (w' : World) : Prop :=
  ∃ sl cap sl2 cap2 rs ps, e = .returned (TV sl (List.length rs) cap sl2 (List.length ps) cap2) ∧ rs.length ≤ 14 ∧ ps.length ≤ 41 ∧ (∀ p ∈ ps, WfP p) ∧ Sts w' sl rs ∧ Prs w' sl2 ps ∧ Below w.heap.size w w'

set_option maxHeartbeats 400000 in
theorem draw_any (sl : Option Addr) (len cap : Nat) (w : World) (hr : RowIn w sl len) :
    Calls Try.prog 12 #[.slice sl len cap] w fun e w' => DrPost w e w' := by
  have HS := Lib.hid (source_any sl len cap (w.alloc (.cells #[.slice none 0 0, .slice none 0 0] 26)) (hr.below (bA0 _ _)))
  have R0 := Lib.hid (new_at w (.cells #[.slice none 0 0, .slice none 0 0] 26))
  have B0 := Lib.hid (bA0 w (.cells #[.slice none 0 0, .slice none 0 0] 26))
  have hz : (w.alloc (.cells #[.slice none 0 0, .slice none 0 0] 26)).heap.size = w.heap.size + 1 := by simp
  clear hr
  go_enter Try.func12, Try.ntmps12
  go_wp2_with fail
  generalize w.alloc (.cells #[.slice none 0 0, .slice none 0 0] 26) = w0 at *
  refine HS.out.mono ?_
  rintro e w1 ⟨rfl, s1, b1⟩
  rw [hz] at s1 b1
  have T1 := Lib.hid (tab_any (w.heap.size + 1) w1 s1)
  have B1 := Lib.hid (B0.out.trans (b1.mono (by omega)))
  have R1 := Lib.hid ((b1.block w.heap.size (by omega)).trans R0.out)
  have h1z : w.heap.size + 1 < w1.heap.size := s1.lt
  clear s1 b1 HS R0 B0
  rw [hz]
  go_wp2_with fail
  refine T1.out.mono ?_
  rintro e w2 ⟨sl1, cap1, sl2, cap2, rs, ps, rfl, h1, h2, hw, -, ho, hk⟩
  have R2 := Lib.hid ((ho.block w.heap.size (by omega) (by omega)).trans R1.out)
  have hs2 := ho.size
  have c0 : w2.cell? ⟨w.heap.size, 0, none⟩ = some (.slice none 0 0) := by simp [World.cell?, R2.out]
  have c1 : w2.cell? ⟨w.heap.size, 1, none⟩ = some (.slice none 0 0) := by simp [World.cell?, R2.out]
  have f0 : w2.frozen? ⟨w.heap.size, 0, none⟩ = false := by simp [World.frozen?, R2.out]
  have f1 : w2.frozen? ⟨w.heap.size, 1, none⟩ = false := by simp [World.frozen?, R2.out]
  have lt2 : w.heap.size < w2.heap.size := by omega
  have P : Hid (DrPost w (.returned (TV sl1 rs.length cap1 sl2 ps.length cap2)) ((w2.setCell ⟨w.heap.size, 0, none⟩ (.slice sl1 rs.length cap1)).setCell ⟨w.heap.size, 1, none⟩ (.slice sl2 ps.length cap2))) := by
    obtain ⟨k1, k2⟩ := hk ((w2.setCell ⟨w.heap.size, 0, none⟩ (.slice sl1 rs.length cap1)).setCell ⟨w.heap.size, 1, none⟩ (.slice sl2 ps.length cap2)) (by simp [World.setCell]) (fun k hk1 hk2 => (Below.heap_setCell _ _ _ _ (by show k ≠ w.heap.size; omega)).trans (Below.heap_setCell _ _ _ _ (by show k ≠ w.heap.size; omega)))
    have b2 : Below w.heap.size w w2 := ho.below B1.out (by omega)
    exact ⟨sl1, cap1, sl2, cap2, rs, ps, rfl, h1, h2, hw, k1, k2, (b2.setCell (Nat.le_refl _) _).setCell (Nat.le_refl _) _⟩
  have R3 := heap_setCell_same _ w.heap.size 1 _ 26 (.slice sl2 ps.length cap2) (heap_setCell_same w2 w.heap.size 0 _ 26 (.slice sl1 rs.length cap1) R2.out)
  have e5 : ((w2.setCell ⟨w.heap.size, 0, none⟩ (.slice sl1 rs.length cap1)).setCell ⟨w.heap.size, 1, none⟩ (.slice sl2 ps.length cap2)).cell? ⟨w.heap.size, 0, none⟩ = some (.slice sl1 rs.length cap1) := by simp [World.cell?, R3]
  have e6 : ((w2.setCell ⟨w.heap.size, 0, none⟩ (.slice sl1 rs.length cap1)).setCell ⟨w.heap.size, 1, none⟩ (.slice sl2 ps.length cap2)).cell? ⟨w.heap.size, 1, none⟩ = some (.slice sl2 ps.length cap2) := by simp [World.cell?, R3]
  clear hk ho hw B1 T1 R1 R2 R3
  generalize rs.length = n at *
  generalize ps.length = m at *
  go_wp2
  exact bodyPost_ret (v := .agg #[.slice sl1 n cap1, .slice sl2 m cap2]) (by simp [results, Try.results12, go_sem, e5, e6]) rfl P.out

end Go.Proofs.Ytoekggjacifppaa
