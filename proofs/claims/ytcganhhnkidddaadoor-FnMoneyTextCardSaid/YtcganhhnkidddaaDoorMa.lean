/-
  THE LEAVES: what counts as money, on both sides.
-/
import Derived.Test.YtcganhhnkidddaaDoorRows
import Derived.WalkKit
import Derived.WalkSpells
import Derived.WalkLawsBesides
import Derived.Laws.EntriesVeiled
namespace Go.Proofs.YtcganhhnkidddaaDoor
open Go.RowKit

def isM (a : Int) : Bool := decide (-1000000000000 ≤ a ∧ a ≤ 1000000000000)

theorem isM_t {a : Int} (h : isM a = true) : -1000000000000 ≤ a ∧ a ≤ 1000000000000 := by simpa [isM] using h
theorem isM_f {a : Int} (h : isM a = false) : a < -1000000000000 ∨ 1000000000000 < a := by
  have : ¬ (-1000000000000 ≤ a ∧ a ≤ 1000000000000) := by simpa [isM] using h
  omega

theorem bcell {W w1 : World} (hb : Below W.heap.size W w1) : (∀ b o, b < W.heap.size → w1.cell? ⟨b, o, none⟩ = W.cell? ⟨b, o, none⟩) ∧ (∀ b o, b < W.heap.size → w1.frozen? ⟨b, o, none⟩ = W.frozen? ⟨b, o, none⟩) :=
  ⟨fun _ _ h => hb.cell h, fun _ _ h => hb.frozen h⟩

theorem bT {W w w1 : World} (h : Below W.heap.size W w) (hb : Below w.heap.size w w1) : Below W.heap.size W w1 := h.trans (hb.mono h.size)
theorem bZ {W w1 : World} {o : Obj} (hb : Below (W.alloc o).heap.size (W.alloc o) w1) : W.heap.size < w1.heap.size := by have := hb.size; simp at this; omega
theorem bA {W w : World} (h : Below W.heap.size W w) (o : Obj) : Below W.heap.size W (w.alloc o) := h.alloc h.size o
theorem bA0 (W : World) (o : Obj) : Below W.heap.size W (W.alloc o) := (Below.refl _ _).alloc (Nat.le_refl _) o

set_option maxHeartbeats 400000 in
theorem isMoney_any (a : Int) (w : World) :
    Calls Tryd.prog 28 #[.int .i64 a] w fun e w' => e = .returned (.bool (isM a)) ∧ w' = w := by
  by_cases h1 : -1000000000000 ≤ a
  · by_cases h2 : a ≤ 1000000000000
    · have e : isM a = true := by simp [isM]; omega
      rw [e]; clear e
      go_enter Tryd.func28, Tryd.ntmps28
      go_wp2
      go_ret
      exact ⟨rfl, rfl⟩
    · have e : isM a = false := by simp [isM]; omega
      rw [e]; clear e
      go_enter Tryd.func28, Tryd.ntmps28
      go_wp2
      go_ret
      exact ⟨rfl, rfl⟩
  · have e : isM a = false := by simp [isM]; omega
    rw [e]; clear e
    go_enter Tryd.func28, Tryd.ntmps28
    go_wp2
    go_ret
    exact ⟨rfl, rfl⟩

set_option maxHeartbeats 400000 in
theorem l01Money_any (a : Int) (w : World) :
    Calls Tryd.prog 23 #[.int .i64 a] w fun e w' => e = .returned (.bool (isM a)) ∧ w' = w := by
  by_cases h1 : -1000000000000 ≤ a
  · by_cases h2 : a ≤ 1000000000000
    · have e : isM a = true := by simp [isM]; omega
      rw [e]; clear e
      go_enter Tryd.func23, Tryd.ntmps23
      go_wp2
      go_ret
      exact ⟨rfl, rfl⟩
    · have e : isM a = false := by simp [isM]; omega
      rw [e]; clear e
      go_enter Tryd.func23, Tryd.ntmps23
      go_wp2
      go_ret
      exact ⟨rfl, rfl⟩
  · have e : isM a = false := by simp [isM]; omega
    rw [e]; clear e
    go_enter Tryd.func23, Tryd.ntmps23
    go_wp2
    go_ret
    exact ⟨rfl, rfl⟩

set_option maxHeartbeats 400000 in
theorem inBound0_any (a : Int) (w : World) :
    Calls Tryd.prog 15 #[.int .i64 0, .int .i64 a] w fun e w' => e = .returned (.bool (isM a)) ∧ Below w.heap.size w w' := by
  go_enter Tryd.func15, Tryd.ntmps15
  go_wp2_with (go_at_call 28; refine (isMoney_any _ _).mono ?_; rintro e w' ⟨rfl, rfl⟩)
  go_ret
  exact ⟨rfl, (Below.refl _ _).alloc (Nat.le_refl _) _⟩

end Go.Proofs.YtcganhhnkidddaaDoor
