/-
  THE DRAWS: a coin, and a number between two.
-/
import Derived.Test.YtgfclllfkpblnaaSb
import Derived.Test.YtgfclllfkpblnaaAp
namespace Go.Proofs.Ytgfclllfkpblnaa
open Go.RowKit
set_option linter.unusedVariables false

theorem Src.other {w w' : World} {b : Nat} (h : Src w b) (ho : Below w.heap.size w w') : Src w' b := by
  obtain ⟨sl, len, cap, k, mix, sz, h, hb, hk, hl, m1, m2, z1, z2, hbs⟩ := h
  refine ⟨sl, len, cap, k, mix, sz, (ho.block b hbs).trans h, fun i hi => ?_, hk, hl, m1, m2, z1, z2, Nat.lt_of_lt_of_le hbs ho.size⟩
  obtain ⟨c, o, z, e, hc, hs, y1, y2, hz⟩ := hb i hi
  exact ⟨c, o, z, e, hc, Nat.lt_of_lt_of_le hs ho.size, y1, y2, (ho.cell hs).trans hz⟩
theorem Src.lt {w : World} {b : Nat} (h : Src w b) : b < w.heap.size := by
  obtain ⟨sl, len, cap, k, mix, sz, h, hb, hk, hl, m1, m2, z1, z2, hbs⟩ := h
  exact hbs

/-- A number of int64. -/
def I64 (v : Int) : Prop := -9223372036854775808 ≤ v ∧ v ≤ 9223372036854775807

set_option maxHeartbeats 400000 in
theorem one_any (b : Nat) (m : Int) (w : World) (hM : m ≤ 9223372036854775807) (hs : Src w b) :
    Calls Try.prog 17 #[.pointer (some ⟨b, 0, none⟩), .int .i64 m] w fun e w' => ∃ t : Bool, e = .returned (.bool t) ∧ Src w' b ∧ Only b w w' := by
  have HS : Hid (Src w b) := hs
  clear hs
  go_enter Try.func17, Try.ntmps17
  go_wp2_with fail
  refine (n_any b m _ hM HS.out).mono ?_
  rintro e w1 ⟨r, rfl, r1, r2, s1, o1⟩
  have H1 : Hid (Src w1 b ∧ Only b w w1) := ⟨s1, o1⟩
  clear s1 o1 r2
  go_wp2
  go_ret
  exact ⟨_, rfl, H1.out⟩

theorem lit_cell {w w2 : World} {b : Nat} (zs : List Int) (ho : Only b (w.alloc (.cells (zs.map (Value.int .i64)).toArray 2)) w2) (hb : b < w.heap.size) (r : Int) (r1 : 0 ≤ r) (r2 : r < zs.length) :
    w2.cell? ⟨w.heap.size, r.toNat, none⟩ = some (.int .i64 (zs.getD r.toNat 0)) := by
  rw [ho.cell (by simp) (by omega)]
  have h : r.toNat < zs.length := by omega
  have e : (w.alloc (.cells (zs.map (Value.int .i64)).toArray 2)).heap[w.heap.size]? = some (.cells (zs.map (Value.int .i64)).toArray 2) := by
    show (w.heap.push _)[w.heap.size]? = _
    simp
  unfold World.cell?
  simp only [e]
  simp [h]
theorem lit_i64 (zs : List Int) (h : ∀ z ∈ zs, -9223372036854775808 ≤ z ∧ z ≤ 9223372036854775807) (i : Nat) : I64 (zs.getD i 0) := by
  unfold I64
  by_cases hi : i < zs.length
  · rw [show zs.getD i 0 = zs[i] by simp [hi]]; exact h _ (List.getElem_mem hi)
  · rw [show zs.getD i 0 = 0 by simp [hi]]; omega

def edges : List Int := [0, 1, -1, 2, 1000, 1001, 2147483648, 2147483647, -2147483648, 4611686018427387904, 9223372036854775807, -9223372036854775808, 1000000, 1000001]
theorem edges_ok (i : Nat) : I64 (edges.getD i 0) := lit_i64 edges (by decide) i

end Go.Proofs.Ytgfclllfkpblnaa
