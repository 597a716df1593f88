/-
  A RECORD READ, AS THE MODEL DOES IT.
-/
import Derived.Test.YtnkdkbchendpmaaDoorRh
import Derived.Deep.LoopGhost
import Derived.BigQuiet
namespace Go.Proofs.YtnkdkbchendpmaaDoor
open Go.RowKit
set_option linter.unusedVariables false

/-- The answer's block and the reader's. -/
structure MD (w : World) (t : ByteArray) (bad : Bool) (w' : World) : Prop where
  q : QAt w' w.heap.size
  n : NAt w' (w.heap.size + 1) t bad
  low : Below w.heap.size w w'
theorem MD.new (w : World) (t : ByteArray) : MD w t false ((w.alloc (.cells #[.int .i64 0, .slice none 0 0, .int .i64 0, .int .i64 0] 36)).alloc (.cells #[.string t, .bool false] 96)) := by
  refine ⟨(QAt.new w).below (bA0 _ _), ?_, (bA0 _ _).alloc (by simp) _⟩
  show ((w.heap.push _).push _)[w.heap.size + 1]? = _
  rw [Array.getElem?_push]; simp
theorem MD.num {w : World} {t t' : ByteArray} {bad bad' : Bool} {w1 w2 : World} (h : MD w t bad w1) (ho : Only (w.heap.size + 1) w1 w2) (hn : NAt w2 (w.heap.size + 1) t' bad') : MD w t' bad' w2 :=
  ⟨(ho.block w.heap.size (Array.getElem?_eq_some_iff.1 h.q).1 (by omega)).trans h.q, hn, Only.below h.low (by omega) ho⟩
theorem MD.below {w : World} {t : ByteArray} {bad : Bool} {w1 w2 : World} (h : MD w t bad w1) (hb : Below w1.heap.size w1 w2) : MD w t bad w2 := ⟨h.q.below hb, h.n.below hb, bT h.low hb⟩
theorem MD.set0 {w : World} {t : ByteArray} {bad : Bool} {w1 : World} (h : MD w t bad w1) (u : ByteArray) : MD w u bad (w1.setCell ⟨w.heap.size + 1, 0, none⟩ (.string u)) :=
  h.num ((Only.refl _ _).setCell 0 _) (h.n.set0 u)
theorem MD.alloc {w : World} {t : ByteArray} {bad : Bool} {w1 : World} (h : MD w t bad w1) (o : Obj) : MD w t bad (w1.alloc o) := h.below (bA0 _ _)
theorem own_onlyR {b B : Nat} {e : TypeId} {m : Nat} {v : Value} {n : Nat} {xs : List Value} {w w' : World} (h : w.ownsRow B e m v n xs) (ho : Only b w w') (hb : b < B) : w'.ownsRow B e m v n xs := by
  refine ⟨h.1, ?_⟩
  rcases h.2 with h | ⟨g, cap, cur, hv, hg, hh, r⟩
  · exact .inl h
  · exact .inr ⟨g, cap, cur, hv, hg, (ho.block g (Array.getElem?_eq_some_iff.1 hh).1 (by omega)).trans hh, r⟩

set_option maxRecDepth 100000 in
set_option maxHeartbeats 1000000 in
theorem sr_seven (s : ByteArray) (hs : s.size ≤ 20000) (hd : s.data.toList.head? ≠ some 82) (w : World) :
    Calls Tryd.prog 51 #[.string s] w fun e w' => e = .returned (RO 0 (.slice none 0 0) 0 7) ∧ Below w.heap.size w w' := by
  by_cases h0 : s.size = 0
  · have h0' : (s.size : Int) = 0 := by omega
    have h1' : ((s.size : Int) == 0) = true := by rw [h0']; rfl
    clear hd
    go_enter Tryd.func51, Tryd.ntmps51
    go_wp2
    exact bodyPost_ret (v := RO 0 (.slice none 0 0) 0 7) (by simp [results, Tryd.results51, go_sem]) rfl ⟨rfl, bA0 _ _⟩
  · have hp : 0 < s.size := by omega
    have hp' : (0 : Int) < (s.size : Int) := by omega
    have h1' : ((s.size : Int) == 0) = false := by rw [beq_eq_false_iff_ne]; omega
    have hne : ¬ ((s[0]'hp).toNat : Int) = 82 := by
      intro e
      have e1 : (s[0]'hp) = 82 := UInt8.toNat_inj.1 (by have : (s[0]'hp).toNat = 82 := by omega
                                                        rw [this]; rfl)
      have := drop_cons s 0 hp
      rw [List.drop_zero] at this
      rw [this, e1] at hd
      exact hd rfl
    have hne' : (((s[0]'hp).toNat : Int) != 82) = true := by simp; omega
    clear hd
    go_enter Tryd.func51, Tryd.ntmps51
    go_wp2
    exact bodyPost_ret (v := RO 0 (.slice none 0 0) 0 7) (by simp [results, Tryd.results51, go_sem]) rfl ⟨rfl, bA0 _ _⟩

set_option maxRecDepth 100000 in
set_option maxHeartbeats 1000000 in
theorem sr_short (s : ByteArray) (hp : 0 < s.size) (e82 : ((s[0]'hp).toNat : Int) = 82) (hsh : s.size = 1 ∨ ∃ h : 1 < s.size, s.size = 2 ∧ 128 ≤ (s[1]'h).toNat) (w : World) :
    Calls Tryd.prog 51 #[.string s] w fun e w' => e = .returned (RO 0 (.slice none 0 0) 0 6) ∧ Below w.heap.size w w' := by
  have hp' : (0 : Int) < (s.size : Int) := by omega
  have h1' : ((s.size : Int) == 0) = false := by rw [beq_eq_false_iff_ne]; omega
  rcases hsh with h | ⟨h, h2, h3⟩
  · have h2' : ((s.size : Int) == 1) = true := by rw [h]; rfl
    have h2'' : (s.size : Int) = 1 := by omega
    go_enter Tryd.func51, Tryd.ntmps51
    go_wp2
    exact bodyPost_ret (v := RO 0 (.slice none 0 0) 0 6) (by simp [results, Tryd.results51, go_sem]) rfl ⟨rfl, bA0 _ _⟩
  · have h2' : ((s.size : Int) == 1) = false := by rw [beq_eq_false_iff_ne]; omega
    have h3' : ((s.size : Int) == 2) = true := by rw [h2]; rfl
    have h3'' : (s.size : Int) = 2 := by omega
    have h4 : (1 : Int) < (s.size : Int) := by omega
    have h5 : (128 : Int) ≤ ((s[1]'h).toNat : Int) := by omega
    go_enter Tryd.func51, Tryd.ntmps51
    go_wp2
    exact bodyPost_ret (v := RO 0 (.slice none 0 0) 0 6) (by simp [results, Tryd.results51, go_sem]) rfl ⟨rfl, bA0 _ _⟩

end Go.Proofs.YtnkdkbchendpmaaDoor
