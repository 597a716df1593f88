/-
  THE LAW FnExactRecBytes: its walk.
-/
import Derived.Test.YtnkdkbchendpmaaDoorBd
import Derived.Deep.RegionHeld3
namespace Go.Proofs.YtnkdkbchendpmaaDoor
open Go.RowKit
set_option linter.unusedVariables false

set_option maxHeartbeats 1000000 in
theorem law7 (k : Int) (sl : Option Addr) (cap : Nat) (zs : List Int) (w : World) (ht : U8 w) (hz : Ints w sl zs) (hlen : zs.length ≤ 1048576) :
    Calls Tryd.prog 7 #[RV k sl zs.length cap] w fun e w' => e = .returned (.bool true) ∧ Below w.heap.size w w' := by
  have hl : ¬ (1048576 : Int) - (zs.length : Int) < 0 := by omega
  have HZ : Hid (Ints w sl zs) := hz
  have HL : Hid (zs.length ≤ 1048576) := hlen
  clear hz
  have SZ : Hid (∀ w, Calls Tryd.prog 21 #[RV k sl zs.length cap, .int .i64 1048576] w fun e w' => e = .returned (.int .i64 (1048576 - zs.length)) ∧ Below w.heap.size w w') := by
    intro w
    have := szR_any k sl zs.length cap 1048576 w (by unfold maxLen; omega) (by omega) (by omega)
    rwa [if_neg hl] at this
  have T : Hid (∀ w1, Below w.heap.size w w1 → Calls Tryd.prog 22 #[RV k sl zs.length cap] w1 fun e w' => e = .returned (RV k (some ⟨w1.heap.size + 3, 0, none⟩) zs.length zs.length) ∧ Ints w' (some ⟨w1.heap.size + 3, 0, none⟩) zs ∧ Below w1.heap.size w1 w') :=
    fun w1 hb => toR_any k sl cap zs w1 hlen (HZ.out.below hb)
  have S1 : Hid (∀ w1 a c, Ints w1 a zs → Calls Tryd.prog 15 #[RV k a zs.length c] w1 fun e w' => e = .returned (.string ⟨(recT k zs).toArray⟩) ∧ Below w1.heap.size w1 w') := fun w1 a c h => srb_any k a c zs w1 (by unfold maxLen; omega) h
  have S2 : Hid (∀ w1 a c, Below w.heap.size w w1 → Ints w1 a zs → Calls Tryd.prog 11 #[RV k a zs.length c] w1 fun e w' => e = .returned (.string ⟨(recT k zs).toArray⟩) ∧ Below w1.heap.size w1 w') := fun w1 a c hb h => irb_any k a c zs w1 (ht.below hb) h
  have EQ : Hid (∀ w1 a c a2 c2, Ints w1 a zs → Ints w1 a2 zs → Calls Tryd.prog 23 #[RV k a zs.length c, RV k a2 zs.length c2] w1 fun e w' => e = .returned (.bool true) ∧ Below w1.heap.size w1 w') :=
    fun w1 a c a2 c2 h h2 => eqR_any k a a2 c c2 zs w1 (by unfold maxLen; omega) h h2
  clear ht
  generalize zs.length = n at *
  generalize recT k zs = r at *
  go_enter Tryd.func7, Tryd.ntmps7
  go_wp2_with fail
  refine (SZ.out _).mono ?_
  rintro e w0 ⟨rfl, b0⟩
  have B0 : Hid (Below w.heap.size w w0) := bT (bA0 _ _) b0
  have R0 : Hid (RAt 42 w0 w.heap.size k sl n cap) := (RAt.new 42 w k sl n cap).below b0
  obtain ⟨c0, c1⟩ := R0.out.cells
  clear b0
  go_wp2_with fail
  refine (T.out _ B0.out).mono ?_
  rintro e w1 ⟨rfl, i1, b1⟩
  have I1 : Hid (Ints w1 (some ⟨w0.heap.size + 3, 0, none⟩) zs) := i1
  have B1 : Hid (Below w.heap.size w w1) := bT B0.out b1
  have R1 : Hid (RAt 42 w1 w.heap.size k sl n cap) := R0.out.below b1
  clear i1 b1 B0 c0 c1 R0
  go_wp2_with fail
  refine (S1.out _ _ _ I1.out).mono ?_
  rintro e w2 ⟨rfl, b2⟩
  have B2 : Hid (Below w.heap.size w w2) := bT B1.out b2
  have R2 : Hid (RAt 42 w2 w.heap.size k sl n cap) := R1.out.below b2
  obtain ⟨c0, c1⟩ := R2.out.cells
  clear b2 I1 B1 R1
  go_wp2_with fail
  refine (T.out _ B2.out).mono ?_
  rintro e w3 ⟨rfl, i3, b3⟩
  generalize w2.heap.size + 3 = q at *
  have I3 : Hid (Ints (w3.alloc (.cells #[.int .i64 k, .slice (some ⟨q, 0, none⟩) n n] 28)) (some ⟨q, 0, none⟩) zs) := i3.below (bA0 _ _)
  have B3 : Hid (Below w.heap.size w (w3.alloc (.cells #[.int .i64 k, .slice (some ⟨q, 0, none⟩) n n] 28))) := bA (bT B2.out b3) _
  have R3 : Hid (RAt 42 (w3.alloc (.cells #[.int .i64 k, .slice (some ⟨q, 0, none⟩) n n] 28)) w.heap.size k sl n cap) := (R2.out.below b3).below (bA0 _ _)
  have X3 : Hid (RAt 28 (w3.alloc (.cells #[.int .i64 k, .slice (some ⟨q, 0, none⟩) n n] 28)) w3.heap.size k (some ⟨q, 0, none⟩) n n) := RAt.new 28 w3 k _ n n
  clear i3 b3 B2 c0 c1 R2
  go_wp2_with fail
  refine (S2.out _ _ _ B3.out I3.out).mono ?_
  rintro e w4 ⟨rfl, b4⟩
  have I4 : Hid (Ints w4 (some ⟨q, 0, none⟩) zs) := I3.out.below b4
  have B4 : Hid (Below w.heap.size w w4) := bT B3.out b4
  have R4 : Hid (RAt 42 w4 w.heap.size k sl n cap) := R3.out.below b4
  have X4 : Hid (RAt 28 w4 w3.heap.size k (some ⟨q, 0, none⟩) n n) := X3.out.below b4
  clear b4 I3 B3 R3 X3
  obtain ⟨c0, c1⟩ := R4.out.cells
  obtain ⟨d0, d1⟩ := X4.out.cells
  have hd := X4.out.lt
  have hc := R4.out.lt
  have I5 : Hid (Ints w4.drew (some ⟨q, 0, none⟩) zs) := I4.out
  generalize w3.heap.size = b3 at *
  generalize hb0 : w.heap.size = b0 at *
  go_wp2_with fail
  go_region_held3 (fun w' => b3 < w'.heap.size ∧ b0 < w'.heap.size ∧ w'.cell? ⟨b3, 0, none⟩ = some (.int .i64 k) ∧ w'.cell? ⟨b3, 1, none⟩ = some (.slice (some ⟨q, 0, none⟩) n n) ∧ w'.cell? ⟨b0, 0, none⟩ = some (.int .i64 k) ∧ w'.cell? ⟨b0, 1, none⟩ = some (.slice sl n cap))
    (first | exact ⟨hd, hc, d0, d1, c0, c1⟩ | exact ⟨Nat.lt_of_lt_of_le hd b5.size, Nat.lt_of_lt_of_le hc b5.size, (b5.cell hd).trans d0, (b5.cell hd).trans d1, (b5.cell hc).trans c0, (b5.cell hc).trans c1⟩ | exact ⟨Nat.lt_of_lt_of_le (Nat.lt_of_lt_of_le hd b5.size) b6.size, Nat.lt_of_lt_of_le (Nat.lt_of_lt_of_le hc b5.size) b6.size, (b6.cell (Nat.lt_of_lt_of_le hd b5.size)).trans ((b5.cell hd).trans d0), (b6.cell (Nat.lt_of_lt_of_le hd b5.size)).trans ((b5.cell hd).trans d1), (b6.cell (Nat.lt_of_lt_of_le hc b5.size)).trans ((b5.cell hc).trans c0), (b6.cell (Nat.lt_of_lt_of_le hc b5.size)).trans ((b5.cell hc).trans c1)⟩)
    (first | (go_at_call 22; refine (T.out _ (by first | exact B4.out | exact B4.out.drew | exact below_drewN B4.out _)).mono ?_; rintro e w5 ⟨rfl, i5, b5⟩) | (go_at_call 23; refine (EQ.out _ _ _ _ _ (I5.out.below b5) i5).mono ?_; rintro e w6 ⟨rfl, b6⟩))
  subst hb0
  have B6 : Hid (Below w.heap.size w w6) := bT (bT B4.out.drew b5) b6
  clear b5 b6 B4 i5
  go_wp2
  go_ret
  exact ⟨rfl, B6.out⟩

theorem law7_long (k : Int) (sl : Option Addr) (n cap : Nat) (w : World) (hm : n ≤ maxLen) (hlen : 1048576 < n) :
    Calls Tryd.prog 7 #[RV k sl n cap] w fun e w' => e = .returned (.bool true) ∧ Below w.heap.size w w' := by
  have hl : (1048576 : Int) - (n : Int) < 0 := by omega
  have SZ : Hid (∀ w, Calls Tryd.prog 21 #[RV k sl n cap, .int .i64 1048576] w fun e w' => e = .returned (.int .i64 (-1)) ∧ Below w.heap.size w w') := by
    intro w
    have := szR_any k sl n cap 1048576 w hm (by omega) (by omega)
    rwa [if_pos hl] at this
  go_enter Tryd.func7, Tryd.ntmps7
  go_wp2_with fail
  refine (SZ.out _).mono ?_
  rintro e w0 ⟨rfl, b0⟩
  go_wp2
  go_ret
  exact ⟨rfl, bT (bA0 _ _) b0⟩

theorem law7_all (k : Int) (sl : Option Addr) (len cap : Nat) (zs : List Int) (w : World) (ht : U8 w) (hm : len ≤ maxLen) (hz : Ints w sl (zs.take len) ∧ (zs.take len).length = len) :
    Calls Tryd.prog 7 #[RV k sl len cap] w fun e w' => e = .returned (.bool true) ∧ Below w.heap.size w w' := by
  by_cases h : len ≤ 1048576
  · have := law7 k sl cap (zs.take len) w ht hz.1 (by rw [hz.2]; exact h)
    rwa [hz.2] at this
  · exact law7_long k sl len cap w hm (by omega)

end Go.Proofs.YtnkdkbchendpmaaDoor
