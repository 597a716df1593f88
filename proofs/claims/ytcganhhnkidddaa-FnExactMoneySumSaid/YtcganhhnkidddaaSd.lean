/-
  THE LAW FnExactMoneySum: its walk.
-/
import Derived.Test.YtcganhhnkidddaaSc
namespace Go.Proofs.Ytcganhhnkidddaa
open Go.RowKit
set_option linter.unusedVariables false

theorem ints_in {w : World} {a : Option Addr} {len cap : Nat} {zs : List Int}
    (h : (a = none ∧ len = 0 ∧ cap = 0 ∧ zs = []) ∨ ∃ x, a = some x ∧ len ≤ cap ∧ cap ≤ maxLen ∧ zs.length = cap ∧ (∀ i, i < zs.length → w.cell? (x.add i) = some (.int .i64 (zs.getD i 0))) ∧ ∀ n ∈ zs, (Lit.int .i64 n).wf = true) :
    Ints w a (zs.take len) ∧ (zs.take len).length = len := by
  rcases h with ⟨rfl, rfl, rfl, rfl⟩ | ⟨x, rfl, hl, hm, hz, hc, hw⟩
  · exact ⟨.inl rfl, rfl⟩
  · have hlen : (zs.take len).length = len := by simp; omega
    refine ⟨?_, hlen⟩
    by_cases h0 : len = 0
    · subst h0; exact .inl (by simp)
    · obtain ⟨c, o, spot⟩ := x
      have h1 := hc 0 (by omega)
      have hs : spot = none := by simpa [Addr.add] using World.cell?_spot h1
      subst hs
      have ha : ∀ i, (⟨c, o, none⟩ : Addr).add i = ⟨c, o + i, none⟩ := by
        intro i
        unfold Addr.add
        by_cases h : i = 0 <;> simp [h]
      refine .inr ⟨c, o, rfl, ?_, fun i hi => ?_⟩
      · rw [ha] at h1
        unfold World.cell? at h1
        cases e : w.heap[c]? with
        | none => simp [e] at h1
        | some ob => exact (Array.getElem?_eq_some_iff.1 e).1
      · rw [hlen] at hi
        have h2 := hc i (by omega)
        rw [ha] at h2
        rw [h2]
        simp [hi]

set_option maxHeartbeats 1000000 in
theorem law10 (sl : Option Addr) (cap : Nat) (zs : List Int) (w : World) (hz : Ints w sl zs) (hlen : zs.length ≤ 1048576) :
    Calls Try.prog 10 #[.slice sl zs.length cap] w fun e w' => e = .returned (.bool true) ∧ Below w.heap.size w w' := by
  have hl : ¬ (1048576 : Int) < (zs.length : Int) := by omega
  have HZ : Hid (Ints w sl zs) := hz
  have HN : Hid (zs.length ≤ 1048576) := hlen
  clear hz
  have T : Hid (∀ w1, Below w.heap.size w w1 → Calls Try.prog 30 #[.slice sl zs.length cap] w1 fun e w' => e = .returned (.slice (some ⟨w1.heap.size, 0, none⟩) zs.length zs.length) ∧ Ints w' (some ⟨w1.heap.size, 0, none⟩) zs ∧ Below w1.heap.size w1 w') :=
    fun w1 hb => to_any sl cap zs w1 hlen (HZ.out.below hb)
  have S1 : Hid (∀ w1 a c, Ints w1 a zs → Calls Try.prog 29 #[.slice a zs.length c] w1 fun e w' => e = .returned (M (sumOf zs).1 (sumOf zs).2) ∧ Below w1.heap.size w1 w') := fun w1 a c h => ssum_any a c zs w1 h
  have S2 : Hid (∀ w1 a c, Ints w1 a zs → Calls Try.prog 25 #[.slice a zs.length c] w1 fun e w' => e = .returned (M (sumOf zs).1 (sumOf zs).2) ∧ Below w1.heap.size w1 w') := fun w1 a c h => isum_any a c zs w1 h
  have EQ : Hid (∀ w1 a c a2 c2, Ints w1 a zs → Ints w1 a2 zs → Calls Try.prog 31 #[.slice a zs.length c, .slice a2 zs.length c2] w1 fun e w' => e = .returned (.bool true) ∧ Below w1.heap.size w1 w') :=
    fun w1 a c a2 c2 h h2 => eq_any a a2 c c2 zs w1 (by unfold maxLen; omega) h h2
  generalize zs.length = n at *
  generalize (sumOf zs).1 = v at *
  generalize (sumOf zs).2 = d at *
  go_enter Try.func10, Try.ntmps10
  go_wp2_with fail
  refine (T.out _ (Below.refl _ _)).mono ?_
  rintro e w1 ⟨rfl, i1, b1⟩
  have I1 : Hid (Ints w1 (some ⟨w.heap.size, 0, none⟩) zs) := i1
  clear i1
  go_wp2_with fail
  refine (S1.out _ _ _ I1.out).mono ?_
  rintro e w2 ⟨rfl, b2⟩
  have B2 : Hid (Below w.heap.size w w2) := bT b1 b2
  clear b1 b2 I1
  go_wp2_with fail
  refine (T.out _ (bA B2.out _)).mono ?_
  rintro e w3 ⟨rfl, i3, b3⟩
  have I3 : Hid (Ints w3 (some ⟨w2.heap.size + 1, 0, none⟩) zs) := by show Ints w3 (some ⟨w2.heap.size + 1, 0, none⟩) zs; simpa using i3
  have M3 : Hid (MAt w3 w2.heap.size v d) := (MAt.new w2 v d).below b3
  have B3 : Hid (Below w.heap.size w w3) := bT (bA B2.out _) b3
  clear i3 b3 B2
  go_wp2_with fail
  refine (S2.out _ _ _ I3.out).mono ?_
  rintro e w4 ⟨rfl, b4⟩
  have M4 := M3.out.below b4
  have B4 : Hid (Below w.heap.size w w4) := bT B3.out b4
  have I4 : Hid (Ints (w4.alloc (.cells #[.int .i64 v, .int .i64 d] 26)) (some ⟨w2.heap.size + 1, 0, none⟩) zs) := (I3.out.below b4).below (bA0 _ _)
  obtain ⟨c0, c1, _⟩ := M4.cells
  have m4 := M4.lt
  clear M3 B3 b4 I3 M4
  go_wp2_with fail
  refine (eqOut_same _ _ _).mono ?_
  rintro e w5 ⟨rfl, b5⟩
  have I5 : Hid (Ints w5 (some ⟨w2.heap.size + 1, 0, none⟩) zs) := I4.out.below b5
  have B5 : Hid (Below w.heap.size w w5) := bT (bA B4.out _) b5
  clear b5 I4 B4 c0 c1 m4
  go_wp2_with fail
  refine (T.out _ B5.out).mono ?_
  rintro e w6 ⟨rfl, i6, b6⟩
  have I6 : Hid (Ints w6 (some ⟨w2.heap.size + 1, 0, none⟩) zs ∧ Ints w6 (some ⟨w5.heap.size, 0, none⟩) zs) := ⟨I5.out.below b6, i6⟩
  have B6 : Hid (Below w.heap.size w w6) := bT B5.out b6
  clear i6 b6 I5 B5
  go_wp2_with fail
  refine (EQ.out _ _ _ _ _ I6.out.1 I6.out.2).mono ?_
  rintro e w7 ⟨rfl, b7⟩
  have B7 : Hid (Below w.heap.size w w7) := bT B6.out b7
  clear b7
  go_wp2
  go_ret
  exact ⟨rfl, B7.out⟩

theorem law10_long (sl : Option Addr) (len cap : Nat) (w : World) (hlen : 1048576 < len) :
    Calls Try.prog 10 #[.slice sl len cap] w fun e w' => e = .returned (.bool true) ∧ Below w.heap.size w w' := by
  have hlen' : (1048576 : Int) < (len : Int) := by omega
  go_enter Try.func10, Try.ntmps10
  go_wp2
  go_ret
  exact ⟨rfl, Below.refl _ _⟩

theorem law10_all (sl : Option Addr) (len cap : Nat) (zs : List Int) (w : World) (hz : Ints w sl (zs.take len) ∧ (zs.take len).length = len) :
    Calls Try.prog 10 #[.slice sl len cap] w fun e w' => e = .returned (.bool true) ∧ Below w.heap.size w w' := by
  by_cases h : len ≤ 1048576
  · have := law10 sl cap (zs.take len) w hz.1 (by rw [hz.2]; exact h)
    rwa [hz.2] at this
  · exact law10_long sl len cap w (by omega)

end Go.Proofs.Ytcganhhnkidddaa
