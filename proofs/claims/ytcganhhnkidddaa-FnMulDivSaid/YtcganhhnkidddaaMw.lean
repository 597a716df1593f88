/-
  MulDiv OF THE PROGRAM, AND THE LAW FnExactMulDiv.
-/
import Derived.Test.YtcganhhnkidddaaMv
import Derived.Test.YtcganhhnkidddaaDv
import Derived.Test.YtcganhhnkidddaaBo
namespace Go.Proofs.Ytcganhhnkidddaa
open Go.RowKit
set_option linter.unusedVariables false

theorem div_any (hi lo y : Int) (w : World) (h0 : 0 ≤ hi) (hy : hi < y) (y1 : y < 18446744073709551616) (l0 : 0 ≤ lo) (l1 : lo < 18446744073709551616) :
    Calls Try.prog 47 #[.int .u64 hi, .int .u64 lo, .int .u64 y] w fun e w' => ∃ r, e = .returned (.tuple #[.int .u64 ((hi * 18446744073709551616 + lo) / y), .int .u64 r]) ∧ Below w.heap.size w w' := by
  by_cases h : hi = 0
  · subst h
    have := div_low lo y w (by omega) y1 l0 l1
    simpa using this
  · exact div_high hi lo y w (by omega) hy y1 l0 l1

set_option maxHeartbeats 400000 in
theorem imd_form (a b c : Int) (w : World) (h : (isN a && isN b && isO c) = false) :
    Calls Try.prog 21 #[.int .i64 a, .int .i64 b, .int .i64 c] w fun e w' => e = .returned (M 0 1) ∧ Below w.heap.size w w' := by
  cases h1 : isN a
  · clear h
    go_enter Try.func21, Try.ntmps21
    go_wp2_with fail
    refine (inBound1_any _ _).mono ?_
    rintro e w1 ⟨rfl, hb⟩
    obtain ⟨hc, hf⟩ := bcell hb; have hz := bZ hb
    go_wp2
    refine bodyPost_ret (v := M 0 1) (by simp [results, Try.results21, go_sem, hc]) rfl ⟨rfl, ?_⟩
    exact ((bT (bA0 _ _) hb).setCell (Nat.le_refl _) _).setCell (Nat.le_refl _) _
  · cases h2 : isN b
    · clear h
      go_enter Try.func21, Try.ntmps21
      go_wp2_with fail
      refine (inBound1_any _ _).mono ?_
      rintro e w1 ⟨rfl, hb⟩
      go_wp2_with fail
      refine (inBound1_any _ _).mono ?_
      rintro e w2 ⟨rfl, hb2⟩
      have hb3 := bT hb hb2
      obtain ⟨hc, hf⟩ := bcell hb3; have hz := bZ hb3; clear hb hb2
      go_wp2
      refine bodyPost_ret (v := M 0 1) (by simp [results, Try.results21, go_sem, hc]) rfl ⟨rfl, ?_⟩
      exact ((bT (bA0 _ _) hb3).setCell (Nat.le_refl _) _).setCell (Nat.le_refl _) _
    · have h3 : isO c = false := by simpa [h1, h2] using h
      clear h
      go_enter Try.func21, Try.ntmps21
      go_wp2_with fail
      refine (inBound1_any _ _).mono ?_
      rintro e w1 ⟨rfl, hb⟩
      go_wp2_with fail
      refine (inBound1_any _ _).mono ?_
      rintro e w2 ⟨rfl, hb2⟩
      go_wp2_with fail
      refine (inBound2_any _ _).mono ?_
      rintro e w3 ⟨rfl, hb3⟩
      have hb4 := bT (bT hb hb2) hb3
      obtain ⟨hc, hf⟩ := bcell hb4; have hz := bZ hb4; clear hb hb2 hb3
      go_wp2
      refine bodyPost_ret (v := M 0 1) (by simp [results, Try.results21, go_sem, hc]) rfl ⟨rfl, ?_⟩
      exact ((bT (bA0 _ _) hb4).setCell (Nat.le_refl _) _).setCell (Nat.le_refl _) _

/-- A pair of words in a block of its own. -/
def WAt (w : World) (b : Nat) (h l : Int) : Prop := w.heap[b]? = some (.cells #[.int .u64 h, .int .u64 l] 52)
theorem WAt.cells {w : World} {b : Nat} {v c : Int} (h : WAt w b v c) : w.cell? ⟨b, 0, none⟩ = some (.int .u64 v) ∧ w.cell? ⟨b, 1, none⟩ = some (.int .u64 c) := by
  unfold WAt at h
  refine ⟨?_, ?_⟩ <;> simp [World.cell?, h]
theorem WAt.lt {w : World} {b : Nat} {v c : Int} (h : WAt w b v c) : b < w.heap.size := (Array.getElem?_eq_some_iff.1 h).1
theorem WAt.below {w w' : World} {b : Nat} {v c : Int} (h : WAt w b v c) (hb : Below w.heap.size w w') : WAt w' b v c := (hb.block b h.lt).trans h
theorem WAt.new (w : World) (v c : Int) : WAt (w.alloc (.cells #[.int .u64 v, .int .u64 c] 52)) w.heap.size v c := by
  show (w.heap.push _)[w.heap.size]? = _
  simp

theorem two_lt (p t : Int) : decide (p / 18446744073709551616 < t / 18446744073709551616 ∨ (p / 18446744073709551616 = t / 18446744073709551616 ∧ p % 18446744073709551616 < t % 18446744073709551616)) = decide (p < t) := by
  rw [decide_eq_decide]; omega

set_option maxHeartbeats 1000000 in
theorem imd_in (a b c : Int) (w : World) (a0 : 0 ≤ a) (a1 : a ≤ 1000000000000) (b0 : 0 ≤ b) (b1 : b ≤ 1000000000000) (c0 : 1 ≤ c) (c1 : c ≤ 1000000000000) :
    Calls Try.prog 21 #[.int .i64 a, .int .i64 b, .int .i64 c] w fun e w' => e = .returned (M (mdQ a b c).1 (mdQ a b c).2) ∧ Below w.heap.size w w' := by
  have k1 : isN a = true := by simp only [isN, decide_eq_true_eq]; omega
  have k2 : isN b = true := by simp only [isN, decide_eq_true_eq]; omega
  have k3 : isO c = true := by simp only [isO, decide_eq_true_eq]; omega
  have P0 : 0 ≤ a * b := Int.mul_nonneg a0 b0
  have KP : Hid (∀ w, Calls Try.prog 43 #[.int .u64 a, .int .u64 b] w fun e w' => e = .returned (W2 (a * b / 18446744073709551616) (a * b % 18446744073709551616)) ∧ Below w.heap.size w w') := fun w => wprod_any a b (by omega) (by omega) w
  have KT : Hid (∀ w, Calls Try.prog 43 #[.int .u64 1000000000001, .int .u64 c] w fun e w' => e = .returned (W2 (1000000000001 * c / 18446744073709551616) (1000000000001 * c % 18446744073709551616)) ∧ Below w.heap.size w w') := fun w => wprod_any 1000000000001 c (by omega) (by omega) w
  have KB : Hid (∀ w, Calls Try.prog 45 #[W2 (a * b / 18446744073709551616) (a * b % 18446744073709551616), W2 (1000000000001 * c / 18446744073709551616) (1000000000001 * c % 18446744073709551616)] w fun e w' => e = .returned (.bool (decide (a * b < 1000000000001 * c))) ∧ Below w.heap.size w w') := by
    intro w
    have := below_any (a * b / 18446744073709551616) (a * b % 18446744073709551616) (1000000000001 * c / 18446744073709551616) (1000000000001 * c % 18446744073709551616) w
    rw [two_lt] at this
    exact this
  have DV : Hid (a * b < 1000000000001 * c → ∀ w, Calls Try.prog 47 #[.int .u64 (a * b / 18446744073709551616), .int .u64 (a * b % 18446744073709551616), .int .u64 c] w fun e w' => ∃ r, e = .returned (.tuple #[.int .u64 (a * b / c), .int .u64 r]) ∧ Below w.heap.size w w') := by
    intro h w
    have := div_any (a * b / 18446744073709551616) (a * b % 18446744073709551616) c w (by omega) (by omega) (by omega) (by omega) (by omega)
    rw [show a * b / 18446744073709551616 * 18446744073709551616 + a * b % 18446744073709551616 = a * b by omega] at this
    exact this
  have Q0 : 0 ≤ a * b / c := Int.ediv_nonneg P0 (by omega)
  have QL : Hid (a * b < 1000000000001 * c ↔ a * b / c ≤ 1000000000000) := by
    constructor
    · intro h
      have := Int.ediv_lt_of_lt_mul (show 0 < c by omega) h
      omega
    · intro h
      have := Int.lt_ediv_add_one_mul_self (a * b) (show 0 < c by omega)
      have h2 : (a * b / c + 1) * c ≤ 1000000000001 * c := Int.mul_le_mul_of_nonneg_right (by omega) (by omega)
      omega
  have HM : Hid (mdQ a b c = if a * b / c ≤ 1000000000000 then (a * b / c, 0) else (0, 4)) := rfl
  generalize a * b / c = q at *
  generalize a * b / 18446744073709551616 = ph at *
  generalize a * b % 18446744073709551616 = pl at *
  generalize 1000000000001 * c / 18446744073709551616 = th at *
  generalize 1000000000001 * c % 18446744073709551616 = tl at *
  have S0 : Hid (0 ≤ a * b) := P0
  generalize a * b = P at *
  generalize 1000000000001 * c = T at *
  clear P0
  cases hd : decide (P < T)
  · have hM : Hid (mdQ a b c = (0, 4)) := by
      show mdQ a b c = (0, 4)
      rw [HM.out, if_neg (fun h => by have := QL.out.2 h; simp at hd; omega)]
    rw [hd] at KB
    go_enter Try.func21, Try.ntmps21
    go_wp2_with fail
    refine (inBound1_any _ _).mono ?_
    rintro e w1 ⟨rfl, hb⟩
    go_wp2_with fail
    refine (inBound1_any _ _).mono ?_
    rintro e w2 ⟨rfl, hb2⟩
    go_wp2_with fail
    refine (inBound2_any _ _).mono ?_
    rintro e w3 ⟨rfl, hb3⟩
    have M3 : Hid (MAt w3 w.heap.size 0 0) := (((MAt.new w 0 0).below hb).below hb2).below hb3
    have B3 : Hid (Below w.heap.size w w3) := bT (bT (bT (bA0 _ _) hb) hb2) hb3
    clear hb hb2 hb3
    go_wp2_with fail
    refine (KP.out _).mono ?_
    rintro e w4 ⟨rfl, hb4⟩
    have M4 : Hid (MAt w4 w.heap.size 0 0) := M3.out.below hb4
    have B4 : Hid (Below w.heap.size w w4) := bT B3.out hb4
    clear hb4 M3 B3
    go_wp2_with fail
    refine (KT.out _).mono ?_
    rintro e w5 ⟨rfl, hb5⟩
    have W5 : Hid (WAt w5 w4.heap.size ph pl) := (WAt.new w4 ph pl).below hb5
    have M5 : Hid (MAt w5 w.heap.size 0 0) := (M4.out.below (bA0 _ _)).below hb5
    have B5 : Hid (Below w.heap.size w w5) := bT (bA B4.out _) hb5
    clear hb5 M4 B4
    obtain ⟨x0, x1⟩ := W5.out.cells
    have x2 := W5.out.lt
    go_wp2_with fail
    refine (KB.out _).mono ?_
    rintro e w6 ⟨rfl, hb6⟩
    have M6 : Hid (MAt w6 w.heap.size 0 0) := (M5.out.below (bA0 _ _)).below hb6
    have B6 : Hid (Below w.heap.size w w6) := bT (bA B5.out _) hb6
    clear hb6 x0 x1 x2 W5 M5 B5
    obtain ⟨y0, y1, y2⟩ := M6.out.cells
    obtain ⟨z0, z1, _⟩ := (M6.out.set 0 4).cells
    go_wp2
    refine bodyPost_ret (v := M 0 4) (by simp [results, Try.results21, go_sem, z0, z1]) rfl ⟨by rw [hM.out], ?_⟩
    exact (B6.out.setCell (Nat.le_refl _) _).setCell (Nat.le_refl _) _
  · have hPT : P < T := by simpa using hd
    have hq1 : q ≤ 1000000000000 := QL.out.1 hPT
    have hM : Hid (mdQ a b c = (q, 0)) := by
      show mdQ a b c = (q, 0)
      rw [HM.out, if_pos hq1]
    rw [hd] at KB
    have DV2 := DV.out hPT
    have DV3 : Hid (∀ w, Calls Try.prog 47 #[.int .u64 ph, .int .u64 pl, .int .u64 c] w fun e w' => ∃ r, e = .returned (.tuple #[.int .u64 q, .int .u64 r]) ∧ Below w.heap.size w w') := DV2
    clear DV DV2 hPT hd HM QL
    go_enter Try.func21, Try.ntmps21
    go_wp2_with fail
    refine (inBound1_any _ _).mono ?_
    rintro e w1 ⟨rfl, hb⟩
    go_wp2_with fail
    refine (inBound1_any _ _).mono ?_
    rintro e w2 ⟨rfl, hb2⟩
    go_wp2_with fail
    refine (inBound2_any _ _).mono ?_
    rintro e w3 ⟨rfl, hb3⟩
    have M3 : Hid (MAt w3 w.heap.size 0 0) := (((MAt.new w 0 0).below hb).below hb2).below hb3
    have B3 : Hid (Below w.heap.size w w3) := bT (bT (bT (bA0 _ _) hb) hb2) hb3
    clear hb hb2 hb3
    go_wp2_with fail
    refine (KP.out _).mono ?_
    rintro e w4 ⟨rfl, hb4⟩
    have M4 : Hid (MAt w4 w.heap.size 0 0) := M3.out.below hb4
    have B4 : Hid (Below w.heap.size w w4) := bT B3.out hb4
    clear hb4 M3 B3
    go_wp2_with fail
    refine (KT.out _).mono ?_
    rintro e w5 ⟨rfl, hb5⟩
    have W5 : Hid (WAt w5 w4.heap.size ph pl) := (WAt.new w4 ph pl).below hb5
    have M5 : Hid (MAt w5 w.heap.size 0 0) := (M4.out.below (bA0 _ _)).below hb5
    have B5 : Hid (Below w.heap.size w w5) := bT (bA B4.out _) hb5
    clear hb5 M4 B4
    obtain ⟨x0, x1⟩ := W5.out.cells
    have x2 := W5.out.lt
    go_wp2_with fail
    refine (KB.out _).mono ?_
    rintro e w6 ⟨rfl, hb6⟩
    have M6 : Hid (MAt w6 w.heap.size 0 0) := (M5.out.below (bA0 _ _)).below hb6
    have W6 := (W5.out.below (bA0 _ _)).below hb6
    have B6 : Hid (Below w.heap.size w w6) := bT (bA B5.out _) hb6
    clear hb6 x0 x1 x2 W5 M5 B5
    obtain ⟨x0, x1⟩ := W6.cells
    clear W6
    go_wp2_with fail
    refine (DV3.out _).mono ?_
    rintro e w7 ⟨r, rfl, hb7⟩
    have M7 : Hid (MAt w7 w.heap.size 0 0) := M6.out.below hb7
    have B7 : Hid (Below w.heap.size w w7) := bT B6.out hb7
    clear hb7 x0 x1 M6 B6
    obtain ⟨y0, y1, y2⟩ := M7.out.cells
    obtain ⟨z0, z1, _⟩ := (M7.out.set q 0).cells
    go_wp2
    refine bodyPost_ret (v := M q 0) (by simp [results, Try.results21, go_sem, z0, z1]) rfl ⟨by rw [hM.out], ?_⟩
    exact (B7.out.setCell (Nat.le_refl _) _).setCell (Nat.le_refl _) _

theorem imd_any (a b c : Int) (w : World) :
    Calls Try.prog 21 #[.int .i64 a, .int .i64 b, .int .i64 c] w fun e w' => e = .returned (M (mdOf a b c).1 (mdOf a b c).2) ∧ Below w.heap.size w w' := by
  cases h : mdOk a b c
  · rw [show mdOf a b c = (0, 1) by simp [mdOf, h]]
    refine imd_form a b c w ?_
    have h' : ¬ (0 ≤ a ∧ a ≤ 1000000000000 ∧ 0 ≤ b ∧ b ≤ 1000000000000 ∧ 1 ≤ c ∧ c ≤ 1000000000000) := by simpa [mdOk] using h
    cases e : (isN a && isN b && isO c)
    · rfl
    · simp only [isN, isO, Bool.and_eq_true, decide_eq_true_eq] at e
      omega
  · rw [show mdOf a b c = mdQ a b c by simp [mdOf, h]]
    have h' : 0 ≤ a ∧ a ≤ 1000000000000 ∧ 0 ≤ b ∧ b ≤ 1000000000000 ∧ 1 ≤ c ∧ c ≤ 1000000000000 := by simpa [mdOk] using h
    exact imd_in a b c w h'.1 h'.2.1 h'.2.2.1 h'.2.2.2.1 h'.2.2.2.2.1 h'.2.2.2.2.2

set_option maxHeartbeats 400000 in
theorem law9 (a b c : Int) (w : World) :
    Calls Try.prog 9 #[.int .i64 a, .int .i64 b, .int .i64 c] w fun e w' => e = .returned (.bool true) ∧ Below w.heap.size w w' := by
  go_enter Try.func9, Try.ntmps9
  go_wp2_with fail
  refine (smd_any _ _ _ _).mono ?_
  rintro e w1 ⟨rfl, hb1⟩
  go_wp2_with fail
  refine (imd_any _ _ _ _).mono ?_
  rintro e w2 ⟨rfl, hb2⟩
  obtain ⟨hc, hf⟩ := bcell hb2; have hz := bZ hb2
  go_wp2_with fail
  refine (eqOut_same _ _ _).mono ?_
  rintro e w3 ⟨rfl, hb3⟩
  go_wp2_with fail
  go_ret
  exact ⟨rfl, bT (bA (bT (bA hb1 _) hb2) _) hb3⟩

end Go.Proofs.Ytcganhhnkidddaa
