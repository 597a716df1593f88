/-
  THE LAW FnSplit: its walk, second part.
-/
import Derived.Test.YtcganhhnkidddaaFs
namespace Go.Proofs.Ytcganhhnkidddaa
open Go.RowKit
set_option linter.unusedVariables false

theorem wrapI (n : Int) (h : -9223372036854775808 ≤ n ∧ n < 9223372036854775808) : IntKind.i64.wrap n = n := by
  have e : IntKind.i64.wrap n = if (true && decide (n % 18446744073709551616 ≥ 9223372036854775808)) = true then n % 18446744073709551616 - 18446744073709551616 else n % 18446744073709551616 := rfl
  rw [e]
  simp only [Bool.true_and, decide_eq_true_eq]
  split <;> omega

set_option maxHeartbeats 1000000 in
theorem law5 (sl : Option Addr) (len cap : Nat) (w : World) (hr : RowIn w sl len) (hlen : len ≤ 1048576) :
    Calls Try.prog 5 #[.slice sl len cap] w fun e w' => e = .returned (.bool true) ∧ Below w.heap.size w w' := by
  have HR : Hid (RowIn w sl len) := hr
  clear hr
  have hlen' : ¬ ((1048576 : Int) < (len : Int)) := by omega
  go_enter Try.func5, Try.ntmps5
  go_wp2_with fail
  refine (drawSplit_any sl len cap _ HR.out).mono ?_
  rintro e w1 ⟨v, n, rfl, hv, hn, b1⟩
  have B1 : Hid (Below w.heap.size w w1) := b1
  clear hv hn b1 HR
  cases h : (isN v && isP n)
  · have H : Hid ((isN v && isP n) = false) := h
    clear h
    go_wp2_with fail
    refine (isplit_no v n H.out _).mono ?_
    rintro e w2 ⟨rfl, b2⟩
    go_wp2_with fail
    refine (ssplit_no v n H.out _).mono ?_
    rintro e w3 ⟨a, c, rfl, b3⟩
    go_wp2
    go_ret
    exact ⟨rfl, bT (bT B1.out b2) b3⟩
  · have h1 : isN v = true ∧ isP n = true := by simpa using h
    have h2 : 0 ≤ v ∧ v ≤ 1000000000000 := by simpa [isN] using h1.1
    have h3 : 1 ≤ n ∧ n ≤ 100 := by simpa [isP] using h1.2
    obtain ⟨m, hm⟩ := Int.eq_ofNat_of_zero_le (show 0 ≤ n - 1 by omega)
    have hm' : n = ((m + 1 : Nat) : Int) := by omega
    clear hm h h1
    have hm2 : n = (m : Int) + 1 := by omega
    clear hm'
    rw [hm2] at h3 ⊢
    clear hm2
    have n1 : m + 1 ≤ 100 := by omega
    obtain ⟨v0, v1⟩ := h2
    have SS : Hid (∀ w, Calls Try.prog 24 #[.int .i64 v, .int .i64 ((m : Int) + 1)] w fun e w' => ∃ b cap, e = .returned (.slice (some ⟨b, 0, none⟩) (m + 1) cap) ∧ IntsAt w' b 0 (splitL v (m + 1)) ∧ Below w.heap.size w w') := fun w => ssplit_yes v (m + 1) v0 v1 (by omega) n1 w
    have IS : Hid (∀ w, Calls Try.prog 23 #[.int .i64 v, .int .i64 ((m : Int) + 1)] w fun e w' => ∃ b, e = .returned (.slice (some ⟨b, 0, none⟩) (m + 1) (m + 1)) ∧ w.heap.size ≤ b ∧ RowAt w' b (vsOf (splitL v (m + 1)) (m + 1)) ∧ Below w.heap.size w w') := fun w => isplit_yes v (m + 1) v0 v1 (by omega) n1 w
    clear h3
    have z0 : (((m : Int) + 1) == 0) = false := by simp; omega
    have CP : Hid (∀ w c cap, IntsAt w c 0 (splitL v (m + 1)) → Calls Try.prog 26 #[.slice (some ⟨c, 0, none⟩) (m + 1) cap] w fun e w' => ∃ g cap', e = .returned (.slice (some ⟨g, 0, none⟩) (m + 1) cap') ∧ IntsAt w' g 0 (splitL v (m + 1)) ∧ Below w.heap.size w w') := by
      intro w c cap h
      have := copy_some c cap (splitL v (m + 1)) w (by rw [split_len]; omega) (by rw [split_len]; omega) h
      rw [split_len] at this
      exact this
    have SM : Hid (∀ w c cap, IntsAt w c 0 (splitL v (m + 1)) → Calls Try.prog 25 #[.slice (some ⟨c, 0, none⟩) (m + 1) cap] w fun e w' => e = .returned (M v 0) ∧ Below w.heap.size w w') := by
      intro w c cap h
      have := isum_any (some ⟨c, 0, none⟩) cap (splitL v (m + 1)) w (.inr ⟨c, 0, rfl, h⟩)
      rw [split_len, split_sumOf v (m + 1) (by omega) n1 v0 v1] at this
      exact this
    obtain ⟨e1, e2⟩ := split_ends v (m + 1) (by omega)
    have s0 := spl_nn v (m + 1) 0 (by omega) v0
    have sm := spl_nn v (m + 1) m (by omega) v0
    have sq : v / ((m + 1 : Nat) : Int) ≤ v := Int.ediv_le_self _ v0
    have G0 : (splitL v (m + 1)).getD 0 0 = spl v (m + 1) 0 := split_get v (m + 1) 0 (by omega)
    have Gm : (splitL v (m + 1)).getD m 0 = spl v (m + 1) m := split_get v (m + 1) m (by omega)
    have CE : Hid (∀ w b, IntsAt w b 0 (splitL v (m + 1)) → w.cell? ⟨b, 0, none⟩ = some (.int .i64 (spl v (m + 1) 0)) ∧ w.cell? ⟨b, m, none⟩ = some (.int .i64 (spl v (m + 1) m)) ∧ b < w.heap.size) := by
      intro w b h
      have h0 := h.2 0 (by rw [split_len]; omega)
      have h1 := h.2 m (by rw [split_len]; omega)
      rw [G0] at h0
      rw [Gm, Nat.zero_add] at h1
      exact ⟨h0, h1, h.1⟩
    have LN : Hid ((splitL v (m + 1)).length = m + 1) := split_len _ _
    clear G0 Gm
    simp only [Nat.add_sub_cancel] at e1 e2
    generalize splitL v (m + 1) = zs at *
    generalize spl v (m + 1) 0 = x at *
    generalize spl v (m + 1) m = y at *
    have hm0 : (0 : Int) ≤ (m : Int) := by omega
    have hm1 : (m : Int) < (m : Int) + 1 := by omega
    have hm2 : (m : Int) ≤ 100 := by omega
    have x1 : x ≤ 2000000000000 := by omega
    have y1 : y ≤ 2000000000000 := by omega
    have x0 : 0 ≤ x := by omega
    have y0 : 0 ≤ y := by omega
    clear s0 sm sq
    have hwm : IntKind.i64.wrap (m : Int) = (m : Int) := wrapI _ (by omega)
    have hwx : IntKind.i64.wrap (x - y) = x - y := wrapI _ (by omega)
    go_wp2_with fail
    refine (IS.out _).mono ?_
    rintro e w2 ⟨b, rfl, hb, r2, b2⟩
    have I2 : Hid (IntsAt w2 b 0 zs) := r2.ints (by rw [LN.out]; exact Nat.le_refl _)
    have B2 : Hid (Below w.heap.size w w2) := bT B1.out b2
    clear hb r2 b2 B1
    go_wp2_with fail
    refine (SS.out _).mono ?_
    rintro e w3 ⟨b3, cap3, rfl, i3, bb3⟩
    have I3 : Hid (IntsAt w3 b 0 zs) := I2.out.below bb3
    have B3 : Hid (Below w.heap.size w w3) := bT B2.out bb3
    obtain ⟨c0, cm, cs⟩ := CE.out _ _ I3.out
    clear i3 bb3 I2 B2 SS IS
    go_wp2_with fail
    go_region_held3 (fun w' => w'.cell? ⟨b, 0, none⟩ = some (.int .i64 x) ∧ w'.cell? ⟨b, m, none⟩ = some (.int .i64 y) ∧ b < w'.heap.size) (first | exact ⟨c0, cm, cs⟩ | exact CE.out _ _ (I3.out.below (bT B5.out b6)) | exact CE.out _ _ (I3.out.below B5.out))
      (first | (go_at_call 26; refine (CP.out _ _ _ (by exact I3.out)).mono ?_; rintro e w5 ⟨g, cap5, rfl, i5, b5⟩; have I5 : Hid (IntsAt w5 g 0 zs) := i5; have B5 : Hid (Below w3.heap.size w3 w5) := bT (Below.refl _ _).drew b5; clear i5 b5) | (go_at_call 25; refine (SM.out _ _ _ (by exact I5.out)).mono ?_; rintro e w6 ⟨rfl, b6⟩))
    have B6 : Hid (Below w.heap.size w w6) := bT B3.out (bT B5.out b6)
    clear b6
    go_wp2
    go_ret
    exact ⟨rfl, B6.out⟩

theorem law5_long (sl : Option Addr) (len cap : Nat) (w : World) (hlen : 1048576 < len) :
    Calls Try.prog 5 #[.slice sl len cap] w fun e w' => e = .returned (.bool true) ∧ Below w.heap.size w w' := by
  have hlen' : (1048576 : Int) < (len : Int) := by omega
  go_enter Try.func5, Try.ntmps5
  go_wp2
  go_ret
  exact ⟨rfl, Below.refl _ _⟩

theorem law5_all (sl : Option Addr) (len cap : Nat) (w : World) (hr : RowIn w sl len) :
    Calls Try.prog 5 #[.slice sl len cap] w fun e w' => e = .returned (.bool true) ∧ Below w.heap.size w w' := by
  by_cases h : len ≤ 1048576
  · exact law5 sl len cap w hr h
  · exact law5_long sl len cap w (by omega)

end Go.Proofs.Ytcganhhnkidddaa
