/-
  HOW FAR A WORD IS SHIFTED TO THE TOP.
-/
import Derived.Test.YtcganhhnkidddaaLen
import Derived.WalkKit
namespace Go.Proofs.Ytcganhhnkidddaa
open Go.RowKit

/-- Between two powers of two. -/
theorem Try.bitLen_bd : ∀ (k x : Nat), x < 2 ^ k → k ≤ 64 → 0 < x → 2 ^ Lib.bitLen x ≤ 2 * x ∧ x < 2 ^ Lib.bitLen x := by
  intro k
  induction k with
  | zero => intro x h _ h0; simp at h; omega
  | succ k ih =>
    intro x h hk h0
    have hx : x < 2 ^ 64 := Nat.lt_of_lt_of_le h (Nat.pow_le_pow_right (by decide) hk)
    rw [Lib.bitLen_half x (by omega) hx]
    by_cases h1 : x / 2 = 0
    · have e : Lib.bitLen 0 = 0 := rfl
      rw [h1, e]; omega
    · have h2 : x / 2 < 2 ^ k := by rw [Nat.pow_succ] at h; omega
      have := ih (x / 2) h2 (by omega) (by omega)
      rw [Nat.pow_add]
      omega

set_option maxHeartbeats 400000 in
/-- bits.LeadingZeros64 of a number that is not nought: the shift that brings its highest bit to the top. -/
theorem Try.lz (y : Int) (w : World) (h0 : 1 ≤ y) (h1 : y ≤ 18446744073709551615) :
    Calls Try.prog 56 #[.int .u64 y] w fun e w' => ∃ s : Nat, e = .returned (.int .i64 s) ∧ s ≤ 63 ∧ 9223372036854775808 ≤ y * ((2 ^ s : Nat) : Int) ∧ y * ((2 ^ s : Nat) : Int) < 18446744073709551616 ∧ w' = w := by
  have l := Lib.bitLen_le y.toNat 64 (by omega) (by omega)
  have bd := Try.bitLen_bd 64 y.toNat (by omega) (by omega) (by omega)
  have l0 : 1 ≤ Lib.bitLen y.toNat := by
    rcases Nat.eq_zero_or_pos (Lib.bitLen y.toNat) with h | h
    · rw [h] at bd; omega
    · exact h
  have hs : ∃ s : Nat, (64 : Int) - (Lib.bitLen y.toNat : Int) = (s : Int) ∧ s ≤ 63 ∧ s + Lib.bitLen y.toNat = 64 := ⟨64 - Lib.bitLen y.toNat, by omega, by omega, by omega⟩
  obtain ⟨s, es, s1, s2⟩ := hs
  have p : 2 ^ Lib.bitLen y.toNat * 2 ^ s = 18446744073709551616 := by rw [← Nat.pow_add, Nat.add_comm, s2]
  have b1 : 18446744073709551616 ≤ 2 * y.toNat * 2 ^ s := by rw [← p]; exact Nat.mul_le_mul_right _ bd.1
  have b2 : y.toNat * 2 ^ s < 18446744073709551616 := by rw [← p]; exact Nat.mul_lt_mul_of_pos_right bd.2 (Nat.two_pow_pos s)
  have ey : y = (y.toNat : Int) := by omega
  have B : Hid (s ≤ 63 ∧ 9223372036854775808 ≤ y * ((2 ^ s : Nat) : Int) ∧ y * ((2 ^ s : Nat) : Int) < 18446744073709551616) := by
    refine ⟨s1, ?_, ?_⟩
    · rw [ey, ← Int.natCast_mul]; rw [Nat.mul_assoc] at b1; omega
    · rw [ey, ← Int.natCast_mul]; omega
  have ES : Hid ((64 : Int) - (Lib.bitLen y.toNat : Int) = (s : Int)) := es
  clear bd l0 s1 s2 p b1 b2 ey es
  have e8 : (64 - (Lib.bitLen y.toNat : Int) + 9223372036854775808) % 18446744073709551616 - 9223372036854775808 = 64 - (Lib.bitLen y.toNat : Int) := by omega
  have E8 : Hid ((64 - (Lib.bitLen y.toNat : Int) + 9223372036854775808) % 18446744073709551616 - 9223372036854775808 = 64 - (Lib.bitLen y.toNat : Int)) := e8
  clear e8
  go_enter Try.func56, Try.ntmps56
  go_wp2_with (go_at_call 57; refine (Try.bits_Len64 y _ (by omega) h1).mono ?_; rintro e w' ⟨rfl, rfl⟩)
  go_ret
  refine ⟨s, ?_, B.out.1, B.out.2.1, B.out.2.2, rfl⟩
  rw [← ES.out, ← E8.out]
  rfl

end Go.Proofs.Ytcganhhnkidddaa
