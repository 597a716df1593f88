/-
  LONG DIVISION BY TWO DIGITS: the plain mathematics.
-/
import Derived.Test.YtcganhhnkidddaaMd
import Derived.Laws.BitsLemmas
namespace Go.Proofs.Ytcganhhnkidddaa
open Go.Lib
set_option linter.unusedVariables false

/-- One digit: what the guess is held against. -/
structure Digit (U a1 a0 v Y Q : Int) : Prop where
  ey : Y = a1 * 4294967296 + a0
  a00 : 0 ≤ a0
  a01 : a0 < 4294967296
  a10 : 2147483648 ≤ a1
  a11 : a1 < 4294967296
  u0 : 0 ≤ U
  u1 : U < Y
  v0 : 0 ≤ v
  v1 : v < 4294967296
  q : Q = (U * 4294967296 + v) / Y

theorem Digit.pos {U a1 a0 v Y Q : Int} (h : Digit U a1 a0 v Y Q) : 0 < Y := by have := h.u0; have := h.u1; omega
theorem Digit.lo {U a1 a0 v Y Q : Int} (h : Digit U a1 a0 v Y Q) : Q * Y ≤ U * 4294967296 + v := by
  rw [h.q]; exact Int.ediv_mul_le _ (Int.ne_of_gt h.pos)
theorem Digit.hi {U a1 a0 v Y Q : Int} (h : Digit U a1 a0 v Y Q) : U * 4294967296 + v < (Q + 1) * Y := by
  rw [h.q]; exact Int.lt_ediv_add_one_mul_self _ h.pos
theorem Digit.nn {U a1 a0 v Y Q : Int} (h : Digit U a1 a0 v Y Q) : 0 ≤ Q := by
  rw [h.q]; exact Int.ediv_nonneg (by have := h.u0; have := h.v0; omega) (Int.le_of_lt h.pos)
theorem Digit.lt {U a1 a0 v Y Q : Int} (h : Digit U a1 a0 v Y Q) : Q < 4294967296 := by
  rw [h.q]
  apply Int.ediv_lt_of_lt_mul h.pos
  have := h.u1; have := h.v1; omega
/-- Whatever is at most the number is at most the quotient. -/
theorem Digit.le {U a1 a0 v Y Q q : Int} (h : Digit U a1 a0 v Y Q) (hq : q * Y ≤ U * 4294967296 + v) : q ≤ Q := by
  rw [h.q]; exact Int.le_ediv_of_mul_le h.pos hq
theorem Digit.gt {U a1 a0 v Y Q q : Int} (h : Digit U a1 a0 v Y Q) (hq : U * 4294967296 + v < q * Y) : Q < q := by
  rw [h.q]; exact Int.ediv_lt_of_lt_mul h.pos hq
/-- The guess, times the divisor, in terms of the rest. -/
theorem guess_mul {U a1 a0 v Y Q q r : Int} (h : Digit U a1 a0 v Y Q) (e : q * a1 + r = U) : q * Y = U * 4294967296 - r * 4294967296 + q * a0 := by
  rw [h.ey, Int.mul_add, ← Int.mul_assoc, show q * a1 = U - r by omega, Int.sub_mul]
theorem Digit.first {U a1 a0 v Y Q : Int} (h : Digit U a1 a0 v Y Q) : Q ≤ U / a1 ∧ U / a1 ≤ 4294967297 ∧ (U / a1) * a1 + U % a1 = U ∧ 0 ≤ U % a1 ∧ U % a1 < a1 ∧ 0 ≤ U / a1 := by
  have p1 : 0 < a1 := by have := h.a10; omega
  refine ⟨?_, ?_, Int.ediv_mul_add_emod U a1, Int.emod_nonneg _ (Int.ne_of_gt p1), Int.emod_lt_of_pos _ p1, Int.ediv_nonneg h.u0 (Int.le_of_lt p1)⟩
  · apply Int.le_ediv_of_mul_le p1
    have := h.lo
    rw [h.ey, Int.mul_add, ← Int.mul_assoc] at this
    have hq := Int.mul_nonneg h.nn h.a00
    have := h.v1
    generalize Q * a1 = t at *
    generalize Q * a0 = t2 at *
    omega
  · have : U / a1 < 4294967298 := by
      apply Int.ediv_lt_of_lt_mul p1
      have := h.u1; have := h.ey; have := h.a01; have := h.a10
      omega
    omega
theorem Digit.no {U a1 a0 v Y Q q r : Int} (h : Digit U a1 a0 v Y Q) (e : q * a1 + r = U) (hl : Q ≤ q) (hc : ¬ 4294967296 * r + v < q * a0) : q = Q := by
  have := guess_mul h e
  have := h.le (q := q) (by rw [this]; omega)
  omega
theorem Digit.yes {U a1 a0 v Y Q q r : Int} (h : Digit U a1 a0 v Y Q) (e : q * a1 + r = U) (hc : 4294967296 ≤ q ∨ 4294967296 * r + v < q * a0) : Q < q := by
  rcases hc with hc | hc
  · have := h.lt; omega
  · have := guess_mul h e
    exact h.gt (by rw [this]; omega)
theorem Digit.next {U a1 a0 v Y Q q r : Int} (e : q * a1 + r = U) : (q - 1) * a1 + (r + a1) = U := by rw [Int.sub_mul]; omega
theorem Digit.stop {U a1 a0 v Y Q q r : Int} (h : Digit U a1 a0 v Y Q) (e : q * a1 + r = U) (hl : Q ≤ q) (h0 : 0 ≤ q) (hb : q ≤ 4294967296) (hr : 4294967296 ≤ r) : q = Q := by
  have g := guess_mul h e
  have m : q * a0 ≤ 4294967296 * 4294967296 := Int.mul_le_mul hb (Int.le_of_lt h.a01) h.a00 (by omega)
  have := h.le (q := q) (by rw [g]; have := h.v0; omega)
  omega
/-- The two digits together. -/
theorem two_digits {U a1 a0 v1 v0 Y Q R Q0 : Int} (h : Digit U a1 a0 v1 Y Q) (hR : R = U * 4294967296 + v1 - Q * Y) (h0 : Digit R a1 a0 v0 Y Q0) :
    Q * 4294967296 + Q0 = (U * 18446744073709551616 + (v1 * 4294967296 + v0)) / Y := by
  have l := h0.lo
  have g := h0.hi
  have e : U * 18446744073709551616 + (v1 * 4294967296 + v0) = (Q * 4294967296) * Y + (R * 4294967296 + v0) := by
    rw [hR, Int.mul_right_comm Q 4294967296 Y]; omega
  rw [e, Int.add_comm ((Q * 4294967296) * Y), Int.add_mul_ediv_right _ _ (Int.ne_of_gt h.pos), ← h0.q]
  omega
theorem rest_lt {U a1 a0 v Y Q : Int} (h : Digit U a1 a0 v Y Q) : 0 ≤ U * 4294967296 + v - Q * Y ∧ U * 4294967296 + v - Q * Y < Y := by
  have := h.lo; have := h.hi; rw [Int.add_mul] at this; omega

/-- The shifted operands. -/
theorem shifted (hi lo y : Int) (s : Nat) (h0 : 1 ≤ hi) (hy : hi < y) (l0 : 0 ≤ lo) (l1 : lo < 18446744073709551616) (s1 : s ≤ 63) (t1 : 9223372036854775808 ≤ y * ((2 ^ s : Nat) : Int)) (t2 : y * ((2 ^ s : Nat) : Int) < 18446744073709551616) :
    ∃ Y U V : Int, IntKind.u64.wrap (y * 2 ^ s) = Y ∧ bits .or .u64 (IntKind.u64.wrap (hi * 2 ^ s)) (lo / 2 ^ (64 - s)) = U ∧ IntKind.u64.wrap (lo * 2 ^ s) = V ∧
      9223372036854775808 ≤ Y ∧ Y < 18446744073709551616 ∧ 0 ≤ U ∧ U < Y ∧ 0 ≤ V ∧ V < 18446744073709551616 ∧ (U * 18446744073709551616 + V) / Y = (hi * 18446744073709551616 + lo) / y := by
  have es : ((2 ^ s : Nat) : Int) = 2 ^ s := by simp
  rw [es] at t1 t2
  have ps : (0 : Int) < 2 ^ s := Int.pow_pos (by decide)
  have pt : (0 : Int) < 2 ^ (64 - s) := Int.pow_pos (by decide)
  have pp : (2 : Int) ^ s * 2 ^ (64 - s) = 18446744073709551616 := by
    rw [← Int.pow_add, show s + (64 - s) = 64 by omega]; decide
  have hh : hi * 2 ^ s < 18446744073709551616 := Int.lt_of_lt_of_le (Int.mul_lt_mul_of_pos_right hy ps) (Int.le_of_lt t2)
  have hh0 : 0 ≤ hi * 2 ^ s := Int.mul_nonneg (by omega) (Int.le_of_lt ps)
  have w1 : IntKind.u64.wrap (y * 2 ^ s) = y * 2 ^ s := by rw [IntKind.wrap_u64]; omega
  have w2 : IntKind.u64.wrap (hi * 2 ^ s) = hi * 2 ^ s := by rw [IntKind.wrap_u64]; omega
  have d0 : 0 ≤ lo / 2 ^ (64 - s) := Int.ediv_nonneg l0 (Int.le_of_lt pt)
  have d1 : lo / 2 ^ (64 - s) < 2 ^ s := Int.ediv_lt_of_lt_mul pt (by rw [pp]; exact l1)
  have j : bits .or .u64 (hi * 2 ^ s) (lo / 2 ^ (64 - s)) = hi * 2 ^ s + lo / 2 ^ (64 - s) := by
    refine bits_join .u64 64 (by decide) (fun n a b => by rw [IntKind.wrap_u64]; omega) s _ _ hh0 (Int.mul_emod_left _ _) (by omega) d0 d1 ?_
    have := Int.lt_of_lt_of_le d1 (Int.le_of_lt (show (2 : Int) ^ s < 2 ^ 64 by
      have : (2 : Int) ^ s * 1 < 2 ^ s * 2 ^ (64 - s) := by
        apply Int.mul_lt_mul_of_pos_left _ ps
        have h2 : 2 ^ 1 ≤ 2 ^ (64 - s) := Nat.pow_le_pow_right (by decide) (by omega)
        have : ((2 ^ 1 : Nat) : Int) ≤ ((2 ^ (64 - s) : Nat) : Int) := Int.ofNat_le.2 h2
        have e2 : ((2 ^ (64 - s) : Nat) : Int) = 2 ^ (64 - s) := by simp
        rw [e2] at this
        omega
      rw [pp] at this; omega))
    exact this
  have sp := Int.mul_ediv_add_emod (lo * 2 ^ s) 18446744073709551616
  have q : lo * 2 ^ s / 18446744073709551616 = lo / 2 ^ (64 - s) := by
    rw [← pp, Int.mul_comm ((2 : Int) ^ s), Int.mul_ediv_mul_of_pos_left _ _ ps]
  rw [q] at sp
  have m0 := Int.emod_nonneg (lo * 2 ^ s) (show (18446744073709551616 : Int) ≠ 0 by decide)
  have m1 := Int.emod_lt_of_pos (lo * 2 ^ s) (show (0 : Int) < 18446744073709551616 by decide)
  have tot : (hi * 2 ^ s + lo / 2 ^ (64 - s)) * 18446744073709551616 + lo * 2 ^ s % 18446744073709551616 = (hi * 18446744073709551616 + lo) * 2 ^ s := by
    rw [Int.add_mul, Int.add_mul, Int.mul_right_comm hi 18446744073709551616]
    generalize lo * 2 ^ s % 18446744073709551616 = c at *
    generalize lo / 2 ^ (64 - s) = d at *
    generalize hi * 2 ^ s = g at *
    generalize lo * 2 ^ s = k at *
    omega
  refine ⟨y * 2 ^ s, hi * 2 ^ s + lo / 2 ^ (64 - s), lo * 2 ^ s % 18446744073709551616, w1, by rw [w2, j], IntKind.wrap_u64 _, t1, t2, by omega, ?_, m0, m1, ?_⟩
  · have lt : (hi * 18446744073709551616 + lo) * 2 ^ s < (y * 18446744073709551616) * 2 ^ s := Int.mul_lt_mul_of_pos_right (by omega) ps
    rw [← tot, Int.mul_right_comm y] at lt
    generalize hi * 2 ^ s + lo / 2 ^ (64 - s) = u at *
    generalize y * 2 ^ s = yy at *
    omega
  · rw [tot, Int.mul_ediv_mul_of_pos_left _ _ ps]

end Go.Proofs.Ytcganhhnkidddaa
