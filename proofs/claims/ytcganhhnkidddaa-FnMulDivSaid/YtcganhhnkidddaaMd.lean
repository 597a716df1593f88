/-
  PRODUCTS: the product of two words by two halves, compared as a whole.
-/
import Derived.Test.YtcganhhnkidddaaMb
import Derived.Lib.Mul64
import Derived.Laws.Bits64b
namespace Go.Proofs.Ytcganhhnkidddaa
open Go.RowKit Go.Lib

theorem mMask (a : Nat) (ha : a < 18446744073709551616) : bits .and .u64 (a : Int) 4294967295 = ((a % 4294967296 : Nat) : Int) := by
  have h := bits_and_u64_nat a 4294967295 ha (by omega)
  have e : a &&& 4294967295 = a % 4294967296 := Nat.and_two_pow_sub_one_eq_mod a 32
  rw [e] at h
  exact h
theorem mDiv (a : Nat) : (a : Int) / 4294967296 = ((a / 4294967296 : Nat) : Int) := by omega
theorem mMul (a b : Nat) : (a : Int) * (b : Int) = ((a * b : Nat) : Int) := (Int.natCast_mul a b).symm
theorem mAdd (a b : Nat) : (a : Int) + (b : Int) = ((a + b : Nat) : Int) := (Int.natCast_add a b).symm
theorem mWrap (a : Nat) (ha : a < 18446744073709551616) : IntKind.u64.wrap (a : Int) = (a : Int) := by rw [IntKind.wrap_u64]; omega
theorem mWrapM (a : Nat) : IntKind.u64.wrap (a : Int) = ((a % 18446744073709551616 : Nat) : Int) := by rw [IntKind.wrap_u64]; omega

set_option maxHeartbeats 1000000 in
theorem mul64_nat (x y : Nat) (hx : x < 18446744073709551616) (hy : y < 18446744073709551616) (w : World) :
    Calls Try.prog 55 #[.int .u64 x, .int .u64 y] w fun e w' => e = .returned (.tuple #[.int .u64 ((x * y / 18446744073709551616 : Nat) : Int), .int .u64 ((x * y % 18446744073709551616 : Nat) : Int)]) ∧ w' = w := by
  obtain ⟨bd, bt, bw, hhi⟩ := Lib.mul64_hi x y hx hy
  have ba := Lib.half_mul_le (a := x / 4294967296) (b := y / 4294967296) (by omega) (by omega)
  have bb := Lib.half_mul_le (a := x / 4294967296) (b := y % 4294967296) (by omega) (by omega)
  have bc := Lib.half_mul_le (a := x % 4294967296) (b := y / 4294967296) (by omega) (by omega)
  have ba' : x / 4294967296 * (y / 4294967296) < 18446744073709551616 := by omega
  have bb' : x / 4294967296 * (y % 4294967296) < 18446744073709551616 := by omega
  have bc' : x % 4294967296 * (y / 4294967296) < 18446744073709551616 := by omega
  have bh1 : x / 4294967296 * (y / 4294967296) + (x / 4294967296 * (y % 4294967296) + x % 4294967296 * (y % 4294967296) / 4294967296) / 4294967296 < 18446744073709551616 := by omega
  have bh : x / 4294967296 * (y / 4294967296) + (x / 4294967296 * (y % 4294967296) + x % 4294967296 * (y % 4294967296) / 4294967296) / 4294967296 + ((x / 4294967296 * (y % 4294967296) + x % 4294967296 * (y % 4294967296) / 4294967296) % 4294967296 + x % 4294967296 * (y / 4294967296)) / 4294967296 < 18446744073709551616 := by omega
  go_enter Try.func55, Try.ntmps55
  go_wp2
  simp only [mMask x hx, mMask y hy, mDiv, mMul, mAdd, mWrap _ bd, mWrap _ bb', mWrap _ bt, mMask _ bt, mWrap _ bc', mWrap _ bw, mWrap _ ba', mWrap _ bh1, mWrap _ bh, mWrapM (x * y)]
  rw [hhi]
  go_ret2
  exact ⟨rfl, rfl⟩

abbrev W2 (h l : Int) : Value := .agg #[.int .u64 h, .int .u64 l]

theorem mul64_any (x y : Int) (hx : 0 ≤ x ∧ x < 18446744073709551616) (hy : 0 ≤ y ∧ y < 18446744073709551616) (w : World) :
    Calls Try.prog 55 #[.int .u64 x, .int .u64 y] w fun e w' => e = .returned (.tuple #[.int .u64 (x * y / 18446744073709551616), .int .u64 (x * y % 18446744073709551616)]) ∧ w' = w := by
  obtain ⟨x, rfl⟩ := Int.eq_ofNat_of_zero_le hx.1
  obtain ⟨y, rfl⟩ := Int.eq_ofNat_of_zero_le hy.1
  have h := mul64_nat x y (by omega) (by omega) w
  have e1 : ((x * y / 18446744073709551616 : Nat) : Int) = (x : Int) * y / 18446744073709551616 := by simp
  have e2 : ((x * y % 18446744073709551616 : Nat) : Int) = (x : Int) * y % 18446744073709551616 := by simp
  rw [e1, e2] at h
  exact h

set_option maxHeartbeats 400000 in
theorem wprod_any (x y : Int) (hx : 0 ≤ x ∧ x < 18446744073709551616) (hy : 0 ≤ y ∧ y < 18446744073709551616) (w : World) :
    Calls Try.prog 43 #[.int .u64 x, .int .u64 y] w fun e w' => e = .returned (W2 (x * y / 18446744073709551616) (x * y % 18446744073709551616)) ∧ Below w.heap.size w w' := by
  have H := fun w => mul64_any x y hx hy w
  generalize x * y / 18446744073709551616 = h at *
  generalize x * y % 18446744073709551616 = l at *
  have HH : Hid (∀ (w : World), Calls Try.prog 55 #[.int .u64 x, .int .u64 y] w fun e w' => e = .returned (.tuple #[.int .u64 h, .int .u64 l]) ∧ w' = w) := H
  clear H
  go_enter Try.func43, Try.ntmps43
  go_wp2_with (go_at_call 55; refine (HH.out _).mono ?_; rintro e w1 ⟨rfl, rfl⟩)
  refine bodyPost_ret (v := W2 h l) (by simp [results, Try.results43, go_sem]) rfl ⟨rfl, ?_⟩
  exact bA0 _ _

def mag (v : Int) : Int := (v.natAbs : Int)

set_option maxHeartbeats 400000 in
theorem mag_any (v : Int) (h : isM v = true) (w : World) :
    Calls Try.prog 44 #[.int .i64 v] w fun e w' => e = .returned (.int .u64 (mag v)) ∧ w' = w := by
  obtain ⟨h1, h2⟩ := isM_t h
  by_cases hn : v < 0
  · have e : mag v = -v := by unfold mag; omega
    rw [e]; clear e h
    go_enter Try.func44, Try.ntmps44
    go_wp2
    go_ret
    exact ⟨rfl, rfl⟩
  · have e : mag v = v := by unfold mag; omega
    rw [e]; clear e h
    go_enter Try.func44, Try.ntmps44
    go_wp2
    go_ret
    exact ⟨rfl, rfl⟩

set_option maxHeartbeats 400000 in
theorem abs_any (v : Int) (h : isM v = true) (w : World) :
    Calls Try.prog 46 #[.int .i64 v] w fun e w' => e = .returned (.int .i64 (mag v)) ∧ w' = w := by
  obtain ⟨h1, h2⟩ := isM_t h
  by_cases hn : v < 0
  · have e : mag v = -v := by unfold mag; omega
    rw [e]; clear e h
    go_enter Try.func46, Try.ntmps46
    go_wp2
    go_ret
    exact ⟨rfl, rfl⟩
  · have e : mag v = v := by unfold mag; omega
    rw [e]; clear e h
    go_enter Try.func46, Try.ntmps46
    go_wp2
    go_ret
    exact ⟨rfl, rfl⟩

set_option maxHeartbeats 400000 in
theorem below_any (h1 l1 h2 l2 : Int) (w : World) :
    Calls Try.prog 45 #[W2 h1 l1, W2 h2 l2] w fun e w' => e = .returned (.bool (decide (h1 < h2 ∨ (h1 = h2 ∧ l1 < l2)))) ∧ Below w.heap.size w w' := by
  by_cases hh : h1 = h2
  · subst hh
    by_cases hl : l1 = l2
    · subst hl
      have e : (decide (h1 < h1 ∨ (h1 = h1 ∧ l1 < l1))) = false := by simp
      rw [e]; clear e
      go_enter Try.func45, Try.ntmps45
      go_wp2
      go_ret
      exact ⟨rfl, bA (bA0 _ _) _⟩
    · have e : (decide (h1 < h1 ∨ (h1 = h1 ∧ l1 < l2))) = decide (l1 < l2) := by simp
      rw [e]; clear e
      have hb : (l1 == l2) = false := by simp [hl]
      go_enter Try.func45, Try.ntmps45
      go_wp2
      go_ret
      exact ⟨rfl, bA (bA0 _ _) _⟩
  · have e : (decide (h1 < h2 ∨ (h1 = h2 ∧ l1 < l2))) = decide (h1 < h2) := by simp [hh]
    rw [e]; clear e
    have hb : (h1 == h2) = false := by simp [hh]
    go_enter Try.func45, Try.ntmps45
    go_wp2
    go_ret
    exact ⟨rfl, bA (bA0 _ _) _⟩

end Go.Proofs.Ytcganhhnkidddaa
