/-
  PRODUCTS: the product of two words by two halves, compared as a whole.
-/
import Derived.Test.YtcganhhnkidddaaDoorMb
import Derived.Lib.Mul64
import Derived.Laws.Bits64b
namespace Go.Proofs.YtcganhhnkidddaaDoor
open Go.RowKit Go.Lib

theorem mMask (a : Nat) (ha : a < 18446744073709551616) : bits .and .u64 (a : Int) 4294967295 = ((a % 4294967296 : Nat) : Int) := by
  have h := bits_and_u64_nat a 4294967295 ha (by omega)
  have e : a &&& 4294967295 = a % 4294967296 := Nat.and_two_pow_sub_one_eq_mod a 32
  rw [e] at h
  exact h
theorem mDiv (a : Nat) : (a : Int) / 4294967296 = ((a / 4294967296 : Nat) : Int) := by omega
theorem mMul (a b : Nat) : (a : Int) * (b : Int) = ((a * b : Nat) : Int) := (Int.natCast_mul a b).symm
theorem mAdd (a b : Nat) : (a : Int) + (b : Int) = ((a + b : Nat) : Int) := (Int.natCast_add a b).symm
theorem mWrap (a : Nat) (ha : a < 18446744073709551616) : IntKind.u64.wrap (a : Int) = (a : Int) := by rw [IntKind.wrap_u64]; omega
theorem mWrapM (a : Nat) : IntKind.u64.wrap (a : Int) = ((a % 18446744073709551616 : Nat) : Int) := by rw [IntKind.wrap_u64]; omega

abbrev W2 (h l : Int) : Value := .agg #[.int .u64 h, .int .u64 l]

def mag (v : Int) : Int := (v.natAbs : Int)

set_option maxHeartbeats 400000 in
theorem mag_any (v : Int) (h : isM v = true) (w : World) :
    Calls Tryd.prog 16 #[.int .i64 v] w fun e w' => e = .returned (.int .u64 (mag v)) ∧ w' = w := by
  obtain ⟨h1, h2⟩ := isM_t h
  by_cases hn : v < 0
  · have e : mag v = -v := by unfold mag; omega
    rw [e]; clear e h
    go_enter Tryd.func16, Tryd.ntmps16
    go_wp2
    go_ret
    exact ⟨rfl, rfl⟩
  · have e : mag v = v := by unfold mag; omega
    rw [e]; clear e h
    go_enter Tryd.func16, Tryd.ntmps16
    go_wp2
    go_ret
    exact ⟨rfl, rfl⟩

set_option maxHeartbeats 400000 in
theorem abs_any (v : Int) (h : isM v = true) (w : World) :
    Calls Tryd.prog 24 #[.int .i64 v] w fun e w' => e = .returned (.int .i64 (mag v)) ∧ w' = w := by
  obtain ⟨h1, h2⟩ := isM_t h
  by_cases hn : v < 0
  · have e : mag v = -v := by unfold mag; omega
    rw [e]; clear e h
    go_enter Tryd.func24, Tryd.ntmps24
    go_wp2
    go_ret
    exact ⟨rfl, rfl⟩
  · have e : mag v = v := by unfold mag; omega
    rw [e]; clear e h
    go_enter Tryd.func24, Tryd.ntmps24
    go_wp2
    go_ret
    exact ⟨rfl, rfl⟩

end Go.Proofs.YtcganhhnkidddaaDoor
