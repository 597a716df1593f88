/-
  THE QUOTIENT OF A NUMBER OF TWO WORDS BY ONE (math/bits.Div64).
-/
import Derived.Test.YtcganhhnkidddaaLz
import Derived.Test.YtcganhhnkidddaaDn
import Derived.WalkSpells
import Derived.WalkLawsBesides
import Derived.Deep.QuietTactic
import Derived.BigQuiet
namespace Go.Proofs.Ytcganhhnkidddaa
open Go.RowKit Go.Lib
set_option linter.unusedVariables false

set_option maxHeartbeats 400000 in
theorem div_low (lo y : Int) (w : World) (y0 : 1 ≤ y) (y1 : y < 18446744073709551616) (l0 : 0 ≤ lo) (l1 : lo < 18446744073709551616) :
    Calls Try.prog 47 #[.int .u64 0, .int .u64 lo, .int .u64 y] w fun e w' => ∃ r, e = .returned (.tuple #[.int .u64 (lo / y), .int .u64 r]) ∧ Below w.heap.size w w' := by
  have hy : (y == 0) = false := by simp; omega
  go_enter Try.func47, Try.ntmps47
  go_wp2
  go_quiet (fail)
  go_wp2
  go_ret2
  exact ⟨_, rfl, below_drewN (Below.refl _ _) _⟩

theorem mask32 (a : Int) (h0 : 0 ≤ a) (h1 : a < 18446744073709551616) : bits .and .u64 a 4294967295 = a % 4294967296 := by
  obtain ⟨n, rfl⟩ := Int.eq_ofNat_of_zero_le h0
  rw [mMask n (by omega)]; omega

set_option maxHeartbeats 4000000 in
theorem div_high (hi lo y : Int) (w : World) (h0 : 1 ≤ hi) (hy : hi < y) (y1 : y < 18446744073709551616) (l0 : 0 ≤ lo) (l1 : lo < 18446744073709551616) :
    Calls Try.prog 47 #[.int .u64 hi, .int .u64 lo, .int .u64 y] w fun e w' => ∃ r, e = .returned (.tuple #[.int .u64 ((hi * 18446744073709551616 + lo) / y), .int .u64 r]) ∧ Below w.heap.size w w' := by
  have hy0 : (y == 0) = false := by simp; omega
  have hh0 : (hi == 0) = false := by simp; omega
  have hle : ¬ y ≤ hi := by omega
  go_enter Try.func47, Try.ntmps47
  go_wp2_with fail
  refine (Try.lz y _ (by omega) (by omega)).mono ?_
  rintro e w1 ⟨s, rfl, s1, t1, t2, rfl⟩
  have hs0 : (0 : Int) ≤ (s : Int) := by omega
  have hs1 : (s : Int) ≤ 63 := by omega
  obtain ⟨Y, U, V, hY, hU, hV, Y0, Y1, U0, U1, V0, V1, EQ⟩ := shifted hi lo y s h0 hy l0 l1 s1 t1 t2
  have HE : Hid ((U * 18446744073709551616 + V) / Y = (hi * 18446744073709551616 + lo) / y) := EQ
  have eA0 := mask32 Y (by omega) Y1
  have eV0 := mask32 V V0 V1
  have dY := Int.mul_ediv_add_emod Y 4294967296
  have dV := Int.mul_ediv_add_emod V 4294967296
  have a00 := Int.emod_nonneg Y (show (4294967296 : Int) ≠ 0 by decide)
  have a01 := Int.emod_lt_of_pos Y (show (0 : Int) < 4294967296 by decide)
  have v00 := Int.emod_nonneg V (show (4294967296 : Int) ≠ 0 by decide)
  have v01 := Int.emod_lt_of_pos V (show (0 : Int) < 4294967296 by decide)
  generalize hA1 : Y / 4294967296 = a1 at *
  generalize hv1 : V / 4294967296 = v1 at *
  generalize Y % 4294967296 = a0 at *
  generalize V % 4294967296 = v0 at *
  have a10 : 2147483648 ≤ a1 := by omega
  have a11 : a1 < 4294967296 := by omega
  have v10 : 0 ≤ v1 := by omega
  have v11 : v1 < 4294967296 := by omega
  obtain ⟨Q, hQ⟩ : ∃ Q, Q = (U * 4294967296 + v1) / Y := ⟨_, rfl⟩
  have D : Hid (Digit U a1 a0 v1 Y Q) := ⟨by omega, a00, a01, a10, a11, U0, U1, v10, v11, hQ⟩
  have EV : Hid (V = v1 * 4294967296 + v0) := by show V = _; omega
  obtain ⟨f1, f2, f3, f4, f5, f6⟩ := D.out.first
  generalize hq : U / a1 = q at *
  have hp0 : 0 ≤ q * a1 := Int.mul_nonneg f6 (by omega)
  generalize hp : q * a1 = p at *
  have hp1 : p ≤ U := by omega
  have za1 : (a1 == 0) = false := by simp; omega
  have FI : Hid (q * a1 + (U - p) = U ∧ Q ≤ q ∧ 0 ≤ U - p ∧ U - p < 4294967296 ∧ q ≤ 4294967297 ∧ 0 ≤ q) := ⟨by rw [hp]; omega, f1, by omega, by omega, f2, f6⟩
  have UY : U < 18446744073709551616 := by omega
  have g5 : U - p < 4294967296 := by omega
  clear dY dV EQ f1 f3 f4 f5 hQ t1 t2 s1
  go_wp2
  go_loop [15, 16] (fun qv rv => ∃ qn rn : Int, qv = .int .u64 qn ∧ rv = .int .u64 rn ∧ Hid (qn * a1 + rn = U ∧ Q ≤ qn) ∧ 0 ≤ rn ∧ rn < 4294967296 ∧ qn ≤ 4294967297 ∧ 0 ≤ qn) (fun qv _ => (RowKit.intOf qv).toNat)
  case atStart => exact ⟨q, U - p, by rw [← hq], rfl, ⟨FI.out.1, FI.out.2.1⟩, FI.out.2.2.1, FI.out.2.2.2.1, FI.out.2.2.2.2.1, FI.out.2.2.2.2.2⟩
  case round =>
    obtain ⟨qn, rn, rfl, rfl, H, r0, r1, q1, q0⟩ := hrel
    have m0 : 0 ≤ qn * a0 := Int.mul_nonneg q0 a00
    have m1 : qn * a0 < 18446744073709551616 := Int.lt_of_le_of_lt (Int.mul_le_mul q1 (show a0 ≤ 4294967295 by omega) a00 (by omega)) (by decide)
    have HC : Hid (4294967296 ≤ qn ∨ 4294967296 * rn + v1 < qn * a0 → Q < qn) := fun h => D.out.yes H.out.1 h
    have HN : Hid (¬ 4294967296 * rn + v1 < qn * a0 → qn = Q) := fun h => D.out.no H.out.1 H.out.2 h
    have HS : Hid (Q < qn → 4294967296 ≤ rn + a1 → qn - 1 = Q) := fun h1 h2 => D.out.stop (Digit.next (a0 := a0) (v := v1) (Y := Y) (Q := Q) H.out.1) (by omega) (by have := D.out.nn; omega) (by omega) h2
    have HX : Hid ((qn - 1) * a1 + (rn + a1) = U) := Digit.next (a0 := a0) (v := v1) (Y := Y) (Q := Q) H.out.1
    have QN := D.out.nn
    generalize hm : qn * a0 = m at *
    clear H
    by_cases hc0 : 4294967296 ≤ qn ∨ 4294967296 * rn + v1 < m
    · have hlt := HC.out hc0
      have hqp : 1 ≤ qn := by omega
      by_cases hc3 : 4294967296 ≤ rn + a1
      · have e1 := HS.out hlt hc3
        obtain rfl : qn = Q + 1 := by omega
        clear e1 HC HN HS HX hlt FI hp hq f2 f6 hp0 hp1 g5
        by_cases hc1 : 4294967296 ≤ Q + 1
        · clear hc0
          have hr := rest_lt D.out
          have Qn := D.out.nn
          have Ql := D.out.lt
          obtain ⟨R, hR⟩ : ∃ R, R = U * 4294967296 + v1 - Q * Y := ⟨_, rfl⟩
          rw [← hR] at hr
          obtain ⟨R0, R1⟩ := hr
          have wR : IntKind.u64.wrap (IntKind.u64.wrap (IntKind.u64.wrap (U * 4294967296) + v1) - IntKind.u64.wrap (Q * Y)) = R := by
            simp only [IntKind.wrap_u64]
            generalize Q * Y = t at *
            omega
          obtain ⟨Q0, hQ0⟩ : ∃ Q0, Q0 = (R * 4294967296 + v0) / Y := ⟨_, rfl⟩
          have D0 : Hid (Digit R a1 a0 v0 Y Q0) := ⟨D.out.ey, a00, a01, a10, a11, R0, R1, v00, v01, hQ0⟩
          have HF : Hid ((hi * 18446744073709551616 + lo) / y = Q * 4294967296 + Q0) := by
            show _ = _
            rw [← HE.out, EV.out]; exact (two_digits D.out hR D0.out).symm
          have Q0n := D0.out.nn
          have Q0l := D0.out.lt
          obtain ⟨k1, k2, k3, k4, k5, k6⟩ := D0.out.first
          generalize hq2 : R / a1 = q2 at *
          have hp20 : 0 ≤ q2 * a1 := Int.mul_nonneg k6 (by omega)
          generalize hp2 : q2 * a1 = p2 at *
          have hp21 : p2 ≤ R := by omega
          have FI2 : Hid (q2 * a1 + (R - p2) = R ∧ Q0 ≤ q2 ∧ 0 ≤ R - p2 ∧ R - p2 < 4294967296 ∧ q2 ≤ 4294967297 ∧ 0 ≤ q2) := ⟨by rw [hp2]; omega, k1, by omega, by omega, k2, k6⟩
          have RY : R < 18446744073709551616 := by omega
          have g6 : R - p2 < 4294967296 := by omega
          clear hR hQ0 k1 k3 k4 k5
          go_wp2
          go_loop [16, 18] (fun rv qv => ∃ qn rn : Int, qv = .int .u64 qn ∧ rv = .int .u64 rn ∧ Hid (qn * a1 + rn = R ∧ Q0 ≤ qn) ∧ 0 ≤ rn ∧ rn < 4294967296 ∧ qn ≤ 4294967297 ∧ 0 ≤ qn) (fun _ qv => (RowKit.intOf qv).toNat)
          case atStart => exact ⟨q2, R - p2, by rw [← hq2], rfl, ⟨FI2.out.1, FI2.out.2.1⟩, FI2.out.2.2.1, FI2.out.2.2.2.1, FI2.out.2.2.2.2.1, FI2.out.2.2.2.2.2⟩
          case round =>
            obtain ⟨q2n, r2n, rfl, rfl, H2, r20, r21, q21, q20⟩ := hrel
            have m20 : 0 ≤ q2n * a0 := Int.mul_nonneg q20 a00
            have m21 : q2n * a0 < 18446744073709551616 := Int.lt_of_le_of_lt (Int.mul_le_mul q21 (show a0 ≤ 4294967295 by omega) a00 (by omega)) (by decide)
            have HC2 : Hid (4294967296 ≤ q2n ∨ 4294967296 * r2n + v0 < q2n * a0 → Q0 < q2n) := fun h => D0.out.yes H2.out.1 h
            have HN2 : Hid (¬ 4294967296 * r2n + v0 < q2n * a0 → q2n = Q0) := fun h => D0.out.no H2.out.1 H2.out.2 h
            have HS2 : Hid (Q0 < q2n → 4294967296 ≤ r2n + a1 → q2n - 1 = Q0) := fun h1 h2 => D0.out.stop (Digit.next (a0 := a0) (v := v0) (Y := Y) (Q := Q0) H2.out.1) (by omega) (by have := D0.out.nn; omega) (by omega) h2
            have HX2 : Hid ((q2n - 1) * a1 + (r2n + a1) = R) := Digit.next (a0 := a0) (v := v0) (Y := Y) (Q := Q0) H2.out.1
            have HQ2 : Hid (Q0 ≤ q2n) := H2.out.2
            generalize hm2 : q2n * a0 = m2 at *
            clear H2
            by_cases hd1 : 4294967296 ≤ q2n ∨ 4294967296 * r2n + v0 < m2
            · have hlt2 := HC2.out hd1
              have hq2p : 1 ≤ q2n := by omega
              by_cases hd3 : 4294967296 ≤ r2n + a1
              · have e2 := HS2.out hlt2 hd3
                obtain rfl : q2n = Q0 + 1 := by omega
                clear e2 HC2 HN2 HS2 HX2 HQ2 hlt2
                by_cases hd2 : 4294967296 ≤ Q0 + 1
                · clear hd1
                  have w9 : IntKind.u64.wrap (Q * 4294967296) = Q * 4294967296 := by rw [IntKind.wrap_u64]; omega
                  go_wp2
                  go_ret2
                  exact ⟨⟨_, by rw [HF.out]; rfl⟩, Below.refl _ _⟩
                · have hd4 : 4294967296 * r2n + v0 < m2 := by omega
                  clear hd1
                  have w9 : IntKind.u64.wrap (Q * 4294967296) = Q * 4294967296 := by rw [IntKind.wrap_u64]; omega
                  go_wp2
                  go_ret2
                  exact ⟨⟨_, by rw [HF.out]; rfl⟩, Below.refl _ _⟩
              · have RX : Hid ((q2n - 1) * a1 + (r2n + a1) = R ∧ Q0 ≤ q2n - 1) := ⟨HX2.out, by omega⟩
                clear HC2 HN2 HS2 HX2 HQ2 hlt2
                by_cases hd2 : 4294967296 ≤ q2n
                · clear hd1
                  go_wp2
                  go_round
                  case rel => exact ⟨q2n - 1, r2n + a1, rfl, rfl, RX, by omega, by omega, by omega, by omega⟩
                  case measure => simp [RowKit.intOf]; omega
                · have hd4 : 4294967296 * r2n + v0 < m2 := by omega
                  clear hd1
                  go_wp2
                  go_round
                  case rel => exact ⟨q2n - 1, r2n + a1, rfl, rfl, RX, by omega, by omega, by omega, by omega⟩
                  case measure => simp [RowKit.intOf]; omega
            · have hd2 : ¬ 4294967296 ≤ q2n := by omega
              have hd4 : ¬ 4294967296 * r2n + v0 < m2 := by omega
              have e2 := HN2.out hd4
              subst e2
              clear hd1 HC2 HN2 HS2 HX2 HQ2
              have w9 : IntKind.u64.wrap (Q * 4294967296) = Q * 4294967296 := by rw [IntKind.wrap_u64]; omega
              go_wp2
              go_ret2
              exact ⟨⟨_, by rw [HF.out]; rfl⟩, Below.refl _ _⟩
        · have hc2 : 4294967296 * rn + v1 < m := by omega
          clear hc0
          have hr := rest_lt D.out
          have Qn := D.out.nn
          have Ql := D.out.lt
          obtain ⟨R, hR⟩ : ∃ R, R = U * 4294967296 + v1 - Q * Y := ⟨_, rfl⟩
          rw [← hR] at hr
          obtain ⟨R0, R1⟩ := hr
          have wR : IntKind.u64.wrap (IntKind.u64.wrap (IntKind.u64.wrap (U * 4294967296) + v1) - IntKind.u64.wrap (Q * Y)) = R := by
            simp only [IntKind.wrap_u64]
            generalize Q * Y = t at *
            omega
          obtain ⟨Q0, hQ0⟩ : ∃ Q0, Q0 = (R * 4294967296 + v0) / Y := ⟨_, rfl⟩
          have D0 : Hid (Digit R a1 a0 v0 Y Q0) := ⟨D.out.ey, a00, a01, a10, a11, R0, R1, v00, v01, hQ0⟩
          have HF : Hid ((hi * 18446744073709551616 + lo) / y = Q * 4294967296 + Q0) := by
            show _ = _
            rw [← HE.out, EV.out]; exact (two_digits D.out hR D0.out).symm
          have Q0n := D0.out.nn
          have Q0l := D0.out.lt
          obtain ⟨k1, k2, k3, k4, k5, k6⟩ := D0.out.first
          generalize hq2 : R / a1 = q2 at *
          have hp20 : 0 ≤ q2 * a1 := Int.mul_nonneg k6 (by omega)
          generalize hp2 : q2 * a1 = p2 at *
          have hp21 : p2 ≤ R := by omega
          have FI2 : Hid (q2 * a1 + (R - p2) = R ∧ Q0 ≤ q2 ∧ 0 ≤ R - p2 ∧ R - p2 < 4294967296 ∧ q2 ≤ 4294967297 ∧ 0 ≤ q2) := ⟨by rw [hp2]; omega, k1, by omega, by omega, k2, k6⟩
          have RY : R < 18446744073709551616 := by omega
          have g6 : R - p2 < 4294967296 := by omega
          clear hR hQ0 k1 k3 k4 k5
          go_wp2
          go_loop [16, 18] (fun rv qv => ∃ qn rn : Int, qv = .int .u64 qn ∧ rv = .int .u64 rn ∧ Hid (qn * a1 + rn = R ∧ Q0 ≤ qn) ∧ 0 ≤ rn ∧ rn < 4294967296 ∧ qn ≤ 4294967297 ∧ 0 ≤ qn) (fun _ qv => (RowKit.intOf qv).toNat)
          case atStart => exact ⟨q2, R - p2, by rw [← hq2], rfl, ⟨FI2.out.1, FI2.out.2.1⟩, FI2.out.2.2.1, FI2.out.2.2.2.1, FI2.out.2.2.2.2.1, FI2.out.2.2.2.2.2⟩
          case round =>
            obtain ⟨q2n, r2n, rfl, rfl, H2, r20, r21, q21, q20⟩ := hrel
            have m20 : 0 ≤ q2n * a0 := Int.mul_nonneg q20 a00
            have m21 : q2n * a0 < 18446744073709551616 := Int.lt_of_le_of_lt (Int.mul_le_mul q21 (show a0 ≤ 4294967295 by omega) a00 (by omega)) (by decide)
            have HC2 : Hid (4294967296 ≤ q2n ∨ 4294967296 * r2n + v0 < q2n * a0 → Q0 < q2n) := fun h => D0.out.yes H2.out.1 h
            have HN2 : Hid (¬ 4294967296 * r2n + v0 < q2n * a0 → q2n = Q0) := fun h => D0.out.no H2.out.1 H2.out.2 h
            have HS2 : Hid (Q0 < q2n → 4294967296 ≤ r2n + a1 → q2n - 1 = Q0) := fun h1 h2 => D0.out.stop (Digit.next (a0 := a0) (v := v0) (Y := Y) (Q := Q0) H2.out.1) (by omega) (by have := D0.out.nn; omega) (by omega) h2
            have HX2 : Hid ((q2n - 1) * a1 + (r2n + a1) = R) := Digit.next (a0 := a0) (v := v0) (Y := Y) (Q := Q0) H2.out.1
            have HQ2 : Hid (Q0 ≤ q2n) := H2.out.2
            generalize hm2 : q2n * a0 = m2 at *
            clear H2
            by_cases hd1 : 4294967296 ≤ q2n ∨ 4294967296 * r2n + v0 < m2
            · have hlt2 := HC2.out hd1
              have hq2p : 1 ≤ q2n := by omega
              by_cases hd3 : 4294967296 ≤ r2n + a1
              · have e2 := HS2.out hlt2 hd3
                obtain rfl : q2n = Q0 + 1 := by omega
                clear e2 HC2 HN2 HS2 HX2 HQ2 hlt2
                by_cases hd2 : 4294967296 ≤ Q0 + 1
                · clear hd1
                  have w9 : IntKind.u64.wrap (Q * 4294967296) = Q * 4294967296 := by rw [IntKind.wrap_u64]; omega
                  go_wp2
                  go_ret2
                  exact ⟨⟨_, by rw [HF.out]; rfl⟩, Below.refl _ _⟩
                · have hd4 : 4294967296 * r2n + v0 < m2 := by omega
                  clear hd1
                  have w9 : IntKind.u64.wrap (Q * 4294967296) = Q * 4294967296 := by rw [IntKind.wrap_u64]; omega
                  go_wp2
                  go_ret2
                  exact ⟨⟨_, by rw [HF.out]; rfl⟩, Below.refl _ _⟩
              · have RX : Hid ((q2n - 1) * a1 + (r2n + a1) = R ∧ Q0 ≤ q2n - 1) := ⟨HX2.out, by omega⟩
                clear HC2 HN2 HS2 HX2 HQ2 hlt2
                by_cases hd2 : 4294967296 ≤ q2n
                · clear hd1
                  go_wp2
                  go_round
                  case rel => exact ⟨q2n - 1, r2n + a1, rfl, rfl, RX, by omega, by omega, by omega, by omega⟩
                  case measure => simp [RowKit.intOf]; omega
                · have hd4 : 4294967296 * r2n + v0 < m2 := by omega
                  clear hd1
                  go_wp2
                  go_round
                  case rel => exact ⟨q2n - 1, r2n + a1, rfl, rfl, RX, by omega, by omega, by omega, by omega⟩
                  case measure => simp [RowKit.intOf]; omega
            · have hd2 : ¬ 4294967296 ≤ q2n := by omega
              have hd4 : ¬ 4294967296 * r2n + v0 < m2 := by omega
              have e2 := HN2.out hd4
              subst e2
              clear hd1 HC2 HN2 HS2 HX2 HQ2
              have w9 : IntKind.u64.wrap (Q * 4294967296) = Q * 4294967296 := by rw [IntKind.wrap_u64]; omega
              go_wp2
              go_ret2
              exact ⟨⟨_, by rw [HF.out]; rfl⟩, Below.refl _ _⟩
      · have RX : Hid ((qn - 1) * a1 + (rn + a1) = U ∧ Q ≤ qn - 1) := ⟨HX.out, by omega⟩
        clear HC HN HS HX hlt FI
        by_cases hc1 : 4294967296 ≤ qn
        · clear hc0
          go_wp2
          go_round
          case rel => exact ⟨qn - 1, rn + a1, rfl, rfl, RX, by omega, by omega, by omega, by omega⟩
          case measure => simp [RowKit.intOf]; omega
        · have hc2 : 4294967296 * rn + v1 < m := by omega
          clear hc0
          go_wp2
          go_round
          case rel => exact ⟨qn - 1, rn + a1, rfl, rfl, RX, by omega, by omega, by omega, by omega⟩
          case measure => simp [RowKit.intOf]; omega
    · have hc1 : ¬ 4294967296 ≤ qn := by omega
      have hc2 : ¬ 4294967296 * rn + v1 < m := by omega
      have e1 := HN.out hc2
      subst e1
      clear hc0 HC HN HS HX FI hp hq f2 f6 hp0 hp1 g5
      have hr := rest_lt D.out
      have Qn := D.out.nn
      have Ql := D.out.lt
      obtain ⟨R, hR⟩ : ∃ R, R = U * 4294967296 + v1 - qn * Y := ⟨_, rfl⟩
      rw [← hR] at hr
      obtain ⟨R0, R1⟩ := hr
      have wR : IntKind.u64.wrap (IntKind.u64.wrap (IntKind.u64.wrap (U * 4294967296) + v1) - IntKind.u64.wrap (qn * Y)) = R := by
        simp only [IntKind.wrap_u64]
        generalize qn * Y = t at *
        omega
      obtain ⟨Q0, hQ0⟩ : ∃ Q0, Q0 = (R * 4294967296 + v0) / Y := ⟨_, rfl⟩
      have D0 : Hid (Digit R a1 a0 v0 Y Q0) := ⟨D.out.ey, a00, a01, a10, a11, R0, R1, v00, v01, hQ0⟩
      have HF : Hid ((hi * 18446744073709551616 + lo) / y = qn * 4294967296 + Q0) := by
        show _ = _
        rw [← HE.out, EV.out]; exact (two_digits D.out hR D0.out).symm
      have Q0n := D0.out.nn
      have Q0l := D0.out.lt
      obtain ⟨k1, k2, k3, k4, k5, k6⟩ := D0.out.first
      generalize hq2 : R / a1 = q2 at *
      have hp20 : 0 ≤ q2 * a1 := Int.mul_nonneg k6 (by omega)
      generalize hp2 : q2 * a1 = p2 at *
      have hp21 : p2 ≤ R := by omega
      have FI2 : Hid (q2 * a1 + (R - p2) = R ∧ Q0 ≤ q2 ∧ 0 ≤ R - p2 ∧ R - p2 < 4294967296 ∧ q2 ≤ 4294967297 ∧ 0 ≤ q2) := ⟨by rw [hp2]; omega, k1, by omega, by omega, k2, k6⟩
      have RY : R < 18446744073709551616 := by omega
      have g6 : R - p2 < 4294967296 := by omega
      clear hR hQ0 k1 k3 k4 k5
      go_wp2
      go_loop [16, 18] (fun rv qv => ∃ qn rn : Int, qv = .int .u64 qn ∧ rv = .int .u64 rn ∧ Hid (qn * a1 + rn = R ∧ Q0 ≤ qn) ∧ 0 ≤ rn ∧ rn < 4294967296 ∧ qn ≤ 4294967297 ∧ 0 ≤ qn) (fun _ qv => (RowKit.intOf qv).toNat)
      case atStart => exact ⟨q2, R - p2, by rw [← hq2], rfl, ⟨FI2.out.1, FI2.out.2.1⟩, FI2.out.2.2.1, FI2.out.2.2.2.1, FI2.out.2.2.2.2.1, FI2.out.2.2.2.2.2⟩
      case round =>
        obtain ⟨q2n, r2n, rfl, rfl, H2, r20, r21, q21, q20⟩ := hrel
        have m20 : 0 ≤ q2n * a0 := Int.mul_nonneg q20 a00
        have m21 : q2n * a0 < 18446744073709551616 := Int.lt_of_le_of_lt (Int.mul_le_mul q21 (show a0 ≤ 4294967295 by omega) a00 (by omega)) (by decide)
        have HC2 : Hid (4294967296 ≤ q2n ∨ 4294967296 * r2n + v0 < q2n * a0 → Q0 < q2n) := fun h => D0.out.yes H2.out.1 h
        have HN2 : Hid (¬ 4294967296 * r2n + v0 < q2n * a0 → q2n = Q0) := fun h => D0.out.no H2.out.1 H2.out.2 h
        have HS2 : Hid (Q0 < q2n → 4294967296 ≤ r2n + a1 → q2n - 1 = Q0) := fun h1 h2 => D0.out.stop (Digit.next (a0 := a0) (v := v0) (Y := Y) (Q := Q0) H2.out.1) (by omega) (by have := D0.out.nn; omega) (by omega) h2
        have HX2 : Hid ((q2n - 1) * a1 + (r2n + a1) = R) := Digit.next (a0 := a0) (v := v0) (Y := Y) (Q := Q0) H2.out.1
        have HQ2 : Hid (Q0 ≤ q2n) := H2.out.2
        generalize hm2 : q2n * a0 = m2 at *
        clear H2
        by_cases hd1 : 4294967296 ≤ q2n ∨ 4294967296 * r2n + v0 < m2
        · have hlt2 := HC2.out hd1
          have hq2p : 1 ≤ q2n := by omega
          by_cases hd3 : 4294967296 ≤ r2n + a1
          · have e2 := HS2.out hlt2 hd3
            obtain rfl : q2n = Q0 + 1 := by omega
            clear e2 HC2 HN2 HS2 HX2 HQ2 hlt2
            by_cases hd2 : 4294967296 ≤ Q0 + 1
            · clear hd1
              have w9 : IntKind.u64.wrap (qn * 4294967296) = qn * 4294967296 := by rw [IntKind.wrap_u64]; omega
              go_wp2
              go_ret2
              exact ⟨⟨_, by rw [HF.out]; rfl⟩, Below.refl _ _⟩
            · have hd4 : 4294967296 * r2n + v0 < m2 := by omega
              clear hd1
              have w9 : IntKind.u64.wrap (qn * 4294967296) = qn * 4294967296 := by rw [IntKind.wrap_u64]; omega
              go_wp2
              go_ret2
              exact ⟨⟨_, by rw [HF.out]; rfl⟩, Below.refl _ _⟩
          · have RX : Hid ((q2n - 1) * a1 + (r2n + a1) = R ∧ Q0 ≤ q2n - 1) := ⟨HX2.out, by omega⟩
            clear HC2 HN2 HS2 HX2 HQ2 hlt2
            by_cases hd2 : 4294967296 ≤ q2n
            · clear hd1
              go_wp2
              go_round
              case rel => exact ⟨q2n - 1, r2n + a1, rfl, rfl, RX, by omega, by omega, by omega, by omega⟩
              case measure => simp [RowKit.intOf]; omega
            · have hd4 : 4294967296 * r2n + v0 < m2 := by omega
              clear hd1
              go_wp2
              go_round
              case rel => exact ⟨q2n - 1, r2n + a1, rfl, rfl, RX, by omega, by omega, by omega, by omega⟩
              case measure => simp [RowKit.intOf]; omega
        · have hd2 : ¬ 4294967296 ≤ q2n := by omega
          have hd4 : ¬ 4294967296 * r2n + v0 < m2 := by omega
          have e2 := HN2.out hd4
          subst e2
          clear hd1 HC2 HN2 HS2 HX2 HQ2
          have w9 : IntKind.u64.wrap (qn * 4294967296) = qn * 4294967296 := by rw [IntKind.wrap_u64]; omega
          go_wp2
          go_ret2
          exact ⟨⟨_, by rw [HF.out]; rfl⟩, Below.refl _ _⟩

end Go.Proofs.Ytcganhhnkidddaa
