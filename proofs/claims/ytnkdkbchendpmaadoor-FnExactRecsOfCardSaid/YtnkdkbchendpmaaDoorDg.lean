/-
  THE LAWS' OWN DRAW: lwAt.
-/
import Derived.Test.YtnkdkbchendpmaaDoorDf
namespace Go.Proofs.YtnkdkbchendpmaaDoor
open Go.RowKit
set_option linter.unusedVariables false

set_option maxRecDepth 100000 in
set_option maxHeartbeats 400000 in
theorem at_any (sl : Option Addr) (len cap : Nat) (a : Nat) (m : Int) (w : World) (ha : a ≤ 100) (hm : m ≤ 9223372036854775807) (hr : RowIn w sl len) :
    Calls Tryd.prog 14 #[.slice sl len cap, .int .i64 a, .int .i64 m] w fun e w' => ∃ r : Int, e = .returned (.int .i64 r) ∧ 0 ≤ r ∧ (r < m ∨ r = 0) ∧ w' = w := by
  by_cases h1 : m ≤ 1
  · go_enter Tryd.func14, Tryd.ntmps14
    go_wp2
    go_ret
    exact ⟨0, rfl, by omega, .inr rfl, rfl⟩
  · by_cases h0 : len = 0
    · subst h0
      go_enter Tryd.func14, Tryd.ntmps14
      go_wp2
      go_ret
      exact ⟨0, rfl, by omega, .inr rfl, rfl⟩
    · have h0' : ¬ ((len : Int) = 0) := by omega
      have hi : a % len < len := Nat.mod_lt _ (by omega)
      obtain ⟨c, o, z, rfl, hc, z1, z2, hz⟩ := hr.2 _ hi
      have hml : len ≤ 9223372036854775807 := hr.1
      have e1 : Int.tmod (a : Int) (len : Int) = ((a % len : Nat) : Int) := by rw [Int.tmod_eq_emod_of_nonneg (by omega)]; omega
      have e2 : (Int.tmod (a : Int) (len : Int)).toNat = a % len := by rw [e1]; omega
      have k1 : 0 ≤ Int.tmod (a : Int) (len : Int) := by rw [e1]; omega
      have k2 : Int.tmod (a : Int) (len : Int) < len := by rw [e1]; omega
      have r1 : 0 ≤ Int.tmod z m := Int.tmod_nonneg _ z1
      have r2 : Int.tmod z m < m := Int.tmod_lt_of_pos _ (by omega)
      have hm0 : ¬ (m = 0) := by omega
      have hz' : w.cell? ⟨c, o + (Int.tmod (a : Int) (len : Int)).toNat, none⟩ = some (.int .u8 z) := by rw [e2]; exact hz
      clear e1 e2 hr
      go_enter Tryd.func14, Tryd.ntmps14
      go_wp2
      go_ret
      exact ⟨_, rfl, Int.emod_nonneg _ hm0, .inl (Int.emod_lt_of_pos _ (by omega)), rfl⟩
end Go.Proofs.YtnkdkbchendpmaaDoor
