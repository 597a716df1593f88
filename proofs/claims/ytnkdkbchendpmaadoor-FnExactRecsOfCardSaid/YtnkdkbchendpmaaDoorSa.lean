/-
  SUMS OF TEXTS, AS THE MODEL MAKES THEM.
-/
import Derived.Test.YtnkdkbchendpmaaDoorAb
namespace Go.Proofs.YtnkdkbchendpmaaDoor
open Go.RowKit
set_option linter.unusedVariables false

def sumStep (n : Nat) (b : UInt8) : Nat := (263 * n + b.toNat) % 4294967291
/-- The sum of some bytes. -/
def sumL (l : List UInt8) : Nat := l.foldl sumStep 1
def sumAt (s : ByteArray) (k : Nat) : Nat := sumL (s.data.toList.take k)
theorem fold_lt (l : List UInt8) (n : Nat) (h : n < 4294967291) : l.foldl sumStep n < 4294967291 := by
  induction l generalizing n with
  | nil => exact h
  | cons b r ih => exact ih _ (Nat.mod_lt _ (by decide))
theorem sumL_lt (l : List UInt8) : sumL l < 4294967291 := fold_lt l 1 (by decide)
theorem sumAt_step (s : ByteArray) (k : Nat) (h : k < s.size) : sumAt s (k + 1) = (263 * sumAt s k + (s[k]'h).toNat) % 4294967291 := by
  unfold sumAt sumL
  rw [List.take_succ_eq_append_getElem (by simpa using h), List.foldl_append]
  rfl
theorem sumAt_all (s : ByteArray) (k : Nat) (h : s.size ≤ k) : sumAt s k = sumL s.data.toList := by
  unfold sumAt
  rw [List.take_of_length_le (by simpa using h)]

set_option maxHeartbeats 1000000 in
theorem ssum_any (s : ByteArray) (hs : s.size ≤ maxLen) (w : World) :
    Calls Tryd.prog 42 #[.string s] w fun e w' => e = .returned (.int .i64 (sumL s.data.toList)) ∧ w' = w := by
  unfold maxLen at hs
  go_enter Tryd.func42, Tryd.ntmps42
  go_wp2
  go_loop [3, 4] (fun t i => ∃ k x : Nat, i = .int .i64 k ∧ t = .int .i64 x ∧ k ≤ s.size ∧ Hid (x = sumAt s k) ∧ x < 4294967291) (fun _ i => s.size - (intOf i).toNat)
  case atStart => exact ⟨0, 1, rfl, rfl, Nat.zero_le _, rfl, by decide⟩
  case round =>
    obtain ⟨k, x, rfl, rfl, hk, H1, hx⟩ := hrel
    have hk0 : (0 : Int) ≤ (k : Int) := by omega
    have hx0 : (0 : Int) ≤ (x : Int) := by omega
    have hx1 : (x : Int) < 4294967291 := by omega
    by_cases h1 : k < s.size
    · have h1' : (k : Int) < (s.size : Int) := by omega
      have hb : ((s[k]'h1).toNat : Int) < 256 := by have := (s[k]'h1).toNat_lt; omega
      have E := sumAt_step s k h1
      rw [← H1.out] at E
      have HE : Hid (((263 * (x : Int) + ((s[k]'h1).toNat : Int)) % 4294967291) = ((sumAt s (k + 1) : Nat) : Int)) := by show _ = _; rw [E]; omega
      have HB : Hid (sumAt s (k + 1) < 4294967291) := sumL_lt _
      clear E
      go_wp2
      go_round
      case rel => exact ⟨k + 1, sumAt s (k + 1), by go_num, by rw [HE.out], by omega, rfl, HB.out⟩
      case measure => simp [intOf]; omega
    · have h1' : ¬ (k : Int) < (s.size : Int) := by omega
      have HE : Hid (x = sumL s.data.toList) := H1.out.trans (sumAt_all s k (by omega))
      go_wp2
      go_ret
      exact ⟨by rw [HE.out]; rfl, rfl⟩

end Go.Proofs.YtnkdkbchendpmaaDoor
