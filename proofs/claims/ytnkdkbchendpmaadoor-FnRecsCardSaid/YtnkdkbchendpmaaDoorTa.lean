/-
  A TURNED BYTE, THE THINKING: one byte turned gives another sum.
-/
import Derived.Test.YtnkdkbchendpmaaDoorBa
namespace Go.Proofs.YtnkdkbchendpmaaDoor
set_option linter.unusedVariables false

theorem sumStep_lt (n : Nat) (b : UInt8) : sumStep n b < 4294967291 := Nat.mod_lt _ (by decide)
theorem sumStep_inj {n m : Nat} (b : UInt8) (hn : n < 4294967291) (hm : m < 4294967291) (h : sumStep n b = sumStep m b) : n = m := by
  unfold sumStep at h
  omega
theorem sumStep_byte {n : Nat} {x y : UInt8} (h : sumStep n x = sumStep n y) : x = y := by
  unfold sumStep at h
  have hx := x.toNat_lt
  have hy := y.toNat_lt
  exact UInt8.toNat_inj.1 (by omega)
theorem fold_inj (l : List UInt8) : ∀ {n m : Nat}, n < 4294967291 → m < 4294967291 → l.foldl sumStep n = l.foldl sumStep m → n = m := by
  induction l with
  | nil => intro n m _ _ h; exact h
  | cons b l ih => intro n m hn hm h; exact sumStep_inj b hn hm (ih (sumStep_lt _ _) (sumStep_lt _ _) h)
/-- One byte turned gives another sum. -/
theorem sum_turned (a c : List UInt8) (x y : UInt8) (h : sumL (a ++ x :: c) = sumL (a ++ y :: c)) : x = y := by
  unfold sumL at h
  rw [List.foldl_append, List.foldl_append, List.foldl_cons, List.foldl_cons] at h
  exact sumStep_byte (fold_inj c (sumStep_lt _ _) (sumStep_lt _ _) h)
end Go.Proofs.YtnkdkbchendpmaaDoor
