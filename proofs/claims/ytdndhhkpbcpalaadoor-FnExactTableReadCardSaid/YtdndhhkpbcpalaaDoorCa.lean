/-
  A LINE THAT BEGINS WITH A WORD, NUMBERS BEHIND IT: impl.lineOf.
-/
import Derived.Test.YtdndhhkpbcpalaaDoorBb
import Derived.Test.YtdndhhkpbcpalaaDoorAe
namespace Go.Proofs.YtdndhhkpbcpalaaDoor
open Go.RowKit Go.Lib
set_option linter.unusedVariables false

/-- A blank and a number; a line. -/
def numB (n : Int) : List UInt8 := [32] ++ Lib.itoa n
def wordB (wd : List UInt8) (zs : List Int) : List UInt8 := wd ++ zs.flatMap numB ++ [10]
/-- Numbers of at most fifteen digits. -/
def MidL (zs : List Int) : Prop := ∀ z ∈ zs, -1000000000000000 ≤ z ∧ z ≤ 1000000000000000
theorem dec_mid (u : Nat) (h : u ≤ 1000000000000000) : (Lib.decDigits u).length ≤ 20 := by
  by_cases h0 : u = 0
  · subst h0; rw [Lib.decDigits_one (by decide)]; decide
  · rw [Lib.decDigits_length]
    have := Lib.numDigits_eq u (by omega) (by omega)
    split at this <;> omega
theorem itoa_mid (n : Int) (h : -1000000000000000 ≤ n ∧ n ≤ 1000000000000000) : (Lib.itoa n).length ≤ 21 := by
  unfold Lib.itoa
  split
  · simp only [List.length_cons]
    have := dec_mid n.natAbs (by omega)
    omega
  · have := dec_mid n.toNat (by omega)
    omega
theorem nums_step (zs : List Int) (k : Nat) (h : k < zs.length) : (zs.take (k + 1)).flatMap numB = (zs.take k).flatMap numB ++ ([32] ++ Lib.itoa (zs.getD k 0)) := by
  rw [List.take_succ_eq_append_getElem h, List.flatMap_append]
  simp [numB, h]

end Go.Proofs.YtdndhhkpbcpalaaDoor
