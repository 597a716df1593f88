import Derived.Test.YtnihhbfgbilimaaGreatDoorRows
import Derived.WalkKit
import Derived.WalkSpells
import Derived.WalkLawsBesides
import Derived.Laws.EntriesVeiled
import Derived.Deep.QuietTactic
import Derived.BigQuiet
import Derived.Lib.Hide
import Derived.Laws.AppendOwn
import Derived.RangeFuncNested
import Derived.RangeFuncBound
import Derived.RangeFuncCalls
import Derived.RangeFuncLeaves
import Derived.RangeFuncBox
import Derived.Shelf.Abstract
import Derived.Shelf.RegionOpen
import Derived.OwnWalkIn
import Derived.TacticsInMore
import Derived.LoopNIn
import Derived.LoopIn
import Derived.Maps.AppendAt
import Derived.Lib.TrailingZeros
namespace Go.Proofs.YtnihhbfgbilimaaGreatDoor
open Go.RowKit
set_option linter.unusedVariables false
def bitM (ws : List (BitVec 64)) (q : Nat) : Bool := (ws.getD (q / 64) 0#64).getLsbD (q % 64)
def bit1 (k : Nat) : BitVec 64 := 1#64 <<< k
theorem bit1_at (k j : Nat) (hk : k < 64) (hj : j < 64) : (bit1 k).getLsbD j = decide (j = k) := by
 unfold bit1
 rw [BitVec.getLsbD_shiftLeft, BitVec.getLsbD_one]
 by_cases h : j < k
 ·simp [h, show j ≠ k by omega]
 ·by_cases e : j = k
  ·subst e; simp [hk]
  ·simp [h, e, hj, show j - k ≠ 0 by omega]
def putM (ws : List (BitVec 64)) (q : Nat) : List (BitVec 64) := ws.set (q / 64) (ws.getD (q / 64) 0#64 ||| bit1 (q % 64))
def dropM (ws : List (BitVec 64)) (q : Nat) : List (BitVec 64) := ws.set (q / 64) (ws.getD (q / 64) 0#64 &&& ~~~(bit1 (q % 64)))
theorem putM_len (ws : List (BitVec 64)) (q : Nat) : (putM ws q).length = ws.length := by unfold putM; simp
theorem dropM_len (ws : List (BitVec 64)) (q : Nat) : (dropM ws q).length = ws.length := by unfold dropM; simp
theorem getD_set {α : Type} (ws : List α) (i j : Nat) (v d : α) (hi : i < ws.length) : (ws.set i v).getD j d = if j = i then v else ws.getD j d := by
 rw [List.getD_eq_getElem?_getD, List.getElem?_set]
 by_cases e : i = j
 ·subst e; simp [hi]
 ·rw [if_neg e, if_neg (fun g => e g.symm), List.getD_eq_getElem?_getD]
theorem putM_at (ws : List (BitVec 64)) (q r : Nat) (hq : q / 64 < ws.length) : bitM (putM ws q) r = if r = q then true else bitM ws r := by
 unfold bitM putM
 rw [getD_set _ _ _ _ _ hq]
 have h64 : q % 64 < 64 := Nat.mod_lt _ (by omega)
 have hr64 : r % 64 < 64 := Nat.mod_lt _ (by omega)
 by_cases e : r / 64 = q / 64
 ·rw [if_pos e, BitVec.getLsbD_or, bit1_at _ _ h64 hr64, e]
  by_cases e2 : r % 64 = q % 64
  ·have : r = q := by omega
   simp [this]
  ·have : r ≠ q := fun g => e2 (by rw [g])
   simp [e2, this]
 ·rw [if_neg e, if_neg (fun g => e (by rw [g]))]
theorem dropM_at (ws : List (BitVec 64)) (q r : Nat) (hq : q / 64 < ws.length) : bitM (dropM ws q) r = if r = q then false else bitM ws r := by
 unfold bitM dropM
 rw [getD_set _ _ _ _ _ hq]
 have h64 : q % 64 < 64 := Nat.mod_lt _ (by omega)
 have hr64 : r % 64 < 64 := Nat.mod_lt _ (by omega)
 by_cases e : r / 64 = q / 64
 ·rw [if_pos e, BitVec.getLsbD_and, BitVec.getLsbD_not, bit1_at _ _ h64 hr64, e]
  by_cases e2 : r % 64 = q % 64
  ·have : r = q := by omega
   simp [this]
  ·have : r ≠ q := fun g => e2 (by rw [g])
   simp [e2, this, hr64]
 ·rw [if_neg e, if_neg (fun g => e (by rw [g]))]
theorem bitM_none {ws : List (BitVec 64)} (h : ∀ w ∈ ws, w = 0#64) (q : Nat) : bitM ws q = false := by
 unfold bitM
 by_cases hq : q / 64 < ws.length
 ·rw [show ws.getD (q / 64) 0#64 = 0#64 from h _ (by simp [List.getD_eq_getElem?_getD, hq])]; simp
 ·rw [List.getD_eq_getElem?_getD, List.getElem?_eq_none (by omega)]; simp
theorem bitM_first {ws : List (BitVec 64)} {i k : Nat} (hi : i < ws.length) (hz : ∀ j (h : j < ws.length), j < i → ws[j] = 0#64) (hk : k < 64) (h1 : (ws[i]).getLsbD k = true) (h2 : ∀ j, j < k → (ws[i]).getLsbD j = false) : bitM ws (64 * i + k) = true ∧ ∀ q, q < 64 * i + k → bitM ws q = false := by
 have e1 : (64 * i + k) / 64 = i := by omega
 have e2 : (64 * i + k) % 64 = k := by omega
 refine ⟨by unfold bitM; rw [e1, e2, List.getD_eq_getElem?_getD, List.getElem?_eq_getElem hi]; exact h1, fun q hq => ?_⟩
 unfold bitM
 by_cases e : q / 64 = i
 ·rw [e, List.getD_eq_getElem?_getD, List.getElem?_eq_getElem hi]
  exact h2 _ (by omega)
 ·have hlt : q / 64 < i := by omega
  rw [List.getD_eq_getElem?_getD, List.getElem?_eq_getElem (by omega)]
  simp [hz _ (by omega) hlt]
theorem ctz_bits {x : Nat} (h0 : x ≠ 0) (h : x < 2 ^ 64) : Lib.ctz 64 x < 64 ∧ x.testBit (Lib.ctz 64 x) = true ∧ ∀ j, j < Lib.ctz 64 x → x.testBit j = false := by
 have e : Lib.ctz 64 x = Lib.ctzFrom 64 x := by unfold Lib.ctz; rw [if_neg h0]
 obtain ⟨m, hm, hlt⟩ := Lib.ctzFrom_spec 64 x (by omega) h
 rw [e]
 generalize Lib.ctzFrom 64 x = c at *
 refine ⟨hlt, ?_, fun j hj => ?_⟩
 ·rw [hm, Nat.testBit_two_pow_mul]
  simp [Nat.testBit_zero]
 ·rw [hm, Nat.testBit_two_pow_mul]
  simp [show ¬ c ≤ j by omega]
theorem word_first {w : BitVec 64} (h : w ≠ 0#64) : Lib.ctz 64 w.toNat < 64 ∧ w.getLsbD (Lib.ctz 64 w.toNat) = true ∧ ∀ j, j < Lib.ctz 64 w.toNat → w.getLsbD j = false := by
 have h0 : w.toNat ≠ 0 := fun e => h (BitVec.eq_of_toNat_eq (by simpa using e))
 exact ctz_bits h0 w.isLt
theorem or_word (a b : BitVec 64) : bits .or .u64 (a.toNat : Int) (b.toNat : Int) = ((a ||| b).toNat : Int) := by
 unfold bits
 have e : ∀ v : BitVec 64, BitVec.ofInt IntKind.u64.bits (v.toNat : Int) = v := fun v => by
  show BitVec.ofInt 64 (v.toNat : Int) = v
  rw [BitVec.ofInt_natCast, BitVec.ofNat_toNat]; simp
 simp only [e]
 show IntKind.u64.wrap (((a ||| b : BitVec 64).toNat : Nat) : Int) = _
 have h : (a ||| b : BitVec 64).toNat < 18446744073709551616 := (a ||| b : BitVec 64).isLt
 rw [IntKind.wrap_u64]
 omega
theorem andNot_word (a b : BitVec 64) : bits .andNot .u64 (a.toNat : Int) (b.toNat : Int) = ((a &&& ~~~b).toNat : Int) := by
 unfold bits
 have e : ∀ v : BitVec 64, BitVec.ofInt IntKind.u64.bits (v.toNat : Int) = v := fun v => by
  show BitVec.ofInt 64 (v.toNat : Int) = v
  rw [BitVec.ofInt_natCast, BitVec.ofNat_toNat]; simp
 simp only [e]
 show IntKind.u64.wrap (((a &&& ~~~b : BitVec 64).toNat : Nat) : Int) = _
 have h : (a &&& ~~~b : BitVec 64).toNat < 18446744073709551616 := (a &&& ~~~b : BitVec 64).isLt
 rw [IntKind.wrap_u64]
 omega
theorem bit1_word {k : Nat} (hk : k < 64) : IntKind.u64.wrap (1 * 2 ^ k) = ((bit1 k).toNat : Int) := by
 have h1 : (bit1 k).toNat = 2 ^ k := by
  unfold bit1
  rw [BitVec.toNat_shiftLeft, Nat.shiftLeft_eq]
  have : 2 ^ k < 2 ^ 64 := Nat.pow_lt_pow_right (by omega) hk
  simp only [BitVec.toNat_ofNat]
  rw [show 1 % 2 ^ 64 = 1 by decide, Nat.one_mul, Nat.mod_eq_of_lt this]
 have h2 : (2 : Nat) ^ k < 18446744073709551616 := by
  have : 2 ^ k < 2 ^ 64 := Nat.pow_lt_pow_right (by omega) hk
  simpa using this
 rw [h1, IntKind.wrap_u64]
 have h3 : ((2 ^ k : Nat) : Int) = (2 : Int) ^ k := by simp
 rw [← h3]
 omega
end Go.Proofs.YtnihhbfgbilimaaGreatDoor
