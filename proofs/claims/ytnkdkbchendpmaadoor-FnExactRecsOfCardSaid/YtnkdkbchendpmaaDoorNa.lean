/-
  NUMBERS AS BYTES, AS THE PROGRAM WRITES THEM.
-/
import Derived.Test.YtnkdkbchendpmaaDoorShelf
import Derived.Test.YtnkdkbchendpmaaDoorAb
import Derived.Lib.BufferAt
import Derived.Lib.Hide
import Derived.Lib.Strings
import Derived.Shelf.Bytes.StringAt
import Derived.BigCall
namespace Go.Proofs.YtnkdkbchendpmaaDoor
open Go.RowKit
set_option linter.unusedVariables false

/-- Seven bits a byte, the lowest first, 128 more in all but the last one. -/
def numB (n : Nat) : List UInt8 := if h : n < 128 then [n.toUInt8] else (n % 128 + 128).toUInt8 :: numB (n / 128)
termination_by n
decreasing_by omega
theorem numB_small {n : Nat} (h : n < 128) : numB n = [n.toUInt8] := by rw [numB, dif_pos h]
theorem numB_big {n : Nat} (h : ¬ n < 128) : numB n = (n % 128 + 128).toUInt8 :: numB (n / 128) := by rw [numB, dif_neg h]
theorem numB_len (n k : Nat) (h : n < 128 ^ (k + 1)) : 1 ≤ (numB n).length ∧ (numB n).length ≤ k + 1 := by
  induction k generalizing n with
  | zero => rw [numB_small (by simpa using h)]; simp
  | succ k ih =>
    by_cases hn : n < 128
    · rw [numB_small hn]; simp
    · rw [numB_big hn]
      have := ih (n / 128) (by rw [Nat.pow_succ] at h; exact Nat.div_lt_of_lt_mul (by omega))
      simp; omega

theorem cells_snoc (l : List UInt8) {a : Nat} (h : a < 256) : Lib.byteCells (l ++ [a.toUInt8]) = Lib.byteCells l ++ [Value.int .u8 (a : Int)] := by
  rw [Lib.byteCells_append]
  simp only [Lib.byteCells, List.map_cons, List.map_nil]
  rw [show (a.toUInt8).toNat = a by simp; omega]

/-- A recWriter in block b that holds the bytes l. -/
def WrAt (B b : Nat) (l : List UInt8) (w : World) : Prop := LibA.IsBuffer 58 (fun _ => none) 5 B b 0 (Lib.byteCells l) w

theorem WrAt.wb {B b : Nat} {l : List UInt8} {w : World} (h : WrAt B b l w) (hB : B ≤ w.heap.size) (hl : l.length ≤ 1000000) (c : Int) (c0 : 0 ≤ c) (c1 : c < 256) :
    Calls Tryd.prog 38 #[.pointer (some ⟨b, 0, none⟩), .int .u8 c] w fun e w' => e = .returned .nilIface ∧ WrAt B b (l ++ [c.toNat.toUInt8]) w' ∧ Below B w w' ∧ Lib.OthersKept 5 (some b) w w' := by
  refine (Tryd.Buffer_WriteByte_at 58 _ B b 0 _ c w h hB (Lib.byteCells_one _) (by rw [Lib.byteCells_length]; omega)).mono ?_
  rintro e w' ⟨rfl, h1, b1, k1⟩
  refine ⟨rfl, ?_, b1, k1⟩
  obtain ⟨m, rfl⟩ := Int.eq_ofNat_of_zero_le c0
  unfold WrAt
  rw [Int.toNat_natCast, cells_snoc l (by omega)]
  exact h1

theorem num_room (l l' : List UInt8) (m n : Nat) (h : l' ++ numB m = l ++ numB n) (hl : l.length ≤ 900000) (hn : n < 9223372036854775808) : l'.length ≤ 1000000 := by
  have e := congrArg List.length h
  have := numB_len n 8 (by omega)
  simp only [List.length_append] at e
  omega

set_option maxHeartbeats 1000000 in
theorem num_any (B b : Nat) (l : List UInt8) (n : Nat) (w : World) (h : WrAt B b l w) (hB : B ≤ w.heap.size) (hl : l.length ≤ 900000) (hn : n < 9223372036854775808) :
    Calls Tryd.prog 46 #[.pointer (some ⟨b, 0, none⟩), .int .i64 n] w fun e w' => e = .returned (.tuple #[]) ∧ WrAt B b (l ++ numB n) w' ∧ Below B w w' ∧ Lib.OthersKept 5 (some b) w w' := by
  have HW : Hid (WrAt B b l w) := h
  clear h
  go_enter Tryd.func46, Tryd.ntmps46
  go_wp2
  go_loopw [1] (fun i wr => ∃ (m : Nat) (l' : List UInt8), i = .int .i64 m ∧ m < 9223372036854775808 ∧ Hid (WrAt B b l' wr) ∧ Hid (l' ++ numB m = l ++ numB n) ∧ Hid (Below B w wr) ∧ Hid (Lib.OthersKept 5 (some b) w wr)) (fun i _ => (intOf i).toNat)
  case atStart => exact ⟨n, l, rfl, hn, HW, rfl, Below.refl _ _, Lib.OthersKept.refl _ _ _⟩
  case round =>
    obtain ⟨m, l', rfl, hm, H1, H2, H3, H4⟩ := hrel
    have hm0 : (0 : Int) ≤ (m : Int) := by omega
    by_cases h1 : m < 128
    · have h1' : decide ((128 : Int) ≤ (m : Int)) = false := by simp; omega
      have HL := num_room l l' m n H2.out hl hn
      have hB2 : B ≤ wr.heap.size := Nat.le_trans hB H3.out.size
      have E : Hid (l ++ numB n = l' ++ [((m : Int)).toNat.toUInt8]) := by show _ = _; rw [← H2.out, numB_small h1, Int.toNat_natCast]
      go_wp2_with fail
      refine (H1.out.wb hB2 HL (m : Int) hm0 (by omega)).mono ?_
      rintro e w2 ⟨rfl, h2, b2, k2⟩
      have F : Hid (WrAt B b (l ++ numB n) w2 ∧ Below B w w2 ∧ Lib.OthersKept 5 (some b) w w2) := ⟨by rw [E.out]; exact h2, H3.out.trans b2, H4.out.trans k2⟩
      clear h2 b2 k2
      go_wp2
      first | go_end0 | go_ret | go_ret2
      exact ⟨rfl, F.out⟩
    · have h1' : (128 : Int) ≤ (m : Int) := by omega
      have HL := num_room l l' m n H2.out hl hn
      have hB2 : B ≤ wr.heap.size := Nat.le_trans hB H3.out.size
      have E : Hid ((l' ++ [((m : Int) % 128 + 128).toNat.toUInt8]) ++ numB (m / 128) = l ++ numB n) := by
        show _ = _
        rw [← H2.out, numB_big h1, List.append_assoc, show ((m : Int) % 128 + 128).toNat = m % 128 + 128 by omega]; rfl
      have hq : Hid ((m : Int) / 128 = ((m / 128 : Nat) : Int)) := by show (m : Int) / 128 = _; omega
      go_wp2_with fail
      refine (H1.out.wb hB2 HL ((m : Int) % 128 + 128) (by omega) (by omega)).mono ?_
      rintro e w2 ⟨rfl, h2, b2, k2⟩
      have F : Hid (WrAt B b (l' ++ [((m : Int) % 128 + 128).toNat.toUInt8]) w2) := h2
      have F3 : Hid (Below B w w2) := H3.out.trans b2
      have F4 : Hid (Lib.OthersKept 5 (some b) w w2) := H4.out.trans k2
      clear h2 b2 k2
      go_wp2
      go_roundw
      case rel => exact ⟨m / 128, _, by rw [hq.out], by omega, F, E, F3, F4⟩
      case measure => simp [intOf]; omega

end Go.Proofs.YtnkdkbchendpmaaDoor
