/-
  NUMBERS AS BYTES, ON BOTH SIDES.
-/
import Derived.Test.YtnkdkbchendpmaaDoorNa
import Derived.Deep.AppendLies
import Derived.Laws.IdiomStrings
namespace Go.Proofs.YtnkdkbchendpmaaDoor
open Go.RowKit
set_option linter.unusedVariables false

def numT (n : Int) : List UInt8 := if n < 0 then [] else numB n.toNat
theorem wr_new (w : World) : WrAt w.heap.size w.heap.size [] (w.alloc (.cells #[.slice none 0 0, .int .i64 0, .int .i8 0] 58)) :=
  LibA.zero_isBuffer (lr := 0) (Nat.le_refl _) (LibA.three_whole (by show (w.heap.push _)[w.heap.size]? = _; simp))

set_option maxHeartbeats 1000000 in
theorem inb_any (n : Int) (hn : n < 9223372036854775808) (w : World) :
    Calls Tryd.prog 18 #[.int .i64 n] w fun e w' => e = .returned (.string ⟨(numT n).toArray⟩) ∧ Below w.heap.size w w' := by
  by_cases h : n < 0
  · rw [show numT n = [] by simp [numT, h]]
    go_enter Tryd.func18, Tryd.ntmps18
    go_wp2
    go_ret
    exact ⟨rfl, Below.refl _ _⟩
  · obtain ⟨m, rfl⟩ := Int.eq_ofNat_of_zero_le (Int.not_lt.1 h)
    rw [show numT (m : Int) = numB m by rw [numT, if_neg h, Int.toNat_natCast]]
    have K : Hid (∀ w B b, WrAt B b [] w → B ≤ w.heap.size → Calls Tryd.prog 46 #[.pointer (some ⟨b, 0, none⟩), .int .i64 m] w fun e w' => e = .returned (.tuple #[]) ∧ WrAt B b (numB m) w' ∧ Below B w w' ∧ Lib.OthersKept 5 (some b) w w') :=
      fun w B b h hB => num_any B b [] m w h hB (by simp) (by omega)
    have N : Hid (WrAt w.heap.size w.heap.size [] (w.alloc (.cells #[.slice none 0 0, .int .i64 0, .int .i8 0] 58))) := wr_new w
    go_enter Tryd.func18, Tryd.ntmps18
    go_wp2_with fail
    refine (K.out _ _ _ N.out (by simp)).mono ?_
    rintro e w1 ⟨rfl, h1, b1, k1⟩
    have F : Hid (WrAt w.heap.size w.heap.size (numB m) w1) := h1
    have B1 : Hid (Below w.heap.size w w1) := (bA0 _ _).trans b1
    clear h1 b1 k1 K N
    go_wp2_with fail
    refine (Tryd.Buffer_String_at 58 _ _ _ 0 (numB m) w1 F.out).mono ?_
    rintro e w2 ⟨rfl, k, rfl⟩
    go_wp2
    go_ret
    exact ⟨rfl, below_drewN B1.out _⟩

theorem info5' : (Tryd.prog.info? 5).map (fun i => (i.zero, i.size, i.bytes)) = some (some (.int .u8 0), 1, 1) := by kernel_rfl

set_option maxHeartbeats 1000000 in
theorem snb_any (n : Int) (hn : n < 9223372036854775808) (w : World) :
    Calls Tryd.prog 17 #[.int .i64 n] w fun e w' => e = .returned (.string ⟨(numT n).toArray⟩) ∧ Below w.heap.size w w' := by
  by_cases h : n < 0
  · rw [show numT n = [] by simp [numT, h]]
    go_enter Tryd.func17, Tryd.ntmps17
    go_wp2
    go_ret
    exact ⟨rfl, bA0 _ _⟩
  · obtain ⟨m0, rfl⟩ := Int.eq_ofNat_of_zero_le (Int.not_lt.1 h)
    rw [show numT (m0 : Int) = numB m0 by rw [numT, if_neg h, Int.toNat_natCast]]
    obtain ⟨i0, hi, hz0, hz1, hz2⟩ := info_parts info5'
    go_enter Tryd.func17, Tryd.ntmps17
    go_wp2
    go_loopw [0, 3] (fun i s wr => ∃ (m : Nat) (l' : List UInt8), i = .int .i64 m ∧ m < 9223372036854775808 ∧ Hid (l' ++ numB m = [] ++ numB m0) ∧ Hid (Below w.heap.size w wr) ∧ wr.ownsRow w.heap.size 5 1 s l'.length (Lib.byteCells l') ∧ w.heap.size < wr.heap.size) (fun i _ _ => (intOf i).toNat)
    case atStart => exact ⟨m0, [], rfl, by omega, rfl, bA0 _ _, World.ownsRow_lit w #[] 0 (Nat.le_refl _) (Nat.zero_le _) rfl, by simp⟩
    case round =>
      obtain ⟨m, l', rfl, hm, H2, H3, hown, hsz⟩ := hrel
      have hm0 : (0 : Int) ≤ (m : Int) := by omega
      have HL := num_room [] l' m m0 H2.out (by simp) (by omega)
      by_cases h1 : m < 128
      · have h1' : decide ((128 : Int) ≤ (m : Int)) = false := by simp; omega
        have E : Hid (numB m0 = l' ++ [m.toUInt8]) := by
          show _ = _
          have e := H2.out; rw [numB_small h1] at e; simpa using e.symm
        have EC : Hid (Lib.byteCells l' ++ [Value.int .u8 (m : Int)] = Lib.byteCells (numB m0)) := by show _ = _; rw [E.out, cells_snoc l' (by omega)]
        have EL : Hid ((numB m0).length = l'.length + 1) := by show _ = _; rw [E.out]; simp
        generalize l'.length = k at *
        go_wp2_with (first | (at_builtin; refine wpList_append_lies _ rfl (.tmp 18) (.tmp 21) 22 rfl w.heap.size 5 i0 (.int .u8 0) 1 1 Tryd.underlying22 hi hz0 hz1 hz2 rfl (by decide) _ _ _ rfl (hown.alloc _) ⟨wr.heap.size, 0, none⟩ 1 1 [.int .u8 (m : Int)] rfl rfl (cell_one_new _ _ _) (by intro u hu; simp at hu; subst hu; rfl) (by decide) (by unfold maxLen; omega) (by omega) (by simp; omega) (wr.heap.size + 1) (by simp) ?_))
        · intro g cap w3 hown3 hgrow hg3 hlt3
          have B3 : Hid (Below w.heap.size w w3) := H3.out.alloc (Nat.le_of_lt hsz) _ |>.grown hgrow (by simp; omega) (fun j hj => (hown.lt j hj).1)
          rw [EC.out] at hown3
          have hcv := run_convert_bytes_back (P := Tryd.prog) w3 22 9 5 ⟨g, 0, none⟩ cap (numB m0) Tryd.underlying22 Tryd.underlying5 Tryd.underlying9 (fun j hj => hown3.cells (g := g) rfl j _ (by simp [Lib.byteCells, hj]))
          rw [EL.out] at hcv
          clear hown3 hgrow hg3 hlt3 hown EC E H2
          go_wp2
          go_ret
          exact ⟨rfl, B3.out⟩
      · have h1' : (128 : Int) ≤ (m : Int) := by omega
        have E : Hid ((l' ++ [(m % 128 + 128).toUInt8]) ++ numB (m / 128) = [] ++ numB m0) := by
          show _ = _
          rw [← H2.out, numB_big h1, List.append_assoc]; rfl
        have EC : Hid (Lib.byteCells l' ++ [Value.int .u8 ((m : Int) % 128 + 128)] = Lib.byteCells (l' ++ [(m % 128 + 128).toUInt8])) := by
          show _ = _
          rw [cells_snoc l' (by omega)]; rfl
        have EL : Hid ((l' ++ [(m % 128 + 128).toUInt8]).length = l'.length + 1) := by show _ = _; simp
        have hq : Hid ((m : Int) / 128 = ((m / 128 : Nat) : Int)) := by show (m : Int) / 128 = _; omega
        generalize hk : l'.length = k at *
        go_wp2_with (first | (at_builtin; refine wpList_append_lies _ rfl (.tmp 9) (.tmp 14) 22 rfl w.heap.size 5 i0 (.int .u8 0) 1 1 Tryd.underlying22 hi hz0 hz1 hz2 rfl (by decide) _ _ _ rfl (hown.alloc _) ⟨wr.heap.size, 0, none⟩ 1 1 [.int .u8 ((m : Int) % 128 + 128)] rfl rfl (cell_one_new _ _ _) (by intro u hu; simp at hu; subst hu; rfl) (by decide) (by unfold maxLen; omega) (by omega) (by simp; omega) (wr.heap.size + 1) (by simp) ?_))
        · intro g cap w3 hown3 hgrow hg3 hlt3
          have B3 : Hid (Below w.heap.size w w3) := H3.out.alloc (Nat.le_of_lt hsz) _ |>.grown hgrow (by simp; omega) (fun j hj => (hown.lt j hj).1)
          rw [EC.out] at hown3
          have O3 : Hid (w3.ownsRow w.heap.size 5 1 (.slice (some ⟨g, 0, none⟩) (k + 1) cap) (l' ++ [(m % 128 + 128).toUInt8]).length (Lib.byteCells (l' ++ [(m % 128 + 128).toUInt8]))) := by
            have e := EL.out; show World.ownsRow _ _ _ _ _ _ _; rw [e]; exact hown3
          have Z3 : w.heap.size < w3.heap.size := by have := hgrow.size; simp at this; omega
          clear hown3 hgrow hg3 hlt3 hown
          go_wp2
          go_roundw
          case rel => exact ⟨m / 128, _, by rw [hq.out], by omega, E, B3, O3.out, Z3⟩
          case measure => simp [intOf]; omega

end Go.Proofs.YtnkdkbchendpmaaDoor
