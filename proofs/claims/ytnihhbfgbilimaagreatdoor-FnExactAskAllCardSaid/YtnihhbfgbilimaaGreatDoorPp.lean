/-
  THE FIRST MARK: math/bits.TrailingZeros64, marks.first.
-/
import Derived.Test.YtnihhbfgbilimaaGreatDoorPm
import Derived.Deep.LoopGhost
import Derived.Shelf.Spec.TrailingZeros
namespace Go.Proofs.YtnihhbfgbilimaaGreatDoor
open Go.RowKit
set_option linter.unusedVariables false
set_option linter.unusedSimpArgs false

/-- The library's table in its variable. -/
def TabB (w : World) : Prop := ∀ j, j < Lib.deBruijn64tab.length → w.cell? ⟨0, j, none⟩ = some (.int .u8 (Lib.deBruijn64tab.getD j 0))

set_option maxRecDepth 100000 in
set_option maxHeartbeats 1000000 in
theorem tz_core (x k idx : Nat) (w : World) (hx0 : ((x : Int) == 0) = false)
    (key : IntKind.u64.wrap (bits BinOp.and IntKind.u64 (x : Int) (IntKind.u64.wrap (-(x : Int))) * 285870213051353865) / 288230376151711744 = (idx : Int))
    (hi : idx < 64) (hk : k < 64) (hcell : w.cell? ⟨0, idx, none⟩ = some (.int .u8 k)) :
    Calls Tryz.prog 254 #[.int .u64 x] w fun e w' => e = .returned (.int .i64 k) ∧ w' = w := by
  go_enter Tryz.func254, Tryz.ntmps254
  go_wp2_with (simp only [key])
  go_ret
  exact ⟨rfl, rfl⟩
/-- math/bits.TrailingZeros64, of a word that is not zero. -/
theorem tz_any (x : BitVec 64) (hx : x ≠ 0#64) (w : World) (hT : TabB w) :
    Calls Tryz.prog 254 #[.int .u64 (x.toNat : Int)] w fun e w' => e = .returned (.int .i64 (Lib.ctz 64 x.toNat : Nat)) ∧ w' = w := by
  have h0 : x.toNat ≠ 0 := fun e => hx (BitVec.eq_of_toNat_eq (by simpa using e))
  obtain ⟨hlow, hk⟩ := Lib.lowest_bit 64 x.toNat h0 x.isLt
  obtain ⟨hi, htab⟩ := Lib.deBruijn64_at _ hk
  have hcell := hT _ hi
  rw [htab] at hcell
  exact tz_core x.toNat _ _ w (by simp; omega) (Go.Proofs.tz64_key x.toNat _ x.isLt h0 hlow) hi hk hcell

/-- What first answers. -/
def FsP (ws : List (BitVec 64)) (w : World) (e : Ending) (w' : World) : Prop := ((∃ q : Nat, e = .returned (.int .i64 (q : Int)) ∧ q < 64 * ws.length ∧ bitM ws q = true ∧ ∀ r, r < q → bitM ws r = false) ∨ (e = .returned (.int .i64 (-1)) ∧ ∀ r, bitM ws r = false)) ∧ w' = w

set_option maxRecDepth 100000 in
set_option maxHeartbeats 1000000 in
/-- marks.first. -/
theorem first_any (c m : Nat) (ws : List (BitVec 64)) (w : World) (hW : WAt w c ws) (hm : ws.length = m) (hm2 : m ≤ 100000) (hT : TabB w) :
    Calls Tryz.prog 238 #[.slice (some ⟨c, 0, none⟩) m m] w (FsP ws w) := by
  have HW := Lib.hid hW
  have HM := Lib.hid hm
  have HT := Lib.hid hT
  have hlt := hW.lt
  clear hW hm hT
  go_enter Tryz.func238, Tryz.ntmps238
  go_wp2
  go_loopw [7] (fun a wr => ∃ (k : Nat) (y : Int), a = .int .i64 y ∧ Hid (y = (k : Int) ∧ k ≤ m ∧ ∀ j, j < k → ws.getD j 0#64 = 0#64) ∧ Hid (wr = w)) (fun a _ => ((m : Int) - intOf a).toNat)
  case atStart =>
    exact ⟨0, 0, rfl, ⟨rfl, Nat.zero_le _, fun j hj => absurd hj (Nat.not_lt_zero _)⟩, rfl⟩
  case round =>
    obtain ⟨k, y, rfl, HK, HE⟩ := hrel
    have he := HE.out
    subst he
    by_cases hk : k < m
    · have hlt2 : y < (m : Int) := by have := HK.out.1; omega
      have hy0 : 0 ≤ y := by have := HK.out.1; omega
      have hyk : y.toNat = k := by have := HK.out.1; omega
      have hcell : wr.cell? ⟨c, y.toNat, none⟩ = some (.int .u64 ((ws.getD k 0#64).toNat : Int)) := by rw [hyk]; exact HW.out.cell k (by rw [HM.out]; exact hk)
      have HY : Hid (y = (k : Int)) := HK.out.1
      have HZ : Hid (∀ j, j < k → ws.getD j 0#64 = 0#64) := HK.out.2.2
      generalize hx : ws.getD k 0#64 = x at *
      have HX := Lib.hid hx
      clear hx hyk HK
      by_cases h0 : x = 0#64
      · subst h0
        have REL : Hid (∃ (k2 : Nat) (y2 : Int), Value.int .i64 (y + 1) = .int .i64 y2 ∧ Hid (y2 = (k2 : Int) ∧ k2 ≤ m ∧ ∀ j, j < k2 → ws.getD j 0#64 = 0#64) ∧ Hid True) := ⟨k + 1, y + 1, rfl, ⟨by have := HY.out; omega, by omega, fun j hj => by
          by_cases e : j = k
          · rw [e]; exact HX.out
          · exact HZ.out j (by omega)⟩, trivial⟩
        have MES : Hid (((m : Int) - (y + 1)).toNat < ((m : Int) - y).toNat) := by show _ < _; omega
        have hwy : wrap64 (y + 1) = y + 1 := wrap_in _ ⟨by omega, by omega⟩
        have hc0 : wr.cell? ⟨c, y.toNat, none⟩ = some (.int .u64 0) := hcell
        clear hcell HX HZ
        go_wp2
        try rw [hwy]
        exact ⟨REL.out, MES.out⟩
      · have hn0 : x.toNat ≠ 0 := fun e => h0 (BitVec.eq_of_toNat_eq (by simpa using e))
        have hne : (((x.toNat : Nat) : Int) == 0) = false := beq_eq_false_iff_ne.2 (by omega)
        have TZ := Lib.hid (tz_any x h0 wr HT.out)
        obtain ⟨f1, f2, f3⟩ := word_first h0
        have hkl : k < ws.length := by rw [HM.out]; exact hk
        have hxe : ws[k] = x := by rw [← HX.out]; simp [List.getD_eq_getElem?_getD, hkl]
        have BF := bitM_first (ws := ws) (i := k) (k := Lib.ctz 64 x.toNat) hkl (fun j hj hjk => by have := HZ.out j hjk; simpa [List.getD_eq_getElem?_getD, hj] using this) f1 (by rw [hxe]; exact f2) (fun j hj => by rw [hxe]; exact f3 j hj)
        generalize Lib.ctz 64 x.toNat = z at *
        have PF : Hid (FsP ws wr (.returned (.int .i64 (64 * y + (z : Int)))) wr) := ⟨.inl ⟨64 * k + z, by rw [HY.out]; simp, by omega, BF.1, BF.2⟩, rfl⟩
        have hw1 : wrap64 (64 * y) = 64 * y := wrap_in _ ⟨by omega, by omega⟩
        have hw2 : wrap64 (64 * y + (z : Int)) = 64 * y + (z : Int) := wrap_in _ ⟨by omega, by omega⟩
        clear BF f2 f3 HX HZ hxe hkl hn0 h0
        generalize x.toNat = xn at *
        go_wp2_with fail
        refine TZ.out.mono ?_
        rintro e w1 ⟨rfl, rfl⟩
        go_wp2
        go_ret
        exact PF.out
    · have hlt2 : ¬ y < (m : Int) := by have := HK.out.1; omega
      have PF : Hid (FsP ws wr (.returned (.int .i64 (-1))) wr) := ⟨.inr ⟨rfl, fun r => bitM_none (fun v hv => by
        obtain ⟨j, hj, rfl⟩ := List.getElem_of_mem hv
        have := HK.out.2.2 j (by have := HM.out; have := HK.out.2.1; omega)
        simpa [List.getD_eq_getElem?_getD, hj] using this) r⟩, rfl⟩
      go_wp2
      go_ret
      exact PF.out

end Go.Proofs.YtnihhbfgbilimaaGreatDoor
