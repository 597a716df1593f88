/-
  THE LAW FnExactDeskWords: its walk.
-/
import Derived.Test.YtebmhpgaahhlpaaGreatDoorMd
namespace Go.Proofs.YtebmhpgaahhlpaaGreatDoor
open Go.RowKit
set_option linter.unusedVariables false
set_option linter.unusedSimpArgs false

def deskB : List ByteArray := deskW.map fun x => ⟨x.toArray⟩
theorem deskB_len : deskB.length = 17 := rfl
theorem deskB_enc : deskB.map Value.string = deskW.map encStr := rfl
theorem OwnS.blk {w : World} {B : Nat} {v : Value} {ss : List ByteArray} (h : OwnS w B v ss) : ∀ k, v.ownBlock = some k → B ≤ k ∧ k < w.heap.size := fun k hk => World.ownsRow.lt h k hk

set_option maxRecDepth 100000 in
set_option maxHeartbeats 1000000 in
/-- spec.DeskWords. -/
theorem sdw_any (w : World) : Calls Tryz.prog 4 #[] w fun e w' => ∃ v, e = .returned v ∧ OwnS w' w.heap.size v deskB ∧ Below w.heap.size w w' := by
  have hR : RowAt (w.alloc (.cells (deskB.map Value.string).toArray 9)) w.heap.size (vsOf deskB deskB.length) := by
    show (w.heap.push _)[w.heap.size]? = _
    have e : vsOf deskB deskB.length = (deskB.map Value.string).toArray := by simp [vsOf]
    rw [e]
    simp
  have HO := Lib.hid (OwnS.row hR (Nat.le_refl _) (by rw [deskB_len]; unfold maxLen; omega))
  have HB := Lib.hid (bA0 w (.cells (deskB.map Value.string).toArray 9))
  clear hR
  go_enter Tryz.func4, Tryz.ntmps4
  go_wp2
  go_ret
  exact ⟨_, rfl, HO.out, HB.out⟩
/-- impl.DeskWords. -/
theorem idw_own (w : World) : Calls Tryz.prog 5 #[] w fun e w' => ∃ v, e = .returned v ∧ OwnS w' w.heap.size v deskB ∧ Below w.heap.size w w' := by
  refine (idw_any w).mono ?_
  rintro e w' ⟨v, rfl, h, hb⟩
  refine ⟨v, rfl, ?_, hb⟩
  unfold OwnS
  rw [deskB_len, deskB_enc]
  exact h
theorem eqO_any (B1 B2 : Nat) (v1 v2 : Value) (ss : List ByteArray) (w : World) (hn : ss.length ≤ maxLen) (h1 : OwnS w B1 v1 ss) (h2 : OwnS w B2 v2 ss) :
    Calls Tryz.prog 6 #[v1, v2] w fun e w' => e = .returned (.bool true) ∧ Below w.heap.size w w' := by
  obtain ⟨sl1, c1, rfl, s1⟩ := h1.strs
  obtain ⟨sl2, c2, rfl, s2⟩ := h2.strs
  exact eq_any sl1 sl2 c1 c2 ss w hn s1 s2

set_option maxRecDepth 100000 in
set_option maxHeartbeats 1000000 in
theorem law3_of (w : World) : Calls Tryz.prog 3 #[] w fun e w' => e = .returned (.bool true) ∧ Below w.heap.size w w' := by
  have hN : deskB.length ≤ maxLen := by rw [deskB_len]; unfold maxLen; omega
  have HN := Lib.hid hN
  clear hN
  have T := Lib.hid True.intro
  go_enter Tryz.func3, Tryz.ntmps3
  go_wp2_with fail
  refine (sdw_any _).mono ?_
  rintro e w1 ⟨v1, rfl, o1, b1⟩
  have O1 := Lib.hid o1
  have B1 := Lib.hid b1
  clear o1 b1
  go_wp2_with fail
  refine (idw_own _).mono ?_
  rintro e w2 ⟨v2, rfl, o2, b2⟩
  have O2 := Lib.hid o2
  have B2 := Lib.hid (bT B1.out b2)
  have P1 := Lib.hid (O1.out.below b2)
  have L1 := Lib.hid O1.out.blk
  have L12 := Lib.hid B1.out.size
  clear o2 b2 O1
  go_wp2_with fail
  refine (eqO_any _ _ _ _ _ _ HN.out O2.out P1.out).mono ?_
  rintro e w3 ⟨rfl, b3⟩
  have O3 := Lib.hid (O2.out.below b3)
  have P3 := Lib.hid (P1.out.below b3)
  have B3 := Lib.hid (bT B2.out b3)
  clear b3 O2 P1 B2
  go_wp2_with fail
  refine (markS_any _ _ _ _ (by rw [deskB_len]; omega) O3.out).mono ?_
  rintro e w4 ⟨rfl, o4, g4⟩
  have P4 := Lib.hid (P3.out.grown g4 (fun k hk e => by have h1 := (L1.out k e).2; have h2 := (O3.out.blk k hk).1; omega))
  have B4 := Lib.hid (B3.out.grown g4 B3.out.size (fun k hk => by have h2 := (O3.out.blk k hk).1; have := L12.out; omega))
  have O4 := Lib.hid o4
  clear o4 g4 P3 B3 O3
  go_wp2_with fail
  refine (heldS_any _ _ _ _ (by rw [deskB_len]; omega) O4.out).mono ?_
  rintro e w5 ⟨rfl, b5⟩
  have O5 := Lib.hid (O4.out.below b5)
  have P5 := Lib.hid (P4.out.below b5)
  have B5 := Lib.hid (bT B4.out b5)
  clear b5 O4 P4 B4
  rw [deskB_len]
  go_wp2_with fail
  refine (idw_own _).mono ?_
  rintro e w6 ⟨v6, rfl, o6, b6⟩
  have O6 := Lib.hid o6
  have Q6 := Lib.hid (O5.out.below b6)
  have P6 := Lib.hid (P5.out.below b6)
  have B6 := Lib.hid (bT B5.out b6)
  clear o6 b6 O5 P5 B5
  go_wp2_with fail
  refine (eqO_any _ _ _ _ _ _ HN.out O6.out P6.out).mono ?_
  rintro e w7 ⟨rfl, b7⟩
  have Q7 := Lib.hid (Q6.out.below b7)
  have B7 := Lib.hid (bT B6.out b7)
  clear b7 O6 P6 Q6 B6
  go_wp2_with fail
  refine (heldS_any _ _ _ _ (by rw [deskB_len]; omega) Q7.out).mono ?_
  rintro e w8 ⟨rfl, b8⟩
  have B8 := Lib.hid (bT B7.out b8)
  clear b8 Q7 B7
  go_wp2_with fail
  go_ret
  exact ⟨rfl, B8.out⟩

end Go.Proofs.YtebmhpgaahhlpaaGreatDoor
