/-
  THE LAW 8 (FnExactLemmasText): the walk.
-/
import Derived.Test.YtcnpdjjfcfkcfaaDoorBh
namespace Go.Proofs.YtcnpdjjfcfkcfaaDoor
open Go.RowKit
set_option linter.unusedVariables false

set_option maxRecDepth 100000 in
set_option maxHeartbeats 2000000 in
theorem law8 (sl : Option Addr) (cap : Nat) (cs : List LCl) (w : World) (hl : cs.length ≤ maxLen) (hz : Cls w sl cs) (hw : WfL (bareC cs)) (ht : PowTab w) :
    Calls Tryd.prog 8 #[.slice sl cs.length cap] w fun e w' => e = .returned (.bool true) ∧ Below w.heap.size w w' := by
  have SZ := Lib.hid (szL_any sl cap cs 1048576 w hl (by omega) (by omega) hz)
  rcases lft_cases 1048576 (cs.length + totC cs) (by omega) with ⟨e, hle⟩ | ⟨e, hle⟩
  · rw [e] at SZ
    clear hz hw ht e hle
    generalize cs.length = n at *
    go_enter Tryd.func8, Tryd.ntmps8
    go_wp2_with fail
    refine SZ.out.mono ?_
    rintro e w1 ⟨rfl, b1⟩
    have D1 := Lib.hid b1
    clear b1
    go_wp2
    go_ret
    exact ⟨rfl, D1.out⟩
  · rw [e] at SZ
    have TO : Hid (∀ W, Below w.heap.size w W → Calls Tryd.prog 38 #[.slice sl cs.length cap] W fun e w' => ∃ cs' : List LCl, e = .returned (.slice (some ⟨W.heap.size, 0, none⟩) cs.length cs.length) ∧ bareC cs' = bareC cs ∧ Cls w' (some ⟨W.heap.size, 0, none⟩) cs' ∧ Below W.heap.size W w') := fun W hW => by
      refine (toL_any sl cap cs W (by omega) (by omega) (hz.below hW)).mono ?_
      rintro e w' ⟨cs', rfl, hb, rv, co, bl⟩
      exact ⟨cs', rfl, hb, RowV.cls rv co, bl⟩
    have SP : Hid (∀ b cs' W, bareC cs' = bareC cs → Cls W (some ⟨b, 0, none⟩) cs' → Calls Tryd.prog 11 #[.slice (some ⟨b, 0, none⟩) cs.length cs.length] W fun e w' => e = .returned (.string ⟨(lemT (bareC cs)).toArray⟩) ∧ Below W.heap.size W w') := fun b cs' W hb hc => by
      have hln := bareC_len hb
      have := slt_any (some ⟨b, 0, none⟩) cs.length cs' W (by omega) hc
      rwa [hln, hb] at this
    have IM : Hid (∀ b cs' W, Below w.heap.size w W → bareC cs' = bareC cs → Cls W (some ⟨b, 0, none⟩) cs' → Calls Tryd.prog 12 #[.slice (some ⟨b, 0, none⟩) cs.length cs.length] W fun e w' => e = .returned (.string ⟨(lemT (bareC cs)).toArray⟩) ∧ Below W.heap.size W w') := fun b cs' W hW hb hc => by
      have hln : (bareC cs).length = cs.length := by simp [bareC]
      have hr := hc.rowC
      rw [hb] at hr
      have := ilt_any (some ⟨b, 0, none⟩) cs.length (bareC cs) W (by omega) hw hr (ht.below hW)
      rwa [hln] at this
    have EQ : Hid (∀ b c cs1 cs2 W, bareC cs1 = bareC cs → bareC cs2 = bareC cs → Cls W (some ⟨b, 0, none⟩) cs1 → Cls W (some ⟨c, 0, none⟩) cs2 → Calls Tryd.prog 39 #[.slice (some ⟨b, 0, none⟩) cs.length cs.length, .slice (some ⟨c, 0, none⟩) cs.length cs.length] W fun e w' => e = .returned (.bool true) ∧ Below W.heap.size W w') := fun b c cs1 cs2 W e1 e2 h1 h2 => by
      have := eqL_any (some ⟨b, 0, none⟩) (some ⟨c, 0, none⟩) cs.length cs.length cs1 cs2 W (by rw [bareC_len e1]; omega) (e1.trans e2.symm) h1 h2
      rwa [bareC_len e1, bareC_len e2] at this
    have hneg : ¬ ((1048576 : Int) - ((cs.length + totC cs : Nat) : Int)) < 0 := by omega
    clear hz hw ht e hle
    generalize (1048576 : Int) - ((cs.length + totC cs : Nat) : Int) = z at *
    generalize (⟨(lemT (bareC cs)).toArray⟩ : ByteArray) = tx at *
    generalize cs.length = n at *
    generalize bareC cs = css at *
    have hne : (!(tx.toList == tx.toList)) = false := by simp
    go_enter Tryd.func8, Tryd.ntmps8
    go_wp2_with fail
    refine SZ.out.mono ?_
    rintro e w1 ⟨rfl, b1⟩
    have D1 := Lib.hid b1
    clear b1 SZ
    go_wp2_with fail
    refine (TO.out _ D1.out).mono ?_
    rintro e w2 ⟨cs1, rfl, e1, c1, b2⟩
    have D2 := Lib.hid (bT D1.out b2)
    have E2 := Lib.hid (SP.out _ cs1 w2 e1 c1)
    clear e1 c1 b2
    go_wp2_with fail
    refine E2.out.mono ?_
    rintro e w3 ⟨rfl, b3⟩
    have D3 := Lib.hid (bT D2.out b3)
    clear b3 E2
    go_wp2_with fail
    refine (TO.out _ D3.out).mono ?_
    rintro e w4 ⟨cs2, rfl, e2, c2, b4⟩
    have D4 := Lib.hid (bT D3.out b4)
    have E4 := Lib.hid (IM.out _ cs2 w4 D4.out e2 c2)
    have BE2 := Lib.hid e2
    have C2 := Lib.hid c2
    clear e2 c2 b4
    go_wp2_with fail
    refine E4.out.mono ?_
    rintro e w5 ⟨rfl, b5⟩
    have D5 := Lib.hid (bT D4.out b5)
    have C5 := Lib.hid (C2.out.below b5)
    clear b5 E4 C2
    go_wp2_with fail
    refine (TO.out _ D5.out).mono ?_
    rintro e w6 ⟨cs3, rfl, e3, c3, b6⟩
    have D6 := Lib.hid (bT D5.out b6)
    have E6 := Lib.hid (EQ.out _ _ cs2 cs3 w6 BE2.out e3 (C5.out.below b6) c3)
    clear e3 c3 b6
    go_wp2_with fail
    refine E6.out.mono ?_
    rintro e w7 ⟨rfl, b7⟩
    have D7 := Lib.hid (bT D6.out b7)
    clear b7 E6
    go_wp2
    go_ret
    exact ⟨rfl, D7.out⟩
end Go.Proofs.YtcnpdjjfcfkcfaaDoor
