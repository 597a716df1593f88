/-
  THE LAW FnExactPlanText: the walk.
-/
import Derived.Test.YtllaiigjkchahaaDoorRb
namespace Go.Proofs.YtllaiigjkchahaaDoor
open Go.RowKit
set_option linter.unusedVariables false

set_option maxRecDepth 100000 in
set_option maxHeartbeats 2000000 in
theorem law3 (sl : Option Addr) (cap : Nat) (pl : List LPl) (w : World) (hl : pl.length ≤ maxLen) (hw : WfPs pl) (h : Pls w sl pl) (ht : PowTab w) :
    Calls Tryd.prog 3 #[.slice sl pl.length cap] w fun e w' => e = .returned (.bool true) ∧ Below w.heap.size w w' := by
  have SZ := Lib.hid (szPl_any sl pl.length cap 1048576 w hl (by omega) (by omega))
  rcases lft_cases 1048576 pl.length (by omega) with ⟨e, hl2⟩ | ⟨e, hl2⟩
  · rw [e] at SZ
    clear h e hl2 ht hw
    generalize pl.length = n at *
    go_enter Tryd.func3, Tryd.ntmps3
    go_wp2_with fail
    refine SZ.out.mono ?_
    rintro e w1 ⟨rfl, rfl⟩
    go_wp2
    go_ret
    exact ⟨rfl, Below.refl _ _⟩
  · rw [e] at SZ
    have hn : pl.length ≤ 1048576 := by omega
    have TO : Hid (∀ W, Below w.heap.size w W → Calls Tryd.prog 7 #[.slice sl pl.length cap] W fun e w' => e = .returned (.slice (some ⟨W.heap.size, 0, none⟩) pl.length pl.length) ∧ Row2 w' W.heap.size pl.length pl ∧ Below W.heap.size W w') := fun W hW => toPlS_any sl cap pl W hn (h.below hW)
    have SP : Hid (∀ b W, Row2 W b pl.length pl → Calls Tryd.prog 6 #[.slice (some ⟨b, 0, none⟩) pl.length pl.length] W fun e w' => e = .returned (.string ⟨(plT pl).toArray⟩) ∧ Below W.heap.size W w') := fun b W r => spt_any _ _ pl W hl hw r.pls
    have IM : Hid (∀ b W, Row2 W b pl.length pl → Below w.heap.size w W → Calls Tryd.prog 8 #[.slice (some ⟨b, 0, none⟩) pl.length pl.length] W fun e w' => e = .returned (.string ⟨(plT pl).toArray⟩) ∧ Below W.heap.size W w') := fun b W r hW => ipt_any _ _ pl W hl hw r.pls (ht.below hW)
    have TE : Hid (∀ b c W, Row2 W b pl.length pl → Row2 W c pl.length pl → Calls Tryd.prog 9 #[.slice (some ⟨b, 0, none⟩) pl.length pl.length, .slice (some ⟨c, 0, none⟩) pl.length pl.length] W fun e w' => e = .returned (.bool true) ∧ Below W.heap.size W w') := fun b c W r1 r2 => eqPlS_any _ _ _ _ pl W hn r1.pls r2.pls
    clear h e ht hw
    have hneg : ¬ ((1048576 : Int) - (pl.length : Int)) < 0 := by omega
    clear hl2
    generalize pl.length = n at *
    generalize plT pl = tx at *
    go_enter Tryd.func3, Tryd.ntmps3
    go_wp2_with fail
    refine SZ.out.mono ?_
    rintro e w1 ⟨rfl, rfl⟩
    clear SZ
    go_wp2_with fail
    refine (TO.out _ (Below.refl _ _)).mono ?_
    rintro e w2 ⟨rfl, r2, bl2⟩
    have D2 := Lib.hid bl2
    have T2 := Lib.hid (SP.out _ w2 r2)
    clear bl2 r2
    go_wp2_with fail
    refine T2.out.mono ?_
    rintro e w3 ⟨rfl, bl3⟩
    have D3 := Lib.hid (bT D2.out bl3)
    clear bl3 T2 D2
    go_wp2_with fail
    refine (TO.out _ D3.out).mono ?_
    rintro e w4 ⟨rfl, r4, bl4⟩
    have D4 := Lib.hid (bT D3.out bl4)
    have X4 := Lib.hid r4
    have I6 := Lib.hid (IM.out _ w4 r4 D4.out)
    clear r4 bl4
    go_wp2_with fail
    refine I6.out.mono ?_
    rintro e w6 ⟨rfl, bl6⟩
    have D6 := Lib.hid (bT D4.out bl6)
    have X6 := Lib.hid (X4.out.below bl6)
    clear bl6 I6 D4 X4
    go_wp2_with fail
    refine (TO.out _ D6.out).mono ?_
    rintro e w8 ⟨rfl, r8, bl8⟩
    have D8 := Lib.hid (bT D6.out bl8)
    have X8 := Lib.hid (X6.out.below bl8)
    have T9 := Lib.hid (TE.out _ _ w8 X8.out r8)
    clear bl8 D6 X6 r8
    go_wp2_with fail
    refine T9.out.mono ?_
    rintro e w9 ⟨rfl, bl9⟩
    have D9 := Lib.hid (bT D8.out bl9)
    go_wp2
    go_ret
    exact ⟨rfl, D9.out⟩

end Go.Proofs.YtllaiigjkchahaaDoor
