/-
  THE LAW FnExactTruthOther: the walk.
-/
import Derived.Test.YtnkiaickkbkjnaaOa
namespace Go.Proofs.Ytnkiaickkbkjnaa
open Go.RowKit
set_option linter.unusedVariables false

theorem RowV.vlM {w : World} {b n : Nat} {ts : List LPl} (h : RowV w b n ts) : VlM w b n := by
  obtain ⟨vs, h1, h2, _⟩ := h
  exact ⟨vs, h1, by omega⟩
theorem pls_ofv {w : World} {sl : Option Addr} {B : Nat} {pl : List LPl} (h : pl = [] ∨ ∃ c, sl = some ⟨c, 0, none⟩ ∧ PlAt w c 0 pl ∧ B ≤ c) : Pls w sl pl := by
  rcases h with h | ⟨c, e, h, _⟩
  · exact .inl h
  · exact .inr ⟨c, 0, e, h⟩

set_option maxRecDepth 100000 in
set_option maxHeartbeats 2000000 in
theorem law3 (sl : Option Addr) (cap : Nat) (pl : List LPl) (id wo : Int) (w : World) (hl : pl.length ≤ maxLen) (h : Pls w sl pl) :
    Calls Try.prog 3 #[.slice sl pl.length cap, .int .i64 id, .int .i64 wo] w fun e w' => e = .returned (.bool true) ∧ Below w.heap.size w w' := by
  have SZ := Lib.hid (szVl_any sl pl.length cap 1048576 w hl (by omega) (by omega))
  rcases lft_cases 1048576 pl.length (by omega) with ⟨e, hl2⟩ | ⟨e, hl2⟩
  · rw [e] at SZ
    clear h e hl2
    generalize pl.length = n at *
    go_enter Try.func3, Try.ntmps3
    go_wp2_with fail
    refine SZ.out.mono ?_
    rintro e w1 ⟨rfl, rfl⟩
    go_wp2
    go_ret
    exact ⟨rfl, Below.refl _ _⟩
  · rw [e] at SZ
    have hn : pl.length ≤ 1048576 := by omega
    have TO : Hid (∀ W, Below w.heap.size w W → Calls Try.prog 6 #[.slice sl pl.length cap] W fun e w' => e = .returned (.slice (some ⟨W.heap.size, 0, none⟩) pl.length pl.length) ∧ RowV w' W.heap.size pl.length pl ∧ Below W.heap.size W w') := fun W hW => toVlS_any sl cap pl W hn (h.below hW)
    have hq4 := othA_len id wo pl
    have SP : Hid (∀ b W, RowV W b pl.length pl → Calls Try.prog 5 #[.slice (some ⟨b, 0, none⟩) pl.length pl.length, .int .i64 id, .int .i64 wo] W fun e w' => ∃ v, e = .returned v ∧ w'.ownsRow W.heap.size 31 2 v (othA id wo pl).length (enCells (othA id wo pl)) ∧ Below W.heap.size W w') := fun b W r => sto_any _ _ pl id wo W hn r.pls
    have IM : Hid (∀ b W, RowV W b pl.length pl → Calls Try.prog 7 #[.slice (some ⟨b, 0, none⟩) pl.length pl.length, .int .i64 id, .int .i64 wo] W fun e w' => ∃ v, e = .returned v ∧ w'.ownsRow W.heap.size 31 2 v (othA id wo pl).length (enCells (othA id wo pl)) ∧ Below W.heap.size W w') := fun b W r => ito_any _ _ pl id wo W hn r.pls
    have TE : Hid (∀ b c W, RowV W b pl.length pl → RowV W c pl.length pl → Calls Try.prog 8 #[.slice (some ⟨b, 0, none⟩) pl.length pl.length, .slice (some ⟨c, 0, none⟩) pl.length pl.length] W fun e w' => e = .returned (.bool true) ∧ Below W.heap.size W w') := fun b c W r1 r2 => eqVlS_any _ _ _ _ pl W hn r1.pls r2.pls
    have MT : Hid (∀ b W, RowV W b pl.length pl → Calls Try.prog 9 #[.slice (some ⟨b, 0, none⟩) pl.length pl.length, .int .i64 1] W fun e w' => e = .returned (.int .i64 (1 + 2 * (pl.length : Int))) ∧ Only b W w') := fun b W r => mkVl_any b pl.length 1 hn (by omega) (by omega) W r.vlM
    clear h e
    have hneg : ¬ ((1048576 : Int) - (pl.length : Int)) < 0 := by omega
    have hk : ¬ (1 + 2 * (pl.length : Int)) < 0 := by omega
    clear hl2
    generalize pl.length = n at *
    generalize othA id wo pl = zs at *
    have EQ : Hid (∀ C C' v v' W, World.ownsRow W C 31 2 v zs.length (enCells zs) → World.ownsRow W C' 31 2 v' zs.length (enCells zs) → Calls Try.prog 8 #[v, v'] W fun e w' => e = .returned (.bool true) ∧ Below W.heap.size W w') := fun C C' v v' W o o' => by
      obtain ⟨s1, k1, rfl, i1⟩ := own_vals o
      obtain ⟨s2, k2, rfl, i2⟩ := own_vals o'
      exact eqVlS_any s1 s2 k1 k2 zs W (by omega) (pls_ofv i1) (pls_ofv i2)
    have MR : Hid (∀ C v W, World.ownsRow W C 31 2 v zs.length (enCells zs) → Calls Try.prog 9 #[v, .int .i64 1] W fun e w' => e = .returned (.int .i64 (1 + 2 * (zs.length : Int))) ∧ w'.ownsRow C 31 2 v zs.length (valsZ (marks 1 (zs.length * 2))) ∧ W.grownBy w' v.ownBlock) := fun C v W o => mark2_row C v zs.length _ 1 (by omega) (by omega) (by omega) W o
    have HR : Hid (∀ C v W, World.ownsRow W C 31 2 v zs.length (valsZ (marks 1 (zs.length * 2))) → Calls Try.prog 10 #[v, .int .i64 1] W fun e w' => e = .returned (.int .i64 (1 + 2 * (zs.length : Int))) ∧ w' = W) := fun C v W o => held2_row C v zs.length 1 (by omega) (by omega) (by omega) W o
    generalize valsZ (marks 1 (zs.length * 2)) = ms at *
    generalize enCells zs = xs at *
    generalize zs.length = q at *
    go_enter Try.func3, Try.ntmps3
    go_wp2_with fail
    refine SZ.out.mono ?_
    rintro e w1 ⟨rfl, rfl⟩
    clear SZ
    go_wp2_with fail
    refine (TO.out _ (Below.refl _ _)).mono ?_
    rintro e w2 ⟨rfl, r2, bl2⟩
    have D2 := Lib.hid bl2
    have T2 := Lib.hid (SP.out _ w2 r2)
    clear bl2 r2
    go_wp2_with fail
    refine T2.out.mono ?_
    rintro e w3 ⟨v0, rfl, q3, bl3⟩
    have D3 := Lib.hid (bT D2.out bl3)
    have V3 := Lib.hid q3
    have L3 := Lib.hid (fun j hj => (q3.lt j hj).2)
    clear bl3 T2 q3 D2
    go_wp2_with fail
    refine (TO.out _ D3.out).mono ?_
    rintro e w4 ⟨rfl, r4, bl4⟩
    have D4 := Lib.hid (bT D3.out bl4)
    have V4 := Lib.hid (own_below V3.out bl4)
    have X4 := Lib.hid r4
    have hs4 := X4.out.lt
    have hs3 := D3.out.size
    have I6 := Lib.hid (IM.out _ w4 r4)
    clear r4 bl4 V3
    go_wp2_with fail
    refine I6.out.mono ?_
    rintro e w6 ⟨v6, rfl, q6, bl6⟩
    have hs6 := bl6.size
    have D6 := Lib.hid (bT D4.out bl6)
    have V6 := Lib.hid (own_below V4.out bl6)
    have X6 := Lib.hid (X4.out.below bl6)
    have R6 := Lib.hid q6
    have L6 := Lib.hid (fun j hj => q6.lt j hj)
    clear q6 bl6 I6 V4 D4 X4
    go_wp2_with fail
    refine (EQ.out _ _ v6 v0 w6 R6.out V6.out).mono ?_
    rintro e w7 ⟨rfl, bl7⟩
    have D7 := Lib.hid (bT D6.out bl7)
    have V7 := Lib.hid (own_below V6.out bl7)
    have R7 := Lib.hid (own_below R6.out bl7)
    have X7 := Lib.hid (X6.out.below bl7)
    have hs7 := bl7.size
    clear bl7 D6 V6 R6 X6
    go_wp2_with fail
    refine (TO.out _ D7.out).mono ?_
    rintro e w8 ⟨rfl, r8, bl8⟩
    have D8 := Lib.hid (bT D7.out bl8)
    have V8 := Lib.hid (own_below V7.out bl8)
    have R8 := Lib.hid (own_below R7.out bl8)
    have X8 := Lib.hid (X7.out.below bl8)
    have hs8 := bl8.size
    have T9 := Lib.hid (TE.out _ _ w8 X8.out r8)
    clear bl8 D7 V7 R7 X7 r8
    go_wp2_with fail
    refine T9.out.mono ?_
    rintro e w9 ⟨rfl, bl9⟩
    have D9 := Lib.hid (bT D8.out bl9)
    have V9 := Lib.hid (own_below V8.out bl9)
    have R9 := Lib.hid (own_below R8.out bl9)
    have X9 := Lib.hid (X8.out.below bl9)
    have hs9 := bl9.size
    clear bl9 D8 V8 R8 X8 T9
    go_wp2_with fail
    refine (MT.out _ w9 X9.out).mono ?_
    rintro e w10 ⟨rfl, g10⟩
    have V10 := Lib.hid (own_btw V9.out ((Btw.refl w3.heap.size (w3.heap.size + 1) w9).only g10 (Nat.le_refl _) (Nat.lt_succ_self _)) (fun j hj => .inl (L3.out j hj)))
    have R10 := Lib.hid (own_btw R9.out ((Btw.refl w3.heap.size (w3.heap.size + 1) w9).only g10 (Nat.le_refl _) (Nat.lt_succ_self _)) (fun j hj => .inr (by have := (L6.out j hj).1; omega)))
    have D10 := Lib.hid (D9.out.grown g10.grownBy (by omega) (fun j hj => by cases hj; omega))
    have hs10 := g10.size
    clear g10 D9 V9 R9 X9
    go_wp2_with fail
    refine (EQ.out _ _ v6 v0 w10 R10.out V10.out).mono ?_
    rintro e w11 ⟨rfl, bl11⟩
    have D11 := Lib.hid (bT D10.out bl11)
    have V11 := Lib.hid (own_below V10.out bl11)
    have R11 := Lib.hid (own_below R10.out bl11)
    have hs11 := bl11.size
    clear bl11 D10 V10 R10
    go_wp2_with fail
    refine (MR.out _ v6 w11 R11.out).mono ?_
    rintro e w12 ⟨rfl, o12, g12⟩
    have LB : Hid (∀ j, v6.ownBlock = some j → w3.heap.size < j ∧ j < w11.heap.size) := fun j hj => by
      have := L6.out j hj
      omega
    have V12 := Lib.hid (own_btw V11.out ((Btw.refl w3.heap.size w11.heap.size w11).grown g12 (fun j hj => by have := LB.out j hj; omega)) (fun j hj => .inl (by have := L3.out j hj; omega)))
    have D12 := Lib.hid (D11.out.grown g12 (by omega) (fun j hj => by have := LB.out j hj; omega))
    have R12 := Lib.hid o12
    clear o12 g12 V11 D11 R11 LB
    go_wp2_with fail
    refine (HR.out _ v6 w12 R12.out).mono ?_
    rintro e w13 ⟨rfl, rfl⟩
    have hq : ¬ (1 + 2 * (q : Int)) < 0 := by omega
    go_wp2_with fail
    refine (TO.out _ D12.out).mono ?_
    rintro e w14 ⟨rfl, r14, bl14⟩
    have F14 := Lib.hid bl14
    have D14 := Lib.hid (bT D12.out bl14)
    have T15 := Lib.hid (IM.out _ w14 r14)
    clear bl14 r14
    go_wp2_with fail
    refine T15.out.mono ?_
    rintro e w15 ⟨v15, rfl, q15, bl15⟩
    have D15 := Lib.hid (bT D14.out bl15)
    have F15 := Lib.hid (bT F14.out bl15)
    have R15 := Lib.hid q15
    clear q15 bl15 F14 D14 T15
    go_wp2_with fail
    refine (EQ.out _ _ v15 v0 w15 R15.out (own_below V12.out F15.out)).mono ?_
    rintro e w16 ⟨rfl, bl16⟩
    have D16 := Lib.hid (bT D15.out bl16)
    have F16 := Lib.hid (bT F15.out bl16)
    clear bl16 D15 F15 R15
    go_wp2_with fail
    refine (HR.out _ v6 w16 (own_below R12.out F16.out)).mono ?_
    rintro e w17 ⟨rfl, rfl⟩
    go_wp2
    go_ret
    exact ⟨rfl, D16.out⟩

end Go.Proofs.Ytnkiaickkbkjnaa
