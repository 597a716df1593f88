/-
  THE LAW FnExactClockActive: the walk.
-/
import Derived.Test.YtkbjhoepbcnjjaaGreatDa
namespace Go.Proofs.YtkbjhoepbcnjjaaGreat
open Go.RowKit
set_option linter.unusedVariables false

set_option maxRecDepth 100000 in
set_option maxHeartbeats 8000000 in
theorem law3 (sl : Option Addr) (cap : Nat) (tl : Option Addr) (kap : Nat) (top pr st bu : Int) (bl : Option Addr) (cb : Nat) (pl : Option Addr) (cp : Nat) (rs : List LSt) (ps : List LPr) (bs : List LPr) (ls : List LPl) (w : World) (h : InC w sl tl bl pl rs ps bs ls) :
    Calls Tryz.prog 3 #[CV sl rs.length cap tl ps.length kap top pr st bu bl bs.length cb pl ls.length cp] w fun e w' => e = .returned (.bool true) ∧ Below w.heap.size w w' := by
  have SZ : Hid (∀ W, Below w.heap.size w W → Calls Tryz.prog 4 #[CV sl rs.length cap tl ps.length kap top pr st bu bl bs.length cb pl ls.length cp, .int .i64 1048576] W fun e w' => e = .returned (.int .i64 (lft 1048576 (rs.length + totD rs + ps.length + bs.length + ls.length))) ∧ Below W.heap.size W w') := fun W hW => szC_any sl cap tl _ kap top pr st bu bl _ cb pl _ cp rs W h.t.ln h.t.lp h.lb h.ll (h.t.st.below hW)
  rcases lft_cases 1048576 (rs.length + totD rs + ps.length + bs.length + ls.length) (by omega) with ⟨e, hT⟩ | ⟨e, hT⟩
  · rw [e] at SZ
    clear h e hT
    generalize rs.length = n at *
    generalize ps.length = m at *
    generalize bs.length = q at *
    generalize ls.length = p at *
    go_enter Tryz.func3, Tryz.ntmps3
    go_wp2_with fail
    refine (SZ.out _ (bA0 _ _)).mono ?_
    rintro e w1 ⟨rfl, b1⟩
    have D1 := Lib.hid (bT (bA0 w _) b1)
    clear b1
    go_wp2
    go_ret
    exact ⟨rfl, D1.out⟩
  rw [e] at SZ
  have hs : Sts w sl rs := h.t.st.small (by omega)
  have hn : rs.length ≤ 1048576 := by omega
  have hm : ps.length ≤ 1048576 := by omega
  have hq : bs.length ≤ 1048576 := by omega
  have hl : ls.length ≤ 1048576 := by omega
  have TO : Hid (∀ W, Below w.heap.size w W → Calls Tryz.prog 6 #[CV sl rs.length cap tl ps.length kap top pr st bu bl bs.length cb pl ls.length cp] W fun e w' => ∃ b1 b2 b3 b4 rs', e = .returned (CV (some ⟨b1, 0, none⟩) rs.length rs.length (some ⟨b2, 0, none⟩) ps.length ps.length top pr st bu (some ⟨b3, 0, none⟩) bs.length bs.length (some ⟨b4, 0, none⟩) ls.length ls.length) ∧ bareS rs' = bareS rs ∧ OwnC W.heap.size w' b1 b2 b3 b4 rs' ps bs ls ∧ Below W.heap.size W w') := fun W hW => toC_any sl cap tl kap top pr st bu bl cb pl cp rs ps bs ls W hn hm hq hl (hs.below hW) (h.t.pr.below hW) (h.bd.below hW) (h.pl.below hW)
  have hzl : (actA rs ps top pr st bu bs ls).length ≤ 1048576 := actA_le rs ps top pr st bu bs ls hq
  have SP : Hid (∀ b1 b2 b3 b4 rs' C W, bareS rs' = bareS rs → OwnC C W b1 b2 b3 b4 rs' ps bs ls → Calls Tryz.prog 5 #[CV (some ⟨b1, 0, none⟩) rs.length rs.length (some ⟨b2, 0, none⟩) ps.length ps.length top pr st bu (some ⟨b3, 0, none⟩) bs.length bs.length (some ⟨b4, 0, none⟩) ls.length ls.length] W fun e w' => ∃ v, e = .returned v ∧ w'.ownsRow W.heap.size 2 1 v (actA rs ps top pr st bu bs ls).length (valsZ (actA rs ps top pr st bu bs ls)) ∧ Below W.heap.size W w') := fun b1 b2 b3 b4 rs' C W eb o => by
    have hl' := bareS_len eb
    have := sca_any (some ⟨b1, 0, none⟩) rs.length (some ⟨b2, 0, none⟩) ps.length top pr st bu (some ⟨b3, 0, none⟩) bs.length (some ⟨b4, 0, none⟩) ls.length rs' ps bs ls W (by omega) hq hl o.sts o.prs o.bds o.pls
    rwa [hl', actA_bare ps top pr st bu bs ls eb] at this
  have IM : Hid (∀ b1 b2 b3 b4 rs' C W, bareS rs' = bareS rs → OwnC C W b1 b2 b3 b4 rs' ps bs ls → Calls Tryz.prog 7 #[CV (some ⟨b1, 0, none⟩) rs.length rs.length (some ⟨b2, 0, none⟩) ps.length ps.length top pr st bu (some ⟨b3, 0, none⟩) bs.length bs.length (some ⟨b4, 0, none⟩) ls.length ls.length] W fun e w' => ∃ v, e = .returned v ∧ w'.ownsRow W.heap.size 2 1 v (actA rs ps top pr st bu bs ls).length (valsZ (actA rs ps top pr st bu bs ls)) ∧ Below W.heap.size W w') := fun b1 b2 b3 b4 rs' C W eb o => by
    have hl' := bareS_len eb
    have := ica_any (some ⟨b1, 0, none⟩) rs.length (some ⟨b2, 0, none⟩) ps.length top pr st bu (some ⟨b3, 0, none⟩) bs.length (some ⟨b4, 0, none⟩) ls.length rs' ps bs ls W (by omega) hq hl (Nat.le_refl _) o.sts o.prs h.t.wf o.bds o.pls
    rwa [hl', actA_bare ps top pr st bu bs ls eb] at this
  have TE : Hid (∀ b1 b2 b3 b4 rs1 c1 c2 c3 c4 rs2 C D W, bareS rs1 = bareS rs → bareS rs2 = bareS rs → OwnC C W b1 b2 b3 b4 rs1 ps bs ls → OwnC D W c1 c2 c3 c4 rs2 ps bs ls → Calls Tryz.prog 9 #[CV (some ⟨b1, 0, none⟩) rs.length rs.length (some ⟨b2, 0, none⟩) ps.length ps.length top pr st bu (some ⟨b3, 0, none⟩) bs.length bs.length (some ⟨b4, 0, none⟩) ls.length ls.length, CV (some ⟨c1, 0, none⟩) rs.length rs.length (some ⟨c2, 0, none⟩) ps.length ps.length top pr st bu (some ⟨c3, 0, none⟩) bs.length bs.length (some ⟨c4, 0, none⟩) ls.length ls.length] W fun e w' => e = .returned (.bool true) ∧ Below W.heap.size W w') := fun b1 b2 b3 b4 rs1 c1 c2 c3 c4 rs2 C D W e1 e2 o1 o2 => by
    have := eqC_any (some ⟨b1, 0, none⟩) (some ⟨c1, 0, none⟩) rs.length rs.length (some ⟨b2, 0, none⟩) (some ⟨c2, 0, none⟩) ps.length ps.length top pr st bu (some ⟨b3, 0, none⟩) (some ⟨c3, 0, none⟩) bs.length bs.length (some ⟨b4, 0, none⟩) (some ⟨c4, 0, none⟩) ls.length ls.length rs1 rs2 ps bs ls W (by rw [bareS_len e1]; exact hn) hm hq hl (e1.trans e2.symm) o1.sts o2.sts o1.prs o2.prs o1.bds o2.bds o1.pls o2.pls
    rwa [bareS_len e1, bareS_len e2] at this
  have MT : Hid (∀ C b1 b2 b3 b4 rs' w0 W, bareS rs' = bareS rs → OwnC C w0 b1 b2 b3 b4 rs' ps bs ls → Below w0.heap.size w0 W → Calls Tryz.prog 10 #[CV (some ⟨b1, 0, none⟩) rs.length rs.length (some ⟨b2, 0, none⟩) ps.length ps.length top pr st bu (some ⟨b3, 0, none⟩) bs.length bs.length (some ⟨b4, 0, none⟩) ls.length ls.length, .int .i64 1] W fun e w' => ∃ k : Int, 0 ≤ k ∧ e = .returned (.int .i64 k) ∧ Btw C w0.heap.size W w') := fun C b1 b2 b3 b4 rs' w0 W eb o hb => by
    have o' := o.below hb
    have stm := o.t.stM.below hb
    have hl' := bareS_len eb
    have ht : totD rs' = totD rs := by
      have := congrArg (List.map fun r : Int × Int × List Int => r.2.2.length) eb
      unfold totD
      simpa [bareS, Function.comp_def] using congrArg List.sum this
    have hP : PrM W b2 ps.length := by obtain ⟨vs, a, b, _⟩ := o'.t.r2; exact ⟨vs, a, b⟩
    have hB : BdM W b3 bs.length := by obtain ⟨vs, a, b, _⟩ := o'.r3; exact ⟨vs, a, b⟩
    have hL : PlM W b4 ls.length := o'.r4.plM
    have hSum : rs'.length + totD rs' + ps.length + bs.length + ls.length ≤ 1048576 := by rw [hl', ht]; omega
    have l2 : b2 < w0.heap.size := o.t.r2.lt
    have l3 : b3 < w0.heap.size := o.r3.lt
    have l4 : b4 < w0.heap.size := o.r4.lt
    have := mkC_any C w0.heap.size b1 b2 b3 b4 top pr st bu rs' ps.length bs.length ls.length hSum W stm hP hB hL o.t.lo2 l2 o.lo3 l3 o.lo4 l4 hb.size
    rw [hl'] at this
    exact this
  have hneg : ¬ (1048576 - ((rs.length + totD rs + ps.length + bs.length + ls.length : Nat) : Int)) < 0 := by omega
  clear h hs e hT hn hm hq hl
  generalize (1048576 - ((rs.length + totD rs + ps.length + bs.length + ls.length : Nat) : Int)) = z at *
  generalize rs.length = n at *
  generalize ps.length = m at *
  generalize bs.length = q at *
  generalize ls.length = p at *
  generalize actA rs ps top pr st bu bs ls = zs at *
  have EQ : Hid (∀ C C' v v' W, World.ownsRow W C 2 1 v zs.length (valsZ zs) → World.ownsRow W C' 2 1 v' zs.length (valsZ zs) → Calls Tryz.prog 8 #[v, v'] W fun e w' => e = .returned (.bool true) ∧ Below W.heap.size W w') := fun C C' v v' W o o' => by
    obtain ⟨s1, k1, rfl, i1⟩ := own_ints o
    obtain ⟨s2, k2, rfl, i2⟩ := own_ints o'
    exact eq_any s1 s2 k1 k2 zs W (by unfold maxLen; omega) i1 i2
  have MR : Hid (∀ C v W, World.ownsRow W C 2 1 v zs.length (valsZ zs) → Calls Tryz.prog 11 #[v, .int .i64 1] W fun e w' => e = .returned (.int .i64 (1 + (zs.length : Int))) ∧ w'.ownsRow C 2 1 v zs.length (valsZ (marks 1 zs.length)) ∧ W.grownBy w' v.ownBlock) := fun C v W o => mark_row C v zs 1 hzl (by omega) (by omega) W o
  have HR : Hid (∀ C v W, World.ownsRow W C 2 1 v zs.length (valsZ (marks 1 zs.length)) → Calls Tryz.prog 12 #[v, .int .i64 1] W fun e w' => e = .returned (.int .i64 (1 + (zs.length : Int))) ∧ w' = W) := fun C v W o => held_row C v zs.length 1 hzl (by omega) (by omega) W o
  generalize valsZ (marks 1 zs.length) = ms at *
  generalize valsZ zs = xs at *
  generalize zs.length = a at *
  have N0 := Lib.hid (new_at w (.cells (CC sl n cap tl m kap top pr st bu bl q cb pl p cp) 29))
  have B0 := Lib.hid (bA0 w (.cells (CC sl n cap tl m kap top pr st bu bl q cb pl p cp) 29))
  have hw0 : (w.alloc (.cells (CC sl n cap tl m kap top pr st bu bl q cb pl p cp) 29)).heap.size = w.heap.size + 1 := by simp
  have KT : Hid (∀ W, Below (w.heap.size + 1) (w.alloc (.cells (CC sl n cap tl m kap top pr st bu bl q cb pl p cp) 29)) W → w.heap.size < W.heap.size ∧ W.cell? ⟨w.heap.size, 0, none⟩ = some (.slice sl n cap) ∧ W.cell? ⟨w.heap.size, 1, none⟩ = some (.slice tl m kap) ∧ W.cell? ⟨w.heap.size, 2, none⟩ = some (.int .i64 top) ∧ W.cell? ⟨w.heap.size, 3, none⟩ = some (.int .i64 pr) ∧ W.cell? ⟨w.heap.size, 4, none⟩ = some (.int .i64 st) ∧ W.cell? ⟨w.heap.size, 5, none⟩ = some (.int .i64 bu) ∧ W.cell? ⟨w.heap.size, 6, none⟩ = some (.slice bl q cb) ∧ W.cell? ⟨w.heap.size, 7, none⟩ = some (.slice pl p cp)) := fun W hW => by
    obtain ⟨c0, c1, c2, c3, c4, c5, c6, c7, cf, cl⟩ := cells8 ((hW.block w.heap.size (by omega)).trans N0.out)
    exact ⟨cl, c0, c1, c2, c3, c4, c5, c6, c7⟩
  clear N0
  go_enter Tryz.func3, Tryz.ntmps3
  go_wp2_with fail
  refine (SZ.out _ (bA0 _ _)).mono ?_
  rintro e w1 ⟨rfl, b1⟩
  generalize w.alloc (.cells (CC sl n cap tl m kap top pr st bu bl q cb pl p cp) 29) = wA at *
  have A1 : Hid (Below (w.heap.size + 1) wA w1) := by rw [← hw0]; exact b1
  have D1 := Lib.hid (bT B0.out b1)
  clear b1 SZ
  obtain ⟨tl0, t0, t1, t2, t3, t4, t5, t6, t7⟩ := KT.out _ A1.out
  have hs1 := A1.out.size
  go_wp2_with fail
  refine (TO.out _ D1.out).mono ?_
  rintro e w2 ⟨b1, b2, b3, b4, rs1, rfl, e1, o1, bl2⟩
  have D2 := Lib.hid (bT D1.out bl2)
  have A2 := Lib.hid (A1.out.trans (bl2.mono (by omega)))
  have T2 := Lib.hid (SP.out b1 b2 b3 b4 rs1 _ w2 e1 o1)
  clear e1 o1 bl2 A1 t0 t1 t2 t3 t4 t5 t6 t7 tl0
  go_wp2_with fail
  refine T2.out.mono ?_
  rintro e w3 ⟨v0, rfl, q3, bl3⟩
  have hs2 := A2.out.size
  have D3 := Lib.hid (bT D2.out bl3)
  have A3 := Lib.hid (A2.out.trans (bl3.mono (by omega)))
  have V3 := Lib.hid q3
  have L3 := Lib.hid (fun j hj => (q3.lt j hj).2)
  have D3s := Lib.hid D3.out.size
  clear bl3 T2 A2 D2 q3
  obtain ⟨tl0, t0, t1, t2, t3, t4, t5, t6, t7⟩ := KT.out _ A3.out
  go_wp2_with fail
  refine (TO.out _ D3.out).mono ?_
  rintro e w4 ⟨c1, c2, c3, c4, rs2, rfl, e2, o2, bl4⟩
  have hs3 := A3.out.size
  have D4 := Lib.hid (bT D3.out bl4)
  have A4 := Lib.hid (A3.out.trans (bl4.mono (by omega)))
  have E2 := Lib.hid e2
  have O4 := Lib.hid o2
  have V4 := Lib.hid (own_below V3.out bl4)
  have hs4 := A4.out.size
  have hs34 := bl4.size
  have X5 := Lib.hid (new_at w4 (.cells (CC (some ⟨c1, 0, none⟩) n n (some ⟨c2, 0, none⟩) m m top pr st bu (some ⟨c3, 0, none⟩) q q (some ⟨c4, 0, none⟩) p p) 40))
  have F5 := Lib.hid (bA0 w4 (.cells (CC (some ⟨c1, 0, none⟩) n n (some ⟨c2, 0, none⟩) m m top pr st bu (some ⟨c3, 0, none⟩) q q (some ⟨c4, 0, none⟩) p p) 40))
  clear e2 o2 bl4 A3 D3 t0 t1 t2 t3 t4 t5 t6 t7 tl0 V3
  have hw5 : (w4.alloc (.cells (CC (some ⟨c1, 0, none⟩) n n (some ⟨c2, 0, none⟩) m m top pr st bu (some ⟨c3, 0, none⟩) q q (some ⟨c4, 0, none⟩) p p) 40)).heap.size = w4.heap.size + 1 := by simp
  have F6 := Lib.hid (IM.out c1 c2 c3 c4 rs2 _ (w4.alloc (.cells (CC (some ⟨c1, 0, none⟩) n n (some ⟨c2, 0, none⟩) m m top pr st bu (some ⟨c3, 0, none⟩) q q (some ⟨c4, 0, none⟩) p p) 40)) E2.out (O4.out.below F5.out))
  obtain ⟨x0, x1, x2, x3, x4, x5, x6, x7, xf, xl⟩ := cells8 X5.out
  go_wp2_with fail
  generalize w4.alloc (.cells (CC (some ⟨c1, 0, none⟩) n n (some ⟨c2, 0, none⟩) m m top pr st bu (some ⟨c3, 0, none⟩) q q (some ⟨c4, 0, none⟩) p p) 40) = w5 at *
  refine F6.out.mono ?_
  rintro e w6 ⟨v6, rfl, q6, bl6⟩
  have hs6 := bl6.size
  have G6 := Lib.hid (bT F5.out bl6)
  have D6 := Lib.hid (bT D4.out G6.out)
  have A6 := Lib.hid (A4.out.trans (G6.out.mono (by omega)))
  have V6 := Lib.hid (own_below V4.out G6.out)
  have X6 := Lib.hid ((bl6.block _ xl).trans X5.out)
  have R6 := Lib.hid q6
  have L6 := Lib.hid (fun j hj => q6.lt j hj)
  clear q6 bl6 F5 F6 X5 V4 D4 A4 x0 x1 x2 x3 x4 x5 x6 x7 xf xl
  have E7 := Lib.hid (EQ.out _ _ v6 v0 w6 R6.out V6.out)
  go_wp2_with fail
  refine E7.out.mono ?_
  rintro e w7 ⟨rfl, bl7⟩
  have G7 := Lib.hid (bT G6.out bl7)
  have D7 := Lib.hid (bT D6.out bl7)
  have A7 := Lib.hid (A6.out.trans (bl7.mono (by omega)))
  have V7 := Lib.hid (own_below V6.out bl7)
  have R7 := Lib.hid (own_below R6.out bl7)
  have X7 := Lib.hid ((bl7.block _ (Array.getElem?_eq_some_iff.1 X6.out).1).trans X6.out)
  have hs7 := bl7.size
  clear bl7 G6 D6 A6 V6 R6 X6 E7
  have KX : Hid (∀ W, Below w7.heap.size w7 W → w.heap.size < W.heap.size ∧ w4.heap.size < W.heap.size ∧ W.cell? ⟨w.heap.size, 0, none⟩ = some (.slice sl n cap) ∧ W.cell? ⟨w.heap.size, 1, none⟩ = some (.slice tl m kap) ∧ W.cell? ⟨w.heap.size, 2, none⟩ = some (.int .i64 top) ∧ W.cell? ⟨w.heap.size, 3, none⟩ = some (.int .i64 pr) ∧ W.cell? ⟨w.heap.size, 4, none⟩ = some (.int .i64 st) ∧ W.cell? ⟨w.heap.size, 5, none⟩ = some (.int .i64 bu) ∧ W.cell? ⟨w.heap.size, 6, none⟩ = some (.slice bl q cb) ∧ W.cell? ⟨w.heap.size, 7, none⟩ = some (.slice pl p cp) ∧ W.cell? ⟨w4.heap.size, 0, none⟩ = some (.slice (some ⟨c1, 0, none⟩) n n) ∧ W.cell? ⟨w4.heap.size, 1, none⟩ = some (.slice (some ⟨c2, 0, none⟩) m m) ∧ W.cell? ⟨w4.heap.size, 2, none⟩ = some (.int .i64 top) ∧ W.cell? ⟨w4.heap.size, 3, none⟩ = some (.int .i64 pr) ∧ W.cell? ⟨w4.heap.size, 4, none⟩ = some (.int .i64 st) ∧ W.cell? ⟨w4.heap.size, 5, none⟩ = some (.int .i64 bu) ∧ W.cell? ⟨w4.heap.size, 6, none⟩ = some (.slice (some ⟨c3, 0, none⟩) q q) ∧ W.cell? ⟨w4.heap.size, 7, none⟩ = some (.slice (some ⟨c4, 0, none⟩) p p)) := fun W hW => by
    obtain ⟨k1, k2⟩ := KT.out W (A7.out.trans (hW.mono (by omega)))
    obtain ⟨y0, y1, y2, y3, y4, y5, y6, y7, yf, yl⟩ := cells8 ((hW.block _ (Array.getElem?_eq_some_iff.1 X7.out).1).trans X7.out)
    obtain ⟨k20, k21, k22, k23, k24, k25, k26, k27⟩ := k2
    exact ⟨k1, yl, k20, k21, k22, k23, k24, k25, k26, k27, y0, y1, y2, y3, y4, y5, y6, y7⟩
  go_wp2_with fail
  refine wp_region_held_drew (S := fun W => w.heap.size < W.heap.size ∧ w4.heap.size < W.heap.size ∧ W.cell? ⟨w.heap.size, 0, none⟩ = some (.slice sl n cap) ∧ W.cell? ⟨w.heap.size, 1, none⟩ = some (.slice tl m kap) ∧ W.cell? ⟨w.heap.size, 2, none⟩ = some (.int .i64 top) ∧ W.cell? ⟨w.heap.size, 3, none⟩ = some (.int .i64 pr) ∧ W.cell? ⟨w.heap.size, 4, none⟩ = some (.int .i64 st) ∧ W.cell? ⟨w.heap.size, 5, none⟩ = some (.int .i64 bu) ∧ W.cell? ⟨w.heap.size, 6, none⟩ = some (.slice bl q cb) ∧ W.cell? ⟨w.heap.size, 7, none⟩ = some (.slice pl p cp) ∧ W.cell? ⟨w4.heap.size, 0, none⟩ = some (.slice (some ⟨c1, 0, none⟩) n n) ∧ W.cell? ⟨w4.heap.size, 1, none⟩ = some (.slice (some ⟨c2, 0, none⟩) m m) ∧ W.cell? ⟨w4.heap.size, 2, none⟩ = some (.int .i64 top) ∧ W.cell? ⟨w4.heap.size, 3, none⟩ = some (.int .i64 pr) ∧ W.cell? ⟨w4.heap.size, 4, none⟩ = some (.int .i64 st) ∧ W.cell? ⟨w4.heap.size, 5, none⟩ = some (.int .i64 bu) ∧ W.cell? ⟨w4.heap.size, 6, none⟩ = some (.slice (some ⟨c3, 0, none⟩) q q) ∧ W.cell? ⟨w4.heap.size, 7, none⟩ = some (.slice (some ⟨c4, 0, none⟩) p p)) (by kernel_rfl) ?_ (fun hHeld => ?_)
  · exact KX.out _ (Below.refl _ _).drew
  refine wpAnyH_take (i := 0) (oi := _) (v := ?_) rfl (by kernel_rfl) (by kernel_rfl) (by kernel_rfl) (fun _ _ _ h => h) (Or.inl ⟨by rfl, ?_⟩) (by assumption) ?_
  rotate_left
  · first | (intro w hSw; (try dsimp only at hSw); go_simp; done) | (intro w hSw; (try dsimp only at hSw); go_simp; with_reducible rfl)
  try simp only [Act.put, List.setIfInBounds_toArray, List.set_cons_zero, List.set_cons_succ, List.getElem_toArray, List.getElem_cons_zero]
  refine wpAnyH_take (i := 1) (oi := _) (v := ?_) rfl (by kernel_rfl) (by kernel_rfl) (by kernel_rfl) (fun _ _ _ h => h) (Or.inl ⟨by rfl, ?_⟩) (by assumption) ?_
  rotate_left
  · first | (intro w hSw; (try dsimp only at hSw); go_simp; done) | (intro w hSw; (try dsimp only at hSw); go_simp; with_reducible rfl)
  try simp only [Act.put, List.setIfInBounds_toArray, List.set_cons_zero, List.set_cons_succ, List.getElem_toArray, List.getElem_cons_succ, List.getElem_cons_zero]
  refine wpAnyH_ready (rs := [2]) (by kernel_rfl) (by simp) ?_
  refine AllReadyH.cons rfl (fun K hK => ?_) AllReadyH.nil
  go_simp
  go_wp2_with (go_at_call 6; refine (TO.out _ D7.out.drew).mono ?_; rintro e w8 ⟨d1, d2, d3, d4, rs3, rfl, e3, o3, bl8⟩)
  have D8 : Hid (Below w7.heap.size w7 w8) := bT ((Below.refl w7.heap.size w7).drew) bl8
  have O8 := Lib.hid o3
  have E8 := Lib.hid e3
  clear bl8 o3 e3
  refine hK.out _ _ ?_ (fun hHeld => ?_)
  · exact KX.out _ D8.out
  clear hK K
  refine wpAnyH_ready (rs := [3]) (by kernel_rfl) (by simp) ?_
  refine AllReadyH.cons rfl (fun K hK => ?_) AllReadyH.nil
  go_simp
  go_wp2_with (go_at_call 9; refine (TE.out c1 c2 c3 c4 rs2 d1 d2 d3 d4 rs3 _ _ _ E2.out E8.out ((O4.out.below G7.out).below D8.out) O8.out).mono ?_; rintro e w9 ⟨rfl, bl9⟩)
  have D9 : Hid (Below w7.heap.size w7 w9) := bT D8.out bl9
  clear bl9
  refine hK.out _ _ ?_ (fun hHeld => ?_)
  · exact KX.out _ D9.out
  clear hK K
  refine wpAnyH_take (i := 4) (oi := _) (v := ?_) rfl (by kernel_rfl) (by kernel_rfl) (by kernel_rfl) (fun _ _ _ h => h) (Or.inl ⟨by rfl, ?_⟩) (by assumption) ?_
  rotate_left
  · first | (intro w hSw; (try dsimp only at hSw); go_simp; done) | (intro w hSw; (try dsimp only at hSw); go_simp; with_reducible rfl)
  try simp only [Act.put, List.setIfInBounds_toArray, List.set_cons_zero, List.set_cons_succ, List.getElem_toArray, List.getElem_cons_succ, List.getElem_cons_zero]
  refine wpAnyH_done (by kernel_rfl) ?_ _

  have G9 := Lib.hid (bT G7.out D9.out)
  have B9 := Lib.hid (bT D7.out D9.out)
  have A9 := Lib.hid (A7.out.trans (D9.out.mono (by omega)))
  have V9 := Lib.hid (own_below V7.out D9.out)
  have R9 := Lib.hid (own_below R7.out D9.out)
  have X9 := Lib.hid ((D9.out.block _ (Array.getElem?_eq_some_iff.1 X7.out).1).trans X7.out)
  have hs9 := D9.out.size
  clear D9 D8 KX O8 E8 TE G7 D7 A7 V7 R7 X7
  have M10 := Lib.hid (MT.out _ c1 c2 c3 c4 rs2 w4 w9 E2.out O4.out G9.out)
  obtain ⟨x0, x1, x2, x3, x4, x5, x6, x7, xf, xl⟩ := cells8 X9.out
  go_wp2_with fail
  refine M10.out.mono ?_
  rintro e w10 ⟨k, k0, rfl, g10⟩
  have k1 : ¬ k < 0 := by omega
  have V10 := Lib.hid (own_btw V9.out g10 (fun j hj => .inl (L3.out j hj)))
  have R10 := Lib.hid (own_btw R9.out g10 (fun j hj => .inr (by have := (L6.out j hj).1; omega)))
  have B10 := Lib.hid (B9.out.trans ((g10.below (by omega)).mono (by have := D3s.out; omega)))
  have A10 := Lib.hid (A9.out.trans ((g10.below (by omega)).mono (by omega)))
  have hs10 := g10.size
  clear g10 M10 V9 R9 B9 A9 X9 x0 x1 x2 x3 x4 x5 x6 x7 xf xl MT G9 O4
  go_wp2_with fail
  refine (EQ.out _ _ v6 v0 w10 R10.out V10.out).mono ?_
  rintro e w11 ⟨rfl, bl11⟩
  have B11 := Lib.hid (bT B10.out bl11)
  have A11 := Lib.hid (A10.out.trans (bl11.mono (by omega)))
  have V11 := Lib.hid (own_below V10.out bl11)
  have R11 := Lib.hid (own_below R10.out bl11)
  have hs11 := bl11.size
  clear bl11 B10 A10 V10 R10
  go_wp2_with fail
  refine (MR.out _ v6 w11 R11.out).mono ?_
  rintro e w12 ⟨rfl, o12, g12⟩
  have LB : Hid (∀ j, v6.ownBlock = some j → w4.heap.size < j ∧ j < w11.heap.size) := fun j hj => by
    have := L6.out j hj
    omega
  have V12 := Lib.hid (own_btw V11.out ((Btw.refl w4.heap.size w11.heap.size w11).grown g12 (fun j hj => by have := LB.out j hj; omega)) (fun j hj => .inl (by have := L3.out j hj; omega)))
  have B12 := Lib.hid (B11.out.grown g12 (by have := D3s.out; omega) (fun j hj => by have := LB.out j hj; have := D3s.out; omega))
  have A12 := Lib.hid (A11.out.grown g12 (by omega) (fun j hj => by have := LB.out j hj; omega))
  have R12 := Lib.hid o12
  clear o12 g12 V11 B11 A11 R11 MR LB
  go_wp2_with fail
  refine (HR.out _ v6 w12 R12.out).mono ?_
  rintro e w13 ⟨rfl, rfl⟩
  have hq : ¬ (1 + (a : Int)) < 0 := by omega
  obtain ⟨tl0, t0, t1, t2, t3, t4, t5, t6, t7⟩ := KT.out _ A12.out
  go_wp2_with fail
  refine (TO.out _ B12.out).mono ?_
  rintro e w14 ⟨f1, f2, f3, f4, rs4, rfl, e4, o4, bl14⟩
  have F14 := Lib.hid bl14
  have B14 := Lib.hid (bT B12.out bl14)
  have T15 := Lib.hid (IM.out f1 f2 f3 f4 rs4 _ w14 e4 o4)
  clear e4 o4 bl14 t0 t1 t2 t3 t4 t5 t6 t7 tl0
  go_wp2_with fail
  refine T15.out.mono ?_
  rintro e w15 ⟨v15, rfl, q15, bl15⟩
  have B15 := Lib.hid (bT B14.out bl15)
  have F15 := Lib.hid (bT F14.out bl15)
  have R15 := Lib.hid q15
  clear q15 bl15 F14 B14 T15
  go_wp2_with fail
  refine (EQ.out _ _ v15 v0 w15 R15.out (own_below V12.out F15.out)).mono ?_
  rintro e w16 ⟨rfl, bl16⟩
  have B16 := Lib.hid (bT B15.out bl16)
  have F16 := Lib.hid (bT F15.out bl16)
  clear bl16 B15 F15 R15
  go_wp2_with fail
  refine (HR.out _ v6 w16 (own_below R12.out F16.out)).mono ?_
  rintro e w17 ⟨rfl, rfl⟩
  go_wp2
  go_ret
  exact ⟨rfl, B16.out⟩

end Go.Proofs.YtkbjhoepbcnjjaaGreat
