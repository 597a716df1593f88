/-
  THE LAW FnExactPaysText: the walk.
-/
import Derived.Test.YtanoklpffenljaaGreatDoorXy
import Derived.Test.YtanoklpffenljaaGreatDoorMz
import Derived.Test.YtanoklpffenljaaGreatDoorTs
namespace Go.Proofs.YtanoklpffenljaaGreatDoor
open Go.RowKit
set_option linter.unusedVariables false

theorem pyT_bare {rs rs' : List LSt} (ps : List LPr) (top pr st bu : Int) (bs : List LPr) (ls : List LPl) (us : List Int) (ai fx : Int) (gc gf : Bool) (h : bareS rs = bareS rs') : pyT rs ps top pr st bu bs ls us ai fx gc gf = pyT rs' ps top pr st bu bs ls us ai fx gc gf := by
  unfold pyT
  rw [stg_bare ps top pr st bu bs ls us ai fx gc gf h]
set_option maxRecDepth 100000 in
set_option maxHeartbeats 8000000 in
theorem law4 (sl : Option Addr) (cap : Nat) (tl : Option Addr) (kap : Nat) (top pr st bu : Int) (bl : Option Addr) (cb : Nat) (pl : Option Addr) (cp : Nat) (ul : Option Addr) (cu : Nat) (ai fx : Int) (gc gf : Bool) (rs : List LSt) (ps : List LPr) (bs : List LPr) (ls : List LPl) (us : List Int) (w : World) (h : InSg w sl tl bl pl ul rs ps bs ls us) (ht : PowTab w) :
    Calls Tryz.prog 4 #[SgV sl rs.length cap tl ps.length kap top pr st bu bl bs.length cb pl ls.length cp ul us.length cu ai fx gc gf] w fun e w' => e = .returned (.bool true) ∧ Below w.heap.size w w' := by
  have SZ : Hid (∀ W, Below w.heap.size w W → Calls Tryz.prog 11 #[SgV sl rs.length cap tl ps.length kap top pr st bu bl bs.length cb pl ls.length cp ul us.length cu ai fx gc gf, .int .i64 1048576] W fun e w' => e = .returned (.int .i64 (lft 1048576 (rs.length + totD rs + ps.length + bs.length + ls.length + us.length))) ∧ Below W.heap.size W w') := fun W hW => szSg_any sl cap tl _ kap top pr st bu bl _ cb pl _ cp ul _ cu ai fx gc gf rs W h.c.t.ln h.c.t.lp h.c.lb h.c.ll h.lu (h.c.t.st.below hW)
  rcases lft_cases 1048576 (rs.length + totD rs + ps.length + bs.length + ls.length + us.length) (by omega) with ⟨e, hT⟩ | ⟨e, hT⟩
  · rw [e] at SZ
    clear h e hT ht
    generalize rs.length = n at *
    generalize ps.length = m at *
    generalize bs.length = q at *
    generalize ls.length = p at *
    generalize us.length = u at *
    go_enter Tryz.func4, Tryz.ntmps4
    go_wp2_with fail
    refine (SZ.out _ (bA0 _ _)).mono ?_
    rintro e w1 ⟨rfl, b1⟩
    have D1 := Lib.hid (bT (bA0 w _) b1)
    clear b1
    go_wp2
    go_ret
    exact ⟨rfl, D1.out⟩
  rw [e] at SZ
  have hs : Sts w sl rs := h.c.t.st.small (by omega)
  have hn : rs.length ≤ 1048576 := by omega
  have hm : ps.length ≤ 1048576 := by omega
  have hq : bs.length ≤ 1048576 := by omega
  have hl : ls.length ≤ 1048576 := by omega
  have hu : us.length ≤ 1048576 := by omega
  have TO : Hid (∀ W, Below w.heap.size w W → Calls Tryz.prog 13 #[SgV sl rs.length cap tl ps.length kap top pr st bu bl bs.length cb pl ls.length cp ul us.length cu ai fx gc gf] W fun e w' => ∃ b1 b2 b3 b4 b5 rs', e = .returned (SgV (some ⟨b1, 0, none⟩) rs.length rs.length (some ⟨b2, 0, none⟩) ps.length ps.length top pr st bu (some ⟨b3, 0, none⟩) bs.length bs.length (some ⟨b4, 0, none⟩) ls.length ls.length (some ⟨b5, 0, none⟩) us.length us.length ai fx gc gf) ∧ bareS rs' = bareS rs ∧ OwnSg W.heap.size w' b1 b2 b3 b4 b5 rs' ps bs ls us ∧ Below W.heap.size W w') := fun W hW => toSg_any sl cap tl kap top pr st bu bl cb pl cp ul cu ai fx gc gf rs ps bs ls us W hn hm hq hl hu (hs.below hW) (h.c.t.pr.below hW) (h.c.bd.below hW) (h.c.pl.below hW) (h.ui.below hW)
  have TE : Hid (∀ b1 b2 b3 b4 b5 rs1 c1 c2 c3 c4 c5 rs2 C D W, bareS rs1 = bareS rs → bareS rs2 = bareS rs → OwnSg C W b1 b2 b3 b4 b5 rs1 ps bs ls us → OwnSg D W c1 c2 c3 c4 c5 rs2 ps bs ls us → Calls Tryz.prog 15 #[SgV (some ⟨b1, 0, none⟩) rs.length rs.length (some ⟨b2, 0, none⟩) ps.length ps.length top pr st bu (some ⟨b3, 0, none⟩) bs.length bs.length (some ⟨b4, 0, none⟩) ls.length ls.length (some ⟨b5, 0, none⟩) us.length us.length ai fx gc gf, SgV (some ⟨c1, 0, none⟩) rs.length rs.length (some ⟨c2, 0, none⟩) ps.length ps.length top pr st bu (some ⟨c3, 0, none⟩) bs.length bs.length (some ⟨c4, 0, none⟩) ls.length ls.length (some ⟨c5, 0, none⟩) us.length us.length ai fx gc gf] W fun e w' => e = .returned (.bool true) ∧ Below W.heap.size W w') := fun b1 b2 b3 b4 b5 rs1 c1 c2 c3 c4 c5 rs2 C D W e1 e2 o1 o2 => by
    have := eqSg_any (some ⟨b1, 0, none⟩) (some ⟨c1, 0, none⟩) rs.length rs.length (some ⟨b2, 0, none⟩) (some ⟨c2, 0, none⟩) ps.length ps.length top pr st bu (some ⟨b3, 0, none⟩) (some ⟨c3, 0, none⟩) bs.length bs.length (some ⟨b4, 0, none⟩) (some ⟨c4, 0, none⟩) ls.length ls.length (some ⟨b5, 0, none⟩) (some ⟨c5, 0, none⟩) us.length us.length ai fx gc gf rs1 rs2 ps bs ls us W (by rw [bareS_len e1]; exact hn) hm hq hl hu (e1.trans e2.symm) o1.sts o2.sts o1.prs o2.prs o1.bds o2.bds o1.pls o2.pls o1.tops o2.tops
    rwa [bareS_len e1, bareS_len e2] at this
  have SP : Hid (∀ b1 b2 b3 b4 b5 rs' C W, bareS rs' = bareS rs → OwnSg C W b1 b2 b3 b4 b5 rs' ps bs ls us → Calls Tryz.prog 12 #[SgV (some ⟨b1, 0, none⟩) rs.length rs.length (some ⟨b2, 0, none⟩) ps.length ps.length top pr st bu (some ⟨b3, 0, none⟩) bs.length bs.length (some ⟨b4, 0, none⟩) ls.length ls.length (some ⟨b5, 0, none⟩) us.length us.length ai fx gc gf] W fun e w' => e = .returned (.string ⟨(pyT rs ps top pr st bu bs ls us ai fx gc gf).toArray⟩) ∧ Below W.heap.size W w') := fun b1 b2 b3 b4 b5 rs' C W eb o => by
    have hl' := bareS_len eb
    have := spy_any (some ⟨b1, 0, none⟩) rs.length (some ⟨b2, 0, none⟩) ps.length top pr st bu (some ⟨b3, 0, none⟩) bs.length (some ⟨b4, 0, none⟩) ls.length (some ⟨b5, 0, none⟩) us.length ai fx gc gf rs' ps bs ls us W (by omega) hq hl hu o.sts o.prs o.bds o.pls o.tops
    rwa [hl', pyT_bare ps top pr st bu bs ls us ai fx gc gf eb] at this
  have IM : Hid (∀ b1 b2 b3 b4 b5 rs' C W, bareS rs' = bareS rs → OwnSg C W b1 b2 b3 b4 b5 rs' ps bs ls us → Below w.heap.size w W → Calls Tryz.prog 14 #[SgV (some ⟨b1, 0, none⟩) rs.length rs.length (some ⟨b2, 0, none⟩) ps.length ps.length top pr st bu (some ⟨b3, 0, none⟩) bs.length bs.length (some ⟨b4, 0, none⟩) ls.length ls.length (some ⟨b5, 0, none⟩) us.length us.length ai fx gc gf] W fun e w' => e = .returned (.string ⟨(pyT rs ps top pr st bu bs ls us ai fx gc gf).toArray⟩) ∧ Below W.heap.size W w') := fun b1 b2 b3 b4 b5 rs' C W eb o hW => by
    have hl' := bareS_len eb
    have := ipy_any (some ⟨b1, 0, none⟩) rs.length (some ⟨b2, 0, none⟩) ps.length top pr st bu (some ⟨b3, 0, none⟩) bs.length (some ⟨b4, 0, none⟩) ls.length (some ⟨b5, 0, none⟩) us.length ai fx gc gf rs' ps bs ls us W (by omega) hq hl hu (Nat.le_refl _) o.sts o.prs h.c.t.wf o.bds o.pls o.tops (ht.below hW)
    rwa [hl', pyT_bare ps top pr st bu bs ls us ai fx gc gf eb] at this
  have hneg : ¬ (1048576 - ((rs.length + totD rs + ps.length + bs.length + ls.length + us.length : Nat) : Int)) < 0 := by omega
  clear h hs e hT hn hm hq hl hu ht
  generalize (1048576 - ((rs.length + totD rs + ps.length + bs.length + ls.length + us.length : Nat) : Int)) = z at *
  generalize rs.length = n at *
  generalize ps.length = m at *
  generalize bs.length = q at *
  generalize ls.length = p at *
  generalize us.length = u at *
  generalize (⟨(pyT rs ps top pr st bu bs ls us ai fx gc gf).toArray⟩ : ByteArray) = tx at *
  have hrr : (!(tx.toList == tx.toList)) = false := by simp
  have N0 := Lib.hid (new_at w (.cells (SgC sl n cap tl m kap top pr st bu bl q cb pl p cp ul u cu ai fx gc gf) 45))
  have B0 := Lib.hid (bA0 w (.cells (SgC sl n cap tl m kap top pr st bu bl q cb pl p cp ul u cu ai fx gc gf) 45))
  have hw0 : (w.alloc (.cells (SgC sl n cap tl m kap top pr st bu bl q cb pl p cp ul u cu ai fx gc gf) 45)).heap.size = w.heap.size + 1 := by simp
  have KT : Hid (∀ W, Below (w.heap.size + 1) (w.alloc (.cells (SgC sl n cap tl m kap top pr st bu bl q cb pl p cp ul u cu ai fx gc gf) 45)) W → w.heap.size < W.heap.size ∧ W.cell? ⟨w.heap.size, 0, none⟩ = some (.slice sl n cap) ∧ W.cell? ⟨w.heap.size, 1, none⟩ = some (.slice tl m kap) ∧ W.cell? ⟨w.heap.size, 2, none⟩ = some (.int .i64 top) ∧ W.cell? ⟨w.heap.size, 3, none⟩ = some (.int .i64 pr) ∧ W.cell? ⟨w.heap.size, 4, none⟩ = some (.int .i64 st) ∧ W.cell? ⟨w.heap.size, 5, none⟩ = some (.int .i64 bu) ∧ W.cell? ⟨w.heap.size, 6, none⟩ = some (.slice bl q cb) ∧ W.cell? ⟨w.heap.size, 7, none⟩ = some (.slice pl p cp) ∧ W.cell? ⟨w.heap.size, 8, none⟩ = some (.slice ul u cu) ∧ W.cell? ⟨w.heap.size, 9, none⟩ = some (.int .i64 ai) ∧ W.cell? ⟨w.heap.size, 10, none⟩ = some (.int .i64 fx) ∧ W.cell? ⟨w.heap.size, 11, none⟩ = some (.bool gc) ∧ W.cell? ⟨w.heap.size, 12, none⟩ = some (.bool gf)) := fun W hW => by
    obtain ⟨x0, x1, x2, x3, x4, x5, x6, x7, x8, x9, x10, x11, x12, cf, cl⟩ := cells13 ((hW.block w.heap.size (by omega)).trans N0.out)
    exact ⟨cl, x0, x1, x2, x3, x4, x5, x6, x7, x8, x9, x10, x11, x12⟩
  clear N0
  go_enter Tryz.func4, Tryz.ntmps4
  go_wp2_with fail
  refine (SZ.out _ (bA0 _ _)).mono ?_
  rintro e w1 ⟨rfl, b1⟩
  generalize w.alloc (.cells (SgC sl n cap tl m kap top pr st bu bl q cb pl p cp ul u cu ai fx gc gf) 45) = wA at *
  have A1 : Hid (Below (w.heap.size + 1) wA w1) := by rw [← hw0]; exact b1
  have D1 := Lib.hid (bT B0.out b1)
  clear b1 SZ
  obtain ⟨tl0, t0, t1, t2, t3, t4, t5, t6, t7, t8, t9, t10, t11, t12⟩ := KT.out _ A1.out
  have hs1 := A1.out.size
  go_wp2_with fail
  refine (TO.out _ D1.out).mono ?_
  rintro e w2 ⟨b1, b2, b3, b4, b5, rs1, rfl, e1, o1, bl2⟩
  have D2 := Lib.hid (bT D1.out bl2)
  have A2 := Lib.hid (A1.out.trans (bl2.mono (by omega)))
  have T2 := Lib.hid (SP.out b1 b2 b3 b4 b5 rs1 _ w2 e1 o1)
  have hs2 := A2.out.size
  clear o1 bl2 e1 A1 D1 t0 t1 t2 t3 t4 t5 t6 t7 t8 t9 t10 t11 t12 tl0
  go_wp2_with fail
  refine T2.out.mono ?_
  rintro e w3 ⟨rfl, bl3⟩
  have D3 := Lib.hid (bT D2.out bl3)
  have A3 := Lib.hid (A2.out.trans (bl3.mono (by omega)))
  clear bl3 T2 A2 D2
  obtain ⟨tl0, t0, t1, t2, t3, t4, t5, t6, t7, t8, t9, t10, t11, t12⟩ := KT.out _ A3.out
  have hs3 := A3.out.size
  go_wp2_with fail
  refine (TO.out _ D3.out).mono ?_
  rintro e w4 ⟨c1, c2, c3, c4, c5, rs2, rfl, e2, o2, bl4⟩
  have D4 := Lib.hid (bT D3.out bl4)
  have A4 := Lib.hid (A3.out.trans (bl4.mono (by omega)))
  have E2 := Lib.hid e2
  have O5 := Lib.hid (o2.below (bA0 _ (.cells (SgC (some ⟨c1, 0, none⟩) n n (some ⟨c2, 0, none⟩) m m top pr st bu (some ⟨c3, 0, none⟩) q q (some ⟨c4, 0, none⟩) p p (some ⟨c5, 0, none⟩) u u ai fx gc gf) 49)))
  have X5 := Lib.hid (new_at w4 (.cells (SgC (some ⟨c1, 0, none⟩) n n (some ⟨c2, 0, none⟩) m m top pr st bu (some ⟨c3, 0, none⟩) q q (some ⟨c4, 0, none⟩) p p (some ⟨c5, 0, none⟩) u u ai fx gc gf) 49))
  have D5 := Lib.hid (bA D4.out (.cells (SgC (some ⟨c1, 0, none⟩) n n (some ⟨c2, 0, none⟩) m m top pr st bu (some ⟨c3, 0, none⟩) q q (some ⟨c4, 0, none⟩) p p (some ⟨c5, 0, none⟩) u u ai fx gc gf) 49))
  have hs4 := A4.out.size
  have A5 := Lib.hid (A4.out.trans ((bA0 w4 (.cells (SgC (some ⟨c1, 0, none⟩) n n (some ⟨c2, 0, none⟩) m m top pr st bu (some ⟨c3, 0, none⟩) q q (some ⟨c4, 0, none⟩) p p (some ⟨c5, 0, none⟩) u u ai fx gc gf) 49)).mono (by omega)))
  clear e2 o2 bl4 A3 D3 t0 t1 t2 t3 t4 t5 t6 t7 t8 t9 t10 t11 t12 tl0 A4 D4
  obtain ⟨x0, x1, x2, x3, x4, x5, x6, x7, x8, x9, x10, x11, x12, xf, xl⟩ := cells13 X5.out
  go_wp2_with fail
  generalize w4.alloc (.cells (SgC (some ⟨c1, 0, none⟩) n n (some ⟨c2, 0, none⟩) m m top pr st bu (some ⟨c3, 0, none⟩) q q (some ⟨c4, 0, none⟩) p p (some ⟨c5, 0, none⟩) u u ai fx gc gf) 49) = w5 at *
  refine (IM.out c1 c2 c3 c4 c5 rs2 _ w5 E2.out O5.out D5.out).mono ?_
  rintro e w6 ⟨rfl, bl6⟩
  have D6 := Lib.hid (bT D5.out bl6)
  have hs5 := A5.out.size
  have A6 := Lib.hid (A5.out.trans (bl6.mono (by omega)))
  have O6 := Lib.hid (O5.out.below bl6)
  have X6 := Lib.hid ((bl6.block _ xl).trans X5.out)
  have L6 := Lib.hid (Nat.lt_of_lt_of_le xl bl6.size)
  clear bl6 O5 X5 A5 D5 IM SP x0 x1 x2 x3 x4 x5 x6 x7 x8 x9 x10 x11 x12 xf xl
  have hs6 := A6.out.size
  have KX : Hid (∀ W, Below w6.heap.size w6 W → w.heap.size < W.heap.size ∧ w4.heap.size < W.heap.size ∧ W.cell? ⟨w.heap.size, 0, none⟩ = some (.slice sl n cap) ∧ W.cell? ⟨w.heap.size, 1, none⟩ = some (.slice tl m kap) ∧ W.cell? ⟨w.heap.size, 2, none⟩ = some (.int .i64 top) ∧ W.cell? ⟨w.heap.size, 3, none⟩ = some (.int .i64 pr) ∧ W.cell? ⟨w.heap.size, 4, none⟩ = some (.int .i64 st) ∧ W.cell? ⟨w.heap.size, 5, none⟩ = some (.int .i64 bu) ∧ W.cell? ⟨w.heap.size, 6, none⟩ = some (.slice bl q cb) ∧ W.cell? ⟨w.heap.size, 7, none⟩ = some (.slice pl p cp) ∧ W.cell? ⟨w.heap.size, 8, none⟩ = some (.slice ul u cu) ∧ W.cell? ⟨w.heap.size, 9, none⟩ = some (.int .i64 ai) ∧ W.cell? ⟨w.heap.size, 10, none⟩ = some (.int .i64 fx) ∧ W.cell? ⟨w.heap.size, 11, none⟩ = some (.bool gc) ∧ W.cell? ⟨w.heap.size, 12, none⟩ = some (.bool gf) ∧ W.cell? ⟨w4.heap.size, 0, none⟩ = some (.slice (some ⟨c1, 0, none⟩) n n) ∧ W.cell? ⟨w4.heap.size, 1, none⟩ = some (.slice (some ⟨c2, 0, none⟩) m m) ∧ W.cell? ⟨w4.heap.size, 2, none⟩ = some (.int .i64 top) ∧ W.cell? ⟨w4.heap.size, 3, none⟩ = some (.int .i64 pr) ∧ W.cell? ⟨w4.heap.size, 4, none⟩ = some (.int .i64 st) ∧ W.cell? ⟨w4.heap.size, 5, none⟩ = some (.int .i64 bu) ∧ W.cell? ⟨w4.heap.size, 6, none⟩ = some (.slice (some ⟨c3, 0, none⟩) q q) ∧ W.cell? ⟨w4.heap.size, 7, none⟩ = some (.slice (some ⟨c4, 0, none⟩) p p) ∧ W.cell? ⟨w4.heap.size, 8, none⟩ = some (.slice (some ⟨c5, 0, none⟩) u u) ∧ W.cell? ⟨w4.heap.size, 9, none⟩ = some (.int .i64 ai) ∧ W.cell? ⟨w4.heap.size, 10, none⟩ = some (.int .i64 fx) ∧ W.cell? ⟨w4.heap.size, 11, none⟩ = some (.bool gc) ∧ W.cell? ⟨w4.heap.size, 12, none⟩ = some (.bool gf)) := fun W hW => by
    obtain ⟨k1, k20, k21, k22, k23, k24, k25, k26, k27, k28, k29, k210, k211, k212⟩ := KT.out W (A6.out.trans (hW.mono (by omega)))
    obtain ⟨y0, y1, y2, y3, y4, y5, y6, y7, y8, y9, y10, y11, y12, yf, yl⟩ := cells13 ((hW.block _ L6.out).trans X6.out)
    exact ⟨k1, yl, k20, k21, k22, k23, k24, k25, k26, k27, k28, k29, k210, k211, k212, y0, y1, y2, y3, y4, y5, y6, y7, y8, y9, y10, y11, y12⟩
  go_wp2_with fail
  refine wp_region_held_drew (S := fun W => w.heap.size < W.heap.size ∧ w4.heap.size < W.heap.size ∧ W.cell? ⟨w.heap.size, 0, none⟩ = some (.slice sl n cap) ∧ W.cell? ⟨w.heap.size, 1, none⟩ = some (.slice tl m kap) ∧ W.cell? ⟨w.heap.size, 2, none⟩ = some (.int .i64 top) ∧ W.cell? ⟨w.heap.size, 3, none⟩ = some (.int .i64 pr) ∧ W.cell? ⟨w.heap.size, 4, none⟩ = some (.int .i64 st) ∧ W.cell? ⟨w.heap.size, 5, none⟩ = some (.int .i64 bu) ∧ W.cell? ⟨w.heap.size, 6, none⟩ = some (.slice bl q cb) ∧ W.cell? ⟨w.heap.size, 7, none⟩ = some (.slice pl p cp) ∧ W.cell? ⟨w.heap.size, 8, none⟩ = some (.slice ul u cu) ∧ W.cell? ⟨w.heap.size, 9, none⟩ = some (.int .i64 ai) ∧ W.cell? ⟨w.heap.size, 10, none⟩ = some (.int .i64 fx) ∧ W.cell? ⟨w.heap.size, 11, none⟩ = some (.bool gc) ∧ W.cell? ⟨w.heap.size, 12, none⟩ = some (.bool gf) ∧ W.cell? ⟨w4.heap.size, 0, none⟩ = some (.slice (some ⟨c1, 0, none⟩) n n) ∧ W.cell? ⟨w4.heap.size, 1, none⟩ = some (.slice (some ⟨c2, 0, none⟩) m m) ∧ W.cell? ⟨w4.heap.size, 2, none⟩ = some (.int .i64 top) ∧ W.cell? ⟨w4.heap.size, 3, none⟩ = some (.int .i64 pr) ∧ W.cell? ⟨w4.heap.size, 4, none⟩ = some (.int .i64 st) ∧ W.cell? ⟨w4.heap.size, 5, none⟩ = some (.int .i64 bu) ∧ W.cell? ⟨w4.heap.size, 6, none⟩ = some (.slice (some ⟨c3, 0, none⟩) q q) ∧ W.cell? ⟨w4.heap.size, 7, none⟩ = some (.slice (some ⟨c4, 0, none⟩) p p) ∧ W.cell? ⟨w4.heap.size, 8, none⟩ = some (.slice (some ⟨c5, 0, none⟩) u u) ∧ W.cell? ⟨w4.heap.size, 9, none⟩ = some (.int .i64 ai) ∧ W.cell? ⟨w4.heap.size, 10, none⟩ = some (.int .i64 fx) ∧ W.cell? ⟨w4.heap.size, 11, none⟩ = some (.bool gc) ∧ W.cell? ⟨w4.heap.size, 12, none⟩ = some (.bool gf)) (by kernel_rfl) ?_ (fun hHeld => ?_)
  · exact KX.out _ (Below.refl _ _).drew
  refine wpAnyH_take (i := 0) (oi := _) (v := ?_) rfl (by kernel_rfl) (by kernel_rfl) (by kernel_rfl) (fun _ _ _ h => h) (Or.inl ⟨by rfl, ?_⟩) (by assumption) ?_
  rotate_left
  · first | (intro w hSw; (try dsimp only at hSw); go_simp; done) | (intro w hSw; (try dsimp only at hSw); go_simp; with_reducible rfl)
  try simp only [Act.put, List.setIfInBounds_toArray, List.set_cons_zero, List.set_cons_succ, List.getElem_toArray, List.getElem_cons_zero]
  refine wpAnyH_take (i := 1) (oi := _) (v := ?_) rfl (by kernel_rfl) (by kernel_rfl) (by kernel_rfl) (fun _ _ _ h => h) (Or.inl ⟨by rfl, ?_⟩) (by assumption) ?_
  rotate_left
  · first | (intro w hSw; (try dsimp only at hSw); go_simp; done) | (intro w hSw; (try dsimp only at hSw); go_simp; with_reducible rfl)
  try simp only [Act.put, List.setIfInBounds_toArray, List.set_cons_zero, List.set_cons_succ, List.getElem_toArray, List.getElem_cons_succ, List.getElem_cons_zero]
  refine wpAnyH_ready (rs := [2]) (by kernel_rfl) (by simp) ?_
  refine AllReadyH.cons rfl (fun K hK => ?_) AllReadyH.nil
  go_simp
  go_wp2_with (go_at_call 13; refine (TO.out _ D6.out.drew).mono ?_; rintro e w7 ⟨d1, d2, d3, d4, d5, rs3, rfl, e3, o3, bl7⟩)
  have D7 : Hid (Below w6.heap.size w6 w7) := bT ((Below.refl w6.heap.size w6).drew) bl7
  have O7 := Lib.hid o3
  have E7 := Lib.hid e3
  clear bl7 o3 e3
  refine hK.out _ _ ?_ (fun hHeld => ?_)
  · exact KX.out _ D7.out
  clear hK K
  refine wpAnyH_ready (rs := [3]) (by kernel_rfl) (by simp) ?_
  refine AllReadyH.cons rfl (fun K hK => ?_) AllReadyH.nil
  go_simp
  go_wp2_with (go_at_call 15; refine (TE.out c1 c2 c3 c4 c5 rs2 d1 d2 d3 d4 d5 rs3 _ _ _ E2.out E7.out (O6.out.below D7.out) O7.out).mono ?_; rintro e w8 ⟨rfl, bl8⟩)
  have D8 : Hid (Below w6.heap.size w6 w8) := bT D7.out bl8
  clear bl8
  refine hK.out _ _ ?_ (fun hHeld => ?_)
  · exact KX.out _ D8.out
  clear hK K
  refine wpAnyH_take (i := 4) (oi := _) (v := ?_) rfl (by kernel_rfl) (by kernel_rfl) (by kernel_rfl) (fun _ _ _ h => h) (Or.inl ⟨by rfl, ?_⟩) (by assumption) ?_
  rotate_left
  · first | (intro w hSw; (try dsimp only at hSw); go_simp; done) | (intro w hSw; (try dsimp only at hSw); go_simp; with_reducible rfl)
  try simp only [Act.put, List.setIfInBounds_toArray, List.set_cons_zero, List.set_cons_succ, List.getElem_toArray, List.getElem_cons_succ, List.getElem_cons_zero]
  refine wpAnyH_done (by kernel_rfl) ?_ _

  have D9 := Lib.hid (bT D6.out D8.out)
  clear D8 D7 KX O7 E7 TE TO O6 A6
  go_wp2
  go_ret
  exact ⟨rfl, D9.out⟩

end Go.Proofs.YtanoklpffenljaaGreatDoor
