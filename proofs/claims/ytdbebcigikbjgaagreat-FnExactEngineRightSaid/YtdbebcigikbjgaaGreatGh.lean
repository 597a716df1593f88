/-
  THE LAW FnExactEngineRight: the walk.
-/
import Derived.Test.YtdbebcigikbjgaaGreatTe
import Derived.Test.YtdbebcigikbjgaaGreatGy
import Derived.Test.YtdbebcigikbjgaaGreatGz
import Derived.Test.YtdbebcigikbjgaaGreatEz
import Derived.Test.YtdbebcigikbjgaaGreatEd
namespace Go.Proofs.YtdbebcigikbjgaaGreat
open Go.RowKit
set_option linter.unusedVariables false

theorem TabR.sm {rs : List LSt} {ps : List LPr} (h : TabR rs ps) : ∀ r ∈ rs, SmS r := fun r hr => by
  obtain ⟨_, h2, h3, _⟩ := h
  obtain ⟨⟨s0, s1⟩, ⟨_, l1⟩, g⟩ := h2 r hr
  refine ⟨fun z hz => ?_, by omega⟩
  rcases List.mem_cons.1 hz with rfl | hz
  · have := InRise.mem h3 (show r.1 ∈ idsL rs from List.mem_map.2 ⟨r, hr, rfl⟩)
    omega
  rcases List.mem_cons.1 hz with rfl | hz
  · omega
  · have := InRise.mem g hz
    omega
theorem stg_bare {rs rs' : List LSt} (ps : List LPr) (top pr st bu : Int) (bs : List LPr) (ls : List LPl) (us : List Int) (ai fx : Int) (gc gf : Bool) (h : bareS rs = bareS rs') : B (StgR rs ps top pr st bu bs ls us ai fx gc gf) = B (StgR rs' ps top pr st bu bs ls us ai fx gc gf) := by
  have e := clk_bare ps top pr st bu bs ls h
  have e' : ClkR rs ps top pr st bu bs ls ↔ ClkR rs' ps top pr st bu bs ls := ⟨fun g => B_true (by rw [← e]; exact B_yes g), fun g => B_true (by rw [e]; exact B_yes g)⟩
  exact B_iff (by unfold StgR; rw [e'])
theorem B_eq {P Q : Prop} (h : B P = B Q) : P ↔ Q := ⟨fun g => B_true (by rw [← h]; exact B_yes g), fun g => B_true (by rw [h]; exact B_yes g)⟩
theorem eng_bare {ra ra' rs rs' : List LSt} (qa : List LPr) (zs : List Int) (op : Bool) (ps : List LPr) (top pr st bu : Int) (bs : List LPr) (ls : List LPl) (us : List Int) (ai fx : Int) (gc gf : Bool) (E X Z : Prop) (h1 : bareS ra' = bareS ra) (h2 : bareS rs' = bareS rs) :
    B (EngP E X (IdsR ra' qa zs) op (StgR rs' ps top pr st bu bs ls us ai fx gc gf) (TabA rs' ps ra' qa) Z) = B (EngP E X (IdsR ra qa zs) op (StgR rs ps top pr st bu bs ls us ai fx gc gf) (TabA rs ps ra qa) Z) := by
  have e1 := B_eq (BIds qa zs h1)
  have e2 := B_eq (stg_bare ps top pr st bu bs ls us ai fx gc gf h2)
  refine B_iff ?_
  unfold EngP TabA
  rw [e1, e2, h1, h2]
theorem eng_swap {E X I R Z : Prop} (op : Bool) (rs : List LSt) (ps : List LPr) (ra : List LSt) (qa : List LPr) : B (EngP E X I op R (TabA ra qa rs ps) Z) = B (EngP E X I op R (TabA rs ps ra qa) Z) := by
  refine B_iff ?_
  unfold EngP TabA
  rw [show (bareS ra = bareS rs ∧ qa = ps) ↔ (bareS rs = bareS ra ∧ ps = qa) from ⟨fun h => ⟨h.1.symm, h.2.symm⟩, fun h => ⟨h.1.symm, h.2.symm⟩⟩]

set_option maxRecDepth 100000 in
set_option maxHeartbeats 8000000 in
theorem law3 (sa : Option Addr) (ca : Nat) (ta : Option Addr) (ka : Nat) (xl : Option Addr) (cx : Nat) (op : Bool) (sl : Option Addr) (cap : Nat) (tl : Option Addr) (kap : Nat) (top pr st bu : Int) (bl : Option Addr) (cb : Nat) (pl : Option Addr) (cp : Nat) (ul : Option Addr) (cu : Nat) (ai fx : Int) (gc gf : Bool) (ra : List LSt) (qa : List LPr) (zs : List Int) (rs : List LSt) (ps : List LPr) (bs : List LPr) (ls : List LPl) (us : List Int) (w : World) (h : InE w sa ta xl sl tl bl pl ul ra qa zs rs ps bs ls us) :
    Calls Tryz.prog 3 #[EnV sa ra.length ca ta qa.length ka xl zs.length cx op sl rs.length cap tl ps.length kap top pr st bu bl bs.length cb pl ls.length cp ul us.length cu ai fx gc gf] w fun e w' => e = .returned (.bool true) ∧ Below w.heap.size w w' := by
  have SZ : Hid (∀ W, Below w.heap.size w W → Calls Tryz.prog 4 #[EnV sa ra.length ca ta qa.length ka xl zs.length cx op sl rs.length cap tl ps.length kap top pr st bu bl bs.length cb pl ls.length cp ul us.length cu ai fx gc gf, .int .i64 1048576] W fun e w' => e = .returned (.int .i64 (lft 1048576 (ra.length + totD ra + qa.length + zs.length + (rs.length + totD rs + ps.length + bs.length + ls.length + us.length)))) ∧ Below W.heap.size W w') := fun W hW => szE_any sa ca ta _ ka xl _ cx op sl cap tl _ kap top pr st bu bl _ cb pl _ cp ul _ cu ai fx gc gf ra rs W h.t.ln h.t.lp h.lx h.s.c.t.ln h.s.c.t.lp h.s.c.lb h.s.c.ll h.s.lu (h.t.st.below hW) (h.s.c.t.st.below hW)
  rcases lft_cases 1048576 (ra.length + totD ra + qa.length + zs.length + (rs.length + totD rs + ps.length + bs.length + ls.length + us.length)) (by omega) with ⟨e, hT⟩ | ⟨e, hT⟩
  · rw [e] at SZ
    clear h e hT
    generalize ra.length = na at *
    generalize qa.length = ma at *
    generalize zs.length = x at *
    generalize rs.length = n at *
    generalize ps.length = m at *
    generalize bs.length = q at *
    generalize ls.length = p at *
    generalize us.length = u at *
    go_enter Tryz.func3, Tryz.ntmps3
    go_wp2_with fail
    refine (SZ.out _ (bA0 _ _)).mono ?_
    rintro e w1 ⟨rfl, b1⟩
    have D1 := Lib.hid (bT (bA0 w _) b1)
    clear b1
    go_wp2
    go_ret
    exact ⟨rfl, D1.out⟩
  rw [e] at SZ
  have ha : Sts w sa ra := h.t.st.small (by omega)
  have hs : Sts w sl rs := h.s.c.t.st.small (by omega)
  have hna : ra.length ≤ 1048576 := by omega
  have hma : qa.length ≤ 1048576 := by omega
  have hx : zs.length ≤ 1048576 := by omega
  have hn : rs.length ≤ 1048576 := by omega
  have hm : ps.length ≤ 1048576 := by omega
  have hq : bs.length ≤ 1048576 := by omega
  have hl : ls.length ≤ 1048576 := by omega
  have hu : us.length ≤ 1048576 := by omega
  have TO : Hid (∀ W, Below w.heap.size w W → Calls Tryz.prog 6 #[EnV sa ra.length ca ta qa.length ka xl zs.length cx op sl rs.length cap tl ps.length kap top pr st bu bl bs.length cb pl ls.length cp ul us.length cu ai fx gc gf] W fun e w' => ∃ a1 a2 a3 b1 b2 b3 b4 b5 ra' rs', e = .returned (EnV (some ⟨a1, 0, none⟩) ra.length ra.length (some ⟨a2, 0, none⟩) qa.length qa.length (some ⟨a3, 0, none⟩) zs.length zs.length op (some ⟨b1, 0, none⟩) rs.length rs.length (some ⟨b2, 0, none⟩) ps.length ps.length top pr st bu (some ⟨b3, 0, none⟩) bs.length bs.length (some ⟨b4, 0, none⟩) ls.length ls.length (some ⟨b5, 0, none⟩) us.length us.length ai fx gc gf) ∧ bareS ra' = bareS ra ∧ bareS rs' = bareS rs ∧ OwnE W.heap.size w' a1 a2 a3 b1 b2 b3 b4 b5 ra' qa zs rs' ps bs ls us ∧ Below W.heap.size W w') := fun W hW => toE_any sa ca ta ka xl cx op sl cap tl kap top pr st bu bl cb pl cp ul cu ai fx gc gf ra qa zs rs ps bs ls us W hna hma hx hn hm hq hl hu (ha.below hW) (h.t.pr.below hW) (h.xi.below hW) (hs.below hW) (h.s.c.t.pr.below hW) (h.s.c.bd.below hW) (h.s.c.pl.below hW) (h.s.ui.below hW)
  have TE : Hid (∀ a1 a2 a3 b1 b2 b3 b4 b5 ra1 rs1 c1 c2 c3 d1 d2 d3 d4 d5 ra2 rs2 C D W, bareS ra1 = bareS ra → bareS rs1 = bareS rs → bareS ra2 = bareS ra → bareS rs2 = bareS rs → OwnE C W a1 a2 a3 b1 b2 b3 b4 b5 ra1 qa zs rs1 ps bs ls us → OwnE D W c1 c2 c3 d1 d2 d3 d4 d5 ra2 qa zs rs2 ps bs ls us → Calls Tryz.prog 8 #[EnV (some ⟨a1, 0, none⟩) ra.length ra.length (some ⟨a2, 0, none⟩) qa.length qa.length (some ⟨a3, 0, none⟩) zs.length zs.length op (some ⟨b1, 0, none⟩) rs.length rs.length (some ⟨b2, 0, none⟩) ps.length ps.length top pr st bu (some ⟨b3, 0, none⟩) bs.length bs.length (some ⟨b4, 0, none⟩) ls.length ls.length (some ⟨b5, 0, none⟩) us.length us.length ai fx gc gf, EnV (some ⟨c1, 0, none⟩) ra.length ra.length (some ⟨c2, 0, none⟩) qa.length qa.length (some ⟨c3, 0, none⟩) zs.length zs.length op (some ⟨d1, 0, none⟩) rs.length rs.length (some ⟨d2, 0, none⟩) ps.length ps.length top pr st bu (some ⟨d3, 0, none⟩) bs.length bs.length (some ⟨d4, 0, none⟩) ls.length ls.length (some ⟨d5, 0, none⟩) us.length us.length ai fx gc gf] W fun e w' => e = .returned (.bool true) ∧ Below W.heap.size W w') := fun a1 a2 a3 b1 b2 b3 b4 b5 ra1 rs1 c1 c2 c3 d1 d2 d3 d4 d5 ra2 rs2 C D W f1 e1 f2 e2 o1 o2 => by
    have := eqE_any (some ⟨a1, 0, none⟩) (some ⟨c1, 0, none⟩) ra.length ra.length (some ⟨a2, 0, none⟩) (some ⟨c2, 0, none⟩) qa.length qa.length (some ⟨a3, 0, none⟩) (some ⟨c3, 0, none⟩) zs.length zs.length op (some ⟨b1, 0, none⟩) (some ⟨d1, 0, none⟩) rs.length rs.length (some ⟨b2, 0, none⟩) (some ⟨d2, 0, none⟩) ps.length ps.length top pr st bu (some ⟨b3, 0, none⟩) (some ⟨d3, 0, none⟩) bs.length bs.length (some ⟨b4, 0, none⟩) (some ⟨d4, 0, none⟩) ls.length ls.length (some ⟨b5, 0, none⟩) (some ⟨d5, 0, none⟩) us.length us.length ai fx gc gf ra1 ra2 qa zs rs1 rs2 ps bs ls us W (by rw [bareS_len f1]; exact hna) hma hx (by rw [bareS_len e1]; exact hn) hm hq hl hu (f1.trans f2.symm) (e1.trans e2.symm) o1.t.sts o2.t.sts o1.t.prs o2.t.prs o1.z.ints o2.z.ints o1.s.sts o2.s.sts o1.s.prs o2.s.prs o1.s.bds o2.s.bds o1.s.pls o2.s.pls o1.s.tops o2.s.tops
    rwa [bareS_len f1, bareS_len f2, bareS_len e1, bareS_len e2] at this
  have SP : Hid (∀ a1 a2 a3 b1 b2 b3 b4 b5 ra' rs' C W, bareS ra' = bareS ra → bareS rs' = bareS rs → OwnE C W a1 a2 a3 b1 b2 b3 b4 b5 ra' qa zs rs' ps bs ls us → Calls Tryz.prog 5 #[EnV (some ⟨a1, 0, none⟩) ra.length ra.length (some ⟨a2, 0, none⟩) qa.length qa.length (some ⟨a3, 0, none⟩) zs.length zs.length op (some ⟨b1, 0, none⟩) rs.length rs.length (some ⟨b2, 0, none⟩) ps.length ps.length top pr st bu (some ⟨b3, 0, none⟩) bs.length bs.length (some ⟨b4, 0, none⟩) ls.length ls.length (some ⟨b5, 0, none⟩) us.length us.length ai fx gc gf] W fun e w' => e = .returned (.bool (B (EngP (ra.length = 0 ∧ qa.length = 0) (zs.length = 0) (IdsR ra qa zs) op (StgR rs ps top pr st bu bs ls us ai fx gc gf) (TabA rs ps ra qa) (ZerS rs.length ps.length top pr st bu bs.length ls.length us.length ai fx gc gf)))) ∧ Below W.heap.size W w') := fun a1 a2 a3 b1 b2 b3 b4 b5 ra' rs' C W fa eb o => by
    have la := bareS_len fa
    have lr := bareS_len eb
    have ST : Hid (∀ W', Below W.heap.size W W' → Calls Tryz.prog 12 #[TV (some ⟨a1, 0, none⟩) ra.length ra.length (some ⟨a2, 0, none⟩) qa.length qa.length] W' fun e w' => e = .returned (.bool (B (TabR ra' qa))) ∧ Below W'.heap.size W' w') := fun W' hW => by
      have := str_any (some ⟨a1, 0, none⟩) ra.length (some ⟨a2, 0, none⟩) qa.length ra' qa W' (o.t.sts.below hW) (o.t.prs.below hW)
      rwa [la] at this
    have SI : Hid (∀ W', Below W.heap.size W W' → Calls Tryz.prog 13 #[TV (some ⟨a1, 0, none⟩) ra.length ra.length (some ⟨a2, 0, none⟩) qa.length qa.length, .slice (some ⟨a3, 0, none⟩) zs.length zs.length] W' fun e w' => e = .returned (.bool (B (IdsR ra' qa zs))) ∧ Below W'.heap.size W' w') := fun W' hW => by
      have := sir_any (some ⟨a1, 0, none⟩) ra.length (some ⟨a2, 0, none⟩) qa.length (some ⟨a3, 0, none⟩) zs.length ra' qa zs W' (by omega) hx (o.t.sts.below hW) (o.t.prs.below hW) (o.z.ints.below hW)
      rwa [la] at this
    have SZ' : Hid (∀ W', Below W.heap.size W W' → Calls Tryz.prog 14 #[SgV (some ⟨b1, 0, none⟩) rs.length rs.length (some ⟨b2, 0, none⟩) ps.length ps.length top pr st bu (some ⟨b3, 0, none⟩) bs.length bs.length (some ⟨b4, 0, none⟩) ls.length ls.length (some ⟨b5, 0, none⟩) us.length us.length ai fx gc gf] W' fun e w' => e = .returned (.bool (B (ZerS rs.length ps.length top pr st bu bs.length ls.length us.length ai fx gc gf))) ∧ Below W'.heap.size W' w') := fun W' hW => szer_any _ _ _ _ _ _ _ _ _ _ _ _ _ _ _ _ _ _ _ _ _ _ _ W'
    have SR : Hid (∀ W', Below W.heap.size W W' → Calls Tryz.prog 15 #[SgV (some ⟨b1, 0, none⟩) rs.length rs.length (some ⟨b2, 0, none⟩) ps.length ps.length top pr st bu (some ⟨b3, 0, none⟩) bs.length bs.length (some ⟨b4, 0, none⟩) ls.length ls.length (some ⟨b5, 0, none⟩) us.length us.length ai fx gc gf] W' fun e w' => e = .returned (.bool (B (StgR rs' ps top pr st bu bs ls us ai fx gc gf))) ∧ Below W'.heap.size W' w') := fun W' hW => by
      have o' := o.s.below hW
      have := ssr_any (some ⟨b1, 0, none⟩) rs.length (some ⟨b2, 0, none⟩) ps.length top pr st bu (some ⟨b3, 0, none⟩) bs.length (some ⟨b4, 0, none⟩) ls.length (some ⟨b5, 0, none⟩) us.length ai fx gc gf rs' ps bs ls us W' (by omega) hq hl hu o'.sts o'.prs o'.bds o'.pls o'.tops
      rwa [lr] at this
    have SM : Hid (∀ W', Below W.heap.size W W' → StgR rs' ps top pr st bu bs ls us ai fx gc gf → (ra.length = 0 ∧ qa.length = 0) ∨ TabR ra' qa → Calls Tryz.prog 16 #[TV (some ⟨a1, 0, none⟩) ra.length ra.length (some ⟨a2, 0, none⟩) qa.length qa.length, TV (some ⟨b1, 0, none⟩) rs.length rs.length (some ⟨b2, 0, none⟩) ps.length ps.length] W' fun e w' => e = .returned (.bool (B (TabA ra' qa rs' ps))) ∧ Below W'.heap.size W' w') := fun W' hW hR hE => by
      have o' := o.s.below hW
      have := ssm_any (some ⟨a1, 0, none⟩) ra.length (some ⟨a2, 0, none⟩) qa.length ra' qa (some ⟨b1, 0, none⟩) rs.length (some ⟨b2, 0, none⟩) ps.length rs' ps W' (by omega) hma (by omega) hm (o.t.sts.below hW) (o.t.prs.below hW) o'.sts o'.prs (by
        rcases hE with g | g
        · have : ra' = [] := List.eq_nil_of_length_eq_zero (by omega)
          rw [this]
          intro r hr
          cases hr
        · exact g.sm) hR.1.1.sm
      rwa [la, lr] at this
    have := ser_of (some ⟨a1, 0, none⟩) ra.length ra.length (some ⟨a2, 0, none⟩) qa.length qa.length (some ⟨a3, 0, none⟩) zs.length zs.length op (some ⟨b1, 0, none⟩) rs.length rs.length (some ⟨b2, 0, none⟩) ps.length ps.length top pr st bu (some ⟨b3, 0, none⟩) bs.length bs.length (some ⟨b4, 0, none⟩) ls.length ls.length (some ⟨b5, 0, none⟩) us.length us.length ai fx gc gf (TabR ra' qa) (IdsR ra' qa zs) (StgR rs' ps top pr st bu bs ls us ai fx gc gf) (TabA ra' qa rs' ps) (ZerS rs.length ps.length top pr st bu bs.length ls.length us.length ai fx gc gf) W (fun g => g.2.1) ST SI SZ' SR SM
    rwa [eng_swap op rs' ps ra' qa, eng_bare qa zs op ps top pr st bu bs ls us ai fx gc gf _ _ _ fa eb] at this
  have IM : Hid (∀ a1 a2 a3 b1 b2 b3 b4 b5 ra' rs' C W, bareS ra' = bareS ra → bareS rs' = bareS rs → OwnE C W a1 a2 a3 b1 b2 b3 b4 b5 ra' qa zs rs' ps bs ls us → Calls Tryz.prog 7 #[EnV (some ⟨a1, 0, none⟩) ra.length ra.length (some ⟨a2, 0, none⟩) qa.length qa.length (some ⟨a3, 0, none⟩) zs.length zs.length op (some ⟨b1, 0, none⟩) rs.length rs.length (some ⟨b2, 0, none⟩) ps.length ps.length top pr st bu (some ⟨b3, 0, none⟩) bs.length bs.length (some ⟨b4, 0, none⟩) ls.length ls.length (some ⟨b5, 0, none⟩) us.length us.length ai fx gc gf] W fun e w' => e = .returned (.bool (B (EngP (ra.length = 0 ∧ qa.length = 0) (zs.length = 0) (IdsR ra qa zs) op (StgR rs ps top pr st bu bs ls us ai fx gc gf) (TabA rs ps ra qa) (ZerS rs.length ps.length top pr st bu bs.length ls.length us.length ai fx gc gf)))) ∧ Below W.heap.size W w') := fun a1 a2 a3 b1 b2 b3 b4 b5 ra' rs' C W fa eb o => by
    have la := bareS_len fa
    have lr := bareS_len eb
    have NS : Hid (∀ W', Below W.heap.size W W' → Calls Tryz.prog 21 #[SgV (some ⟨b1, 0, none⟩) rs.length rs.length (some ⟨b2, 0, none⟩) ps.length ps.length top pr st bu (some ⟨b3, 0, none⟩) bs.length bs.length (some ⟨b4, 0, none⟩) ls.length ls.length (some ⟨b5, 0, none⟩) us.length us.length ai fx gc gf] W' fun e w' => e = .returned (.bool (B (ZerS rs.length ps.length top pr st bu bs.length ls.length us.length ai fx gc gf))) ∧ Below W'.heap.size W' w') := fun W' hW => izer_any _ _ _ _ _ _ _ _ _ _ _ _ _ _ _ _ _ _ _ _ _ _ _ W'
    have II : Hid (∀ W', Below W.heap.size W W' → Calls Tryz.prog 22 #[TV (some ⟨a1, 0, none⟩) ra.length ra.length (some ⟨a2, 0, none⟩) qa.length qa.length, .slice (some ⟨a3, 0, none⟩) zs.length zs.length] W' fun e w' => e = .returned (.bool (B (IdsR ra' qa zs))) ∧ Below W'.heap.size W' w') := fun W' hW => by
      have := iir_any (some ⟨a1, 0, none⟩) ra.length (some ⟨a2, 0, none⟩) qa.length (some ⟨a3, 0, none⟩) zs.length ra' qa zs W' (by omega) h.lx (o.t.sts.below hW) (o.t.prs.below hW) h.t.wf (o.z.ints.below hW)
      rwa [la] at this
    have SR : Hid (∀ W', Below W.heap.size W W' → Calls Tryz.prog 23 #[SgV (some ⟨b1, 0, none⟩) rs.length rs.length (some ⟨b2, 0, none⟩) ps.length ps.length top pr st bu (some ⟨b3, 0, none⟩) bs.length bs.length (some ⟨b4, 0, none⟩) ls.length ls.length (some ⟨b5, 0, none⟩) us.length us.length ai fx gc gf] W' fun e w' => e = .returned (.bool (B (StgR rs' ps top pr st bu bs ls us ai fx gc gf))) ∧ Below W'.heap.size W' w') := fun W' hW => by
      have o' := o.s.below hW
      have := isr_any (some ⟨b1, 0, none⟩) rs.length (some ⟨b2, 0, none⟩) ps.length top pr st bu (some ⟨b3, 0, none⟩) bs.length (some ⟨b4, 0, none⟩) ls.length (some ⟨b5, 0, none⟩) us.length ai fx gc gf rs' ps bs ls us W' (by omega) hq hl hu (Nat.le_refl _) o'.sts o'.prs h.s.c.t.wf o'.bds o'.pls o'.tops
      rwa [lr] at this
    have AL : Hid (∀ W', Below W.heap.size W W' → Calls Tryz.prog 24 #[TV (some ⟨b1, 0, none⟩) rs.length rs.length (some ⟨b2, 0, none⟩) ps.length ps.length, TV (some ⟨a1, 0, none⟩) ra.length ra.length (some ⟨a2, 0, none⟩) qa.length qa.length] W' fun e w' => e = .returned (.bool (B (TabA rs' ps ra' qa))) ∧ Below W'.heap.size W' w') := fun W' hW => by
      have o' := o.s.below hW
      have := ial_any (some ⟨b1, 0, none⟩) rs.length (some ⟨b2, 0, none⟩) ps.length rs' ps (some ⟨a1, 0, none⟩) ra.length (some ⟨a2, 0, none⟩) qa.length ra' qa W' (by omega) hm (by omega) hma o'.sts o'.prs (o.t.sts.below hW) (o.t.prs.below hW)
      rwa [la, lr] at this
    have := ier_of (some ⟨a1, 0, none⟩) ra.length ra.length (some ⟨a2, 0, none⟩) qa.length qa.length (some ⟨a3, 0, none⟩) zs.length zs.length op (some ⟨b1, 0, none⟩) rs.length rs.length (some ⟨b2, 0, none⟩) ps.length ps.length top pr st bu (some ⟨b3, 0, none⟩) bs.length bs.length (some ⟨b4, 0, none⟩) ls.length ls.length (some ⟨b5, 0, none⟩) us.length us.length ai fx gc gf (IdsR ra' qa zs) (StgR rs' ps top pr st bu bs ls us ai fx gc gf) (TabA rs' ps ra' qa) (ZerS rs.length ps.length top pr st bu bs.length ls.length us.length ai fx gc gf) W (fun e0 g1 g2 => by
      have r1 := g1.1.1.1.1
      have r2 := bareS_len g2.1
      omega) NS II SR AL
    rwa [eng_bare qa zs op ps top pr st bu bs ls us ai fx gc gf _ _ _ fa eb] at this
  have hneg : ¬ (1048576 - ((ra.length + totD ra + qa.length + zs.length + (rs.length + totD rs + ps.length + bs.length + ls.length + us.length) : Nat) : Int)) < 0 := by omega
  refine law_of (EnC sa ra.length ca ta qa.length ka xl zs.length cx op sl rs.length cap tl ps.length kap top pr st bu bl bs.length cb pl ls.length cp ul us.length cu ai fx gc gf) rfl (fun ds C W => ∃ a1 a2 a3 b1 b2 b3 b4 b5 ra' rs', ds = EnC (some ⟨a1, 0, none⟩) ra.length ra.length (some ⟨a2, 0, none⟩) qa.length qa.length (some ⟨a3, 0, none⟩) zs.length zs.length op (some ⟨b1, 0, none⟩) rs.length rs.length (some ⟨b2, 0, none⟩) ps.length ps.length top pr st bu (some ⟨b3, 0, none⟩) bs.length bs.length (some ⟨b4, 0, none⟩) ls.length ls.length (some ⟨b5, 0, none⟩) us.length us.length ai fx gc gf ∧ bareS ra' = bareS ra ∧ bareS rs' = bareS rs ∧ OwnE C W a1 a2 a3 b1 b2 b3 b4 b5 ra' qa zs rs' ps bs ls us) _ hneg (B (EngP (ra.length = 0 ∧ qa.length = 0) (zs.length = 0) (IdsR ra qa zs) op (StgR rs ps top pr st bu bs ls us ai fx gc gf) (TabA rs ps ra qa) (ZerS rs.length ps.length top pr st bu bs.length ls.length us.length ai fx gc gf))) w ?_ ?_ SZ ?_ ?_ ?_ ?_
  · rintro ds C W ⟨a1, a2, a3, b1, b2, b3, b4, b5, ra', rs', rfl, _⟩
    exact ⟨rfl, by simp [Value.oneCell']⟩
  · rintro ds C W W' ⟨a1, a2, a3, b1, b2, b3, b4, b5, ra', rs', rfl, f, e, o⟩ hB
    exact ⟨a1, a2, a3, b1, b2, b3, b4, b5, ra', rs', rfl, f, e, o.below hB⟩
  · intro W hW
    refine (TO.out W hW).mono ?_
    rintro e w' ⟨a1, a2, a3, b1, b2, b3, b4, b5, ra', rs', rfl, f, g, o, hB⟩
    exact ⟨_, rfl, ⟨a1, a2, a3, b1, b2, b3, b4, b5, ra', rs', rfl, f, g, o⟩, hB⟩
  · rintro ds C W ⟨a1, a2, a3, b1, b2, b3, b4, b5, ra', rs', rfl, f, e, o⟩
    exact SP.out a1 a2 a3 b1 b2 b3 b4 b5 ra' rs' C W f e o
  · rintro ds C W ⟨a1, a2, a3, b1, b2, b3, b4, b5, ra', rs', rfl, f, e, o⟩
    exact IM.out a1 a2 a3 b1 b2 b3 b4 b5 ra' rs' C W f e o
  · rintro ds es C D W ⟨a1, a2, a3, b1, b2, b3, b4, b5, ra1, rs1, rfl, f1, e1, o1⟩ ⟨c1, c2, c3, d1, d2, d3, d4, d5, ra2, rs2, rfl, f2, e2, o2⟩
    exact TE.out a1 a2 a3 b1 b2 b3 b4 b5 ra1 rs1 c1 c2 c3 d1 d2 d3 d4 d5 ra2 rs2 C D W f1 e1 f2 e2 o1 o2

end Go.Proofs.YtdbebcigikbjgaaGreat
