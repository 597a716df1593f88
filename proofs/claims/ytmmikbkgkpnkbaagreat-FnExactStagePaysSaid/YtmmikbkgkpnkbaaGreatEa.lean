/-
  THE LAWS' STAGES: their sizes, how they are held against each other, their copies.
-/
import Derived.Test.YtmmikbkgkpnkbaaGreatCc
namespace Go.Proofs.YtmmikbkgkpnkbaaGreat
open Go.RowKit
set_option linter.unusedVariables false

/-- A stage's cells. -/
abbrev SgC (sl : Option Addr) (n cap : Nat) (sl2 : Option Addr) (m cap2 : Nat) (top pr st bu : Int) (sl3 : Option Addr) (q cap3 : Nat) (sl4 : Option Addr) (p cap4 : Nat) (ul : Option Addr) (t cu : Nat) (ai fx : Int) (gc gf : Bool) : Array Value :=
  #[.slice sl n cap, .slice sl2 m cap2, .int .i64 top, .int .i64 pr, .int .i64 st, .int .i64 bu, .slice sl3 q cap3, .slice sl4 p cap4, .slice ul t cu, .int .i64 ai, .int .i64 fx, .bool gc, .bool gf]
/-- A stage. -/
abbrev SgV (sl : Option Addr) (n cap : Nat) (sl2 : Option Addr) (m cap2 : Nat) (top pr st bu : Int) (sl3 : Option Addr) (q cap3 : Nat) (sl4 : Option Addr) (p cap4 : Nat) (ul : Option Addr) (t cu : Nat) (ai fx : Int) (gc gf : Bool) : Value :=
  .agg #[.slice sl n cap, .slice sl2 m cap2, .int .i64 top, .int .i64 pr, .int .i64 st, .int .i64 bu, .slice sl3 q cap3, .slice sl4 p cap4, .slice ul t cu, .int .i64 ai, .int .i64 fx, .bool gc, .bool gf]
theorem cells13 {w : World} {b : Nat} {t : TypeId} {a0 a1 a2 a3 a4 a5 a6 a7 a8 a9 a10 a11 a12 : Value} (h : w.heap[b]? = some (.cells #[a0, a1, a2, a3, a4, a5, a6, a7, a8, a9, a10, a11, a12] t)) :
    w.cell? ⟨b, 0, none⟩ = some a0 ∧ w.cell? ⟨b, 1, none⟩ = some a1 ∧ w.cell? ⟨b, 2, none⟩ = some a2 ∧ w.cell? ⟨b, 3, none⟩ = some a3 ∧ w.cell? ⟨b, 4, none⟩ = some a4 ∧ w.cell? ⟨b, 5, none⟩ = some a5 ∧ w.cell? ⟨b, 6, none⟩ = some a6 ∧ w.cell? ⟨b, 7, none⟩ = some a7 ∧ w.cell? ⟨b, 8, none⟩ = some a8 ∧ w.cell? ⟨b, 9, none⟩ = some a9 ∧ w.cell? ⟨b, 10, none⟩ = some a10 ∧ w.cell? ⟨b, 11, none⟩ = some a11 ∧ w.cell? ⟨b, 12, none⟩ = some a12 ∧ (∀ o, w.frozen? ⟨b, o, none⟩ = false) ∧ b < w.heap.size := by
  refine ⟨?_, ?_, ?_, ?_, ?_, ?_, ?_, ?_, ?_, ?_, ?_, ?_, ?_, fun o => ?_, (Array.getElem?_eq_some_iff.1 h).1⟩ <;> simp [World.cell?, World.frozen?, h]
set_option maxRecDepth 100000 in
set_option maxHeartbeats 4000000 in
theorem setS8 {w : World} {b : Nat} {t : TypeId} {a0 a1 a2 a3 a4 a5 a6 a7 a8 a9 a10 a11 a12 : Value} (h : w.heap[b]? = some (.cells #[a0, a1, a2, a3, a4, a5, a6, a7, a8, a9, a10, a11, a12] t)) (x0 x1 x2 x3 x4 x5 x6 x7 : Value) :
    ((((((((w.setCell ⟨b, 0, none⟩ x0).setCell ⟨b, 1, none⟩ x1).setCell ⟨b, 2, none⟩ x2).setCell ⟨b, 3, none⟩ x3).setCell ⟨b, 4, none⟩ x4).setCell ⟨b, 5, none⟩ x5).setCell ⟨b, 6, none⟩ x6).setCell ⟨b, 7, none⟩ x7).heap[b]? = some (.cells #[x0, x1, x2, x3, x4, x5, x6, x7, a8, a9, a10, a11, a12] t) := by
  rw [heap_setCell_same _ b _ _ t _ (heap_setCell_same _ b _ _ t _ (heap_setCell_same _ b _ _ t _ (heap_setCell_same _ b _ _ t _ (heap_setCell_same _ b _ _ t _ (heap_setCell_same _ b _ _ t _ (heap_setCell_same _ b _ _ t _ (heap_setCell_same _ b _ _ t _ h)))))))]
  rfl
theorem setS8_other {w : World} {b c : Nat} (hc : c ≠ b) (x0 x1 x2 x3 x4 x5 x6 x7 : Value) :
    ((((((((w.setCell ⟨b, 0, none⟩ x0).setCell ⟨b, 1, none⟩ x1).setCell ⟨b, 2, none⟩ x2).setCell ⟨b, 3, none⟩ x3).setCell ⟨b, 4, none⟩ x4).setCell ⟨b, 5, none⟩ x5).setCell ⟨b, 6, none⟩ x6).setCell ⟨b, 7, none⟩ x7).heap[c]? = w.heap[c]? := by
  rw [Below.heap_setCell _ _ _ _ hc, Below.heap_setCell _ _ _ _ hc, Below.heap_setCell _ _ _ _ hc, Below.heap_setCell _ _ _ _ hc, Below.heap_setCell _ _ _ _ hc, Below.heap_setCell _ _ _ _ hc, Below.heap_setCell _ _ _ _ hc, Below.heap_setCell _ _ _ _ hc]
theorem setS17_other {w : World} {b b' c : Nat} (hc : c ≠ b) (hc' : c ≠ b') (y0 y1 y2 y3 y4 x0 x1 x2 x3 x4 x5 x6 x7 x8 x9 x10 x11 x12 : Value) :
    ((((((((((((((((((w.setCell ⟨b', 8, none⟩ y0).setCell ⟨b', 9, none⟩ y1).setCell ⟨b', 10, none⟩ y2).setCell ⟨b', 11, none⟩ y3).setCell ⟨b', 12, none⟩ y4).setCell ⟨b, 0, none⟩ x0).setCell ⟨b, 1, none⟩ x1).setCell ⟨b, 2, none⟩ x2).setCell ⟨b, 3, none⟩ x3).setCell ⟨b, 4, none⟩ x4).setCell ⟨b, 5, none⟩ x5).setCell ⟨b, 6, none⟩ x6).setCell ⟨b, 7, none⟩ x7).setCell ⟨b, 8, none⟩ x8).setCell ⟨b, 9, none⟩ x9).setCell ⟨b, 10, none⟩ x10).setCell ⟨b, 11, none⟩ x11).setCell ⟨b, 12, none⟩ x12).heap[c]? = w.heap[c]? := by
  rw [Below.heap_setCell _ _ _ _ hc, Below.heap_setCell _ _ _ _ hc, Below.heap_setCell _ _ _ _ hc, Below.heap_setCell _ _ _ _ hc, Below.heap_setCell _ _ _ _ hc, Below.heap_setCell _ _ _ _ hc, Below.heap_setCell _ _ _ _ hc, Below.heap_setCell _ _ _ _ hc, Below.heap_setCell _ _ _ _ hc, Below.heap_setCell _ _ _ _ hc, Below.heap_setCell _ _ _ _ hc, Below.heap_setCell _ _ _ _ hc, Below.heap_setCell _ _ _ _ hc, Below.heap_setCell _ _ _ _ hc', Below.heap_setCell _ _ _ _ hc', Below.heap_setCell _ _ _ _ hc', Below.heap_setCell _ _ _ _ hc', Below.heap_setCell _ _ _ _ hc']
theorem setS_size {w : World} {b : Nat} (x0 x1 x2 x3 x4 x5 x6 x7 : Value) :
    ((((((((w.setCell ⟨b, 0, none⟩ x0).setCell ⟨b, 1, none⟩ x1).setCell ⟨b, 2, none⟩ x2).setCell ⟨b, 3, none⟩ x3).setCell ⟨b, 4, none⟩ x4).setCell ⟨b, 5, none⟩ x5).setCell ⟨b, 6, none⟩ x6).setCell ⟨b, 7, none⟩ x7).heap.size = w.heap.size := by simp [World.setCell]

set_option maxRecDepth 100000 in
set_option maxHeartbeats 2000000 in
/-- eqStage. -/
theorem eqSg_any (sl sl' : Option Addr) (cap cap' : Nat) (tl tl' : Option Addr) (kap kap' : Nat) (top pr st bu : Int) (bl bl' : Option Addr) (cb cb' : Nat) (pl pl' : Option Addr) (cp cp' : Nat) (ul ul' : Option Addr) (cu cu' : Nat) (ai fx : Int) (gc gf : Bool) (rs rs' : List LSt) (ps : List LPr) (bs : List LPr) (ls : List LPl) (us : List Int) (w : World) (hn : rs.length ≤ 1048576) (hm : ps.length ≤ 1048576) (hq : bs.length ≤ 1048576) (hl : ls.length ≤ 1048576) (hu : us.length ≤ 1048576) (hb : bareS rs = bareS rs') (h : Sts w sl rs) (h' : Sts w sl' rs') (hp : Prs w tl ps) (hp' : Prs w tl' ps) (hbs : Prs w bl bs) (hbs' : Prs w bl' bs) (hls : Pls w pl ls) (hls' : Pls w pl' ls) (hus : Ints w ul us) (hus' : Ints w ul' us) :
    Calls Tryz.prog 10 #[SgV sl rs.length cap tl ps.length kap top pr st bu bl bs.length cb pl ls.length cp ul us.length cu ai fx gc gf, SgV sl' rs'.length cap' tl' ps.length kap' top pr st bu bl' bs.length cb' pl' ls.length cp' ul' us.length cu' ai fx gc gf] w fun e w' => e = .returned (.bool true) ∧ Below w.heap.size w w' := by
  have E1 : Hid (∀ W, Below w.heap.size w W → Calls Tryz.prog 30 #[CV sl rs.length cap tl ps.length kap top pr st bu bl bs.length cb pl ls.length cp, CV sl' rs'.length cap' tl' ps.length kap' top pr st bu bl' bs.length cb' pl' ls.length cp'] W fun e w' => e = .returned (.bool true) ∧ Below W.heap.size W w') := fun W hW => eqC_any sl sl' cap cap' tl tl' kap kap' top pr st bu bl bl' cb cb' pl pl' cp cp' rs rs' ps bs ls W hn hm hq hl hb (h.below hW) (h'.below hW) (hp.below hW) (hp'.below hW) (hbs.below hW) (hbs'.below hW) (hls.below hW) (hls'.below hW)
  have E2 : Hid (∀ W, Below w.heap.size w W → Calls Tryz.prog 31 #[.slice ul us.length cu, .slice ul' us.length cu'] W fun e w' => e = .returned (.bool true) ∧ Below W.heap.size W w') := fun W hW => eq_any ul ul' cu cu' us W (by unfold maxLen; omega) (hus.below hW) (hus'.below hW)
  clear h h' hp hp' hb hbs hbs' hls hls' hus hus'
  have hgc : (gc != gc) = false := by cases gc <;> rfl
  have hgf : (gf != gf) = false := by cases gf <;> rfl
  generalize rs.length = n at *
  generalize rs'.length = n' at *
  generalize ps.length = m at *
  generalize bs.length = q at *
  generalize ls.length = p at *
  generalize us.length = u at *
  go_enter Tryz.func10, Tryz.ntmps10
  go_wp2_with fail
  refine (E1.out _ (bA (bA0 _ _) _)).mono ?_
  rintro e w1 ⟨rfl, b1⟩
  have D1 := Lib.hid (bT (bA (bA0 w _) _) b1)
  have A1 := Lib.hid b1
  obtain ⟨hc, hf⟩ := bcell b1
  clear b1
  go_wp2_with fail
  refine (E2.out _ D1.out).mono ?_
  rintro e w2 ⟨rfl, b2⟩
  have D2 := Lib.hid (bT D1.out b2)
  have A2 := Lib.hid (bT A1.out b2)
  clear hc hf
  obtain ⟨hc, hf⟩ := bcell A2.out
  clear b2 A1
  go_wp2
  go_ret
  exact ⟨rfl, D2.out⟩

set_option maxRecDepth 100000 in
set_option maxHeartbeats 2000000 in
/-- szStage. -/
theorem szSg_any (sl : Option Addr) (cap : Nat) (tl : Option Addr) (m kap : Nat) (top pr st bu : Int) (bl : Option Addr) (q cb : Nat) (pl : Option Addr) (p cp : Nat) (ul : Option Addr) (u cu : Nat) (ai fx : Int) (gc gf : Bool) (rs : List LSt) (w : World) (hn : rs.length ≤ maxLen) (hm : m ≤ maxLen) (hq : q ≤ maxLen) (hp : p ≤ maxLen) (hu : u ≤ maxLen) (hz : Sts0 w sl rs) :
    Calls Tryz.prog 6 #[SgV sl rs.length cap tl m kap top pr st bu bl q cb pl p cp ul u cu ai fx gc gf, .int .i64 1048576] w fun e w' => e = .returned (.int .i64 (lft 1048576 (rs.length + totD rs + m + q + p + u))) ∧ Below w.heap.size w w' := by
  have E1 := Lib.hid (szC_any sl cap tl m kap top pr st bu bl q cb pl p cp rs (w.alloc (.cells (SgC sl rs.length cap tl m kap top pr st bu bl q cb pl p cp ul u cu ai fx gc gf) 32)) hn hm hq hp (hz.below (bA0 _ _)))
  have B0 := Lib.hid (bA0 w (.cells (SgC sl rs.length cap tl m kap top pr st bu bl q cb pl p cp ul u cu ai fx gc gf) 32))
  have TA := Lib.hid (show (w.alloc (.cells (SgC sl rs.length cap tl m kap top pr st bu bl q cb pl p cp ul u cu ai fx gc gf) 32)).heap[w.heap.size]? = some (.cells (SgC sl rs.length cap tl m kap top pr st bu bl q cb pl p cp ul u cu ai fx gc gf) 32) from new_at _ _)
  have KC : Hid (∀ W, Below (w.heap.size + 1) (w.alloc (.cells (SgC sl rs.length cap tl m kap top pr st bu bl q cb pl p cp ul u cu ai fx gc gf) 32)) W → W.cell? ⟨w.heap.size, 8, none⟩ = some (.slice ul u cu)) := fun W hW => by
    have := (hW.block w.heap.size (by omega)).trans TA.out
    exact (cells13 this).2.2.2.2.2.2.2.2.1
  have hS : (w.alloc (.cells (SgC sl rs.length cap tl m kap top pr st bu bl q cb pl p cp ul u cu ai fx gc gf) 32)).heap.size = w.heap.size + 1 := by simp
  clear hz TA
  rcases lft_cases 1048576 (rs.length + totD rs + m + q + p) (by omega) with ⟨e, h⟩ | ⟨e, h⟩
  · rw [e] at E1
    have F := Lib.hid (show lft 1048576 (rs.length + totD rs + m + q + p + u) = -1 from lft_neg _ _ _ h)
    rw [F.out]
    clear F e h KC
    generalize rs.length = n at *
    go_enter Tryz.func6, Tryz.ntmps6
    go_wp2_with fail
    refine E1.out.mono ?_
    rintro e w1 ⟨rfl, b1⟩
    have D1 := Lib.hid (bT B0.out b1)
    clear b1
    go_wp2
    go_ret
    exact ⟨rfl, D1.out⟩
  rw [e] at E1
  have hneg : ¬ (1048576 - ((rs.length + totD rs + m + q + p : Nat) : Int)) < 0 := by omega
  have E2 := Lib.hid (fun W => szI_any ul u cu (1048576 - ((rs.length + totD rs + m + q + p : Nat) : Int)) W hu (by omega) (by omega))
  rw [← lft_add 1048576 (rs.length + totD rs + m + q + p) u h]
  have LC := lft_cases (1048576 - ((rs.length + totD rs + m + q + p : Nat) : Int)) u (by omega)
  clear e h
  generalize (1048576 - ((rs.length + totD rs + m + q + p : Nat) : Int)) = z at *
  generalize lft z u = x at *
  generalize rs.length = n at *
  go_enter Tryz.func6, Tryz.ntmps6
  go_wp2_with fail
  refine E1.out.mono ?_
  rintro e w1 ⟨rfl, b1⟩
  have D1 := Lib.hid (bT B0.out b1)
  have c8 := KC.out _ (by rw [← hS]; exact b1)
  clear b1
  go_wp2_with fail
  refine (E2.out _).mono ?_
  rintro e w2 ⟨rfl, b2⟩
  have D2 := Lib.hid (bT D1.out b2)
  clear b2 c8
  rcases LC with ⟨rfl, h9⟩ | ⟨hz9, h9⟩
  · go_wp2
    go_ret
    exact ⟨rfl, D2.out⟩
  · have hz0 : ¬ x < 0 := by omega
    clear hz9
    go_wp2
    go_ret
    exact ⟨rfl, D2.out⟩

/-- A stage in memory of its own, from block C on. -/
structure OwnSg (C : Nat) (w : World) (b1 b2 b3 b4 b5 : Nat) (rs : List LSt) (ps : List LPr) (bs : List LPr) (ls : List LPl) (us : List Int) : Prop where
  c : OwnC C w b1 b2 b3 b4 rs ps bs ls
  r5 : RowZ w b5 us
  lo5 : C ≤ b5
theorem OwnC.frame {C : Nat} {w w' : World} {b1 b2 b3 b4 : Nat} {rs : List LSt} {ps : List LPr} {bs : List LPr} {ls : List LPl} (h : OwnC C w b1 b2 b3 b4 rs ps bs ls) (hf : ∀ c, C ≤ c → w'.heap[c]? = w.heap[c]?) : OwnC C w' b1 b2 b3 b4 rs ps bs ls :=
  ⟨h.t.frame hf, h.r3.frame (hf _ h.lo3), h.r4.frame (hf _ h.lo4), h.lo3, h.lo4⟩
theorem OwnC.lower {C D : Nat} {w : World} {b1 b2 b3 b4 : Nat} {rs : List LSt} {ps : List LPr} {bs : List LPr} {ls : List LPl} (h : OwnC C w b1 b2 b3 b4 rs ps bs ls) (hd : D ≤ C) : OwnC D w b1 b2 b3 b4 rs ps bs ls :=
  ⟨h.t.lower hd, h.r3, h.r4, Nat.le_trans hd h.lo3, Nat.le_trans hd h.lo4⟩
theorem RowZ.frame {w w' : World} {g : Nat} {zs : List Int} (h : RowZ w g zs) (hf : w'.heap[g]? = w.heap[g]?) : RowZ w' g zs := hf.trans h
theorem OwnSg.below {C : Nat} {w w' : World} {b1 b2 b3 b4 b5 : Nat} {rs : List LSt} {ps : List LPr} {bs : List LPr} {ls : List LPl} {us : List Int} (h : OwnSg C w b1 b2 b3 b4 b5 rs ps bs ls us) (hb : Below w.heap.size w w') : OwnSg C w' b1 b2 b3 b4 b5 rs ps bs ls us := ⟨h.c.below hb, h.r5.below hb, h.lo5⟩
theorem OwnSg.sts {C : Nat} {w : World} {b1 b2 b3 b4 b5 : Nat} {rs : List LSt} {ps : List LPr} {bs : List LPr} {ls : List LPl} {us : List Int} (h : OwnSg C w b1 b2 b3 b4 b5 rs ps bs ls us) : Sts w (some ⟨b1, 0, none⟩) rs := h.c.sts
theorem OwnSg.prs {C : Nat} {w : World} {b1 b2 b3 b4 b5 : Nat} {rs : List LSt} {ps : List LPr} {bs : List LPr} {ls : List LPl} {us : List Int} (h : OwnSg C w b1 b2 b3 b4 b5 rs ps bs ls us) : Prs w (some ⟨b2, 0, none⟩) ps := h.c.prs
theorem OwnSg.bds {C : Nat} {w : World} {b1 b2 b3 b4 b5 : Nat} {rs : List LSt} {ps : List LPr} {bs : List LPr} {ls : List LPl} {us : List Int} (h : OwnSg C w b1 b2 b3 b4 b5 rs ps bs ls us) : Prs w (some ⟨b3, 0, none⟩) bs := h.c.bds
theorem OwnSg.pls {C : Nat} {w : World} {b1 b2 b3 b4 b5 : Nat} {rs : List LSt} {ps : List LPr} {bs : List LPr} {ls : List LPl} {us : List Int} (h : OwnSg C w b1 b2 b3 b4 b5 rs ps bs ls us) : Pls w (some ⟨b4, 0, none⟩) ls := h.c.pls
theorem OwnSg.tops {C : Nat} {w : World} {b1 b2 b3 b4 b5 : Nat} {rs : List LSt} {ps : List LPr} {bs : List LPr} {ls : List LPl} {us : List Int} (h : OwnSg C w b1 b2 b3 b4 b5 rs ps bs ls us) : Ints w (some ⟨b5, 0, none⟩) us := h.r5.ints

set_option maxRecDepth 100000 in
set_option maxHeartbeats 4000000 in
/-- toStage. -/
theorem toSg_any (sl : Option Addr) (cap : Nat) (tl : Option Addr) (kap : Nat) (top pr st bu : Int) (bl : Option Addr) (cb : Nat) (pl : Option Addr) (cp : Nat) (ul : Option Addr) (cu : Nat) (ai fx : Int) (gc gf : Bool) (rs : List LSt) (ps : List LPr) (bs : List LPr) (ls : List LPl) (us : List Int) (w : World) (hn : rs.length ≤ 1048576) (hm : ps.length ≤ 1048576) (hq : bs.length ≤ 1048576) (hl : ls.length ≤ 1048576) (hu : us.length ≤ 1048576) (hz : Sts w sl rs) (hp : Prs w tl ps) (hbs : Prs w bl bs) (hls : Pls w pl ls) (hus : Ints w ul us) :
    Calls Tryz.prog 8 #[SgV sl rs.length cap tl ps.length kap top pr st bu bl bs.length cb pl ls.length cp ul us.length cu ai fx gc gf] w fun e w' => ∃ b1 b2 b3 b4 b5 rs', e = .returned (SgV (some ⟨b1, 0, none⟩) rs.length rs.length (some ⟨b2, 0, none⟩) ps.length ps.length top pr st bu (some ⟨b3, 0, none⟩) bs.length bs.length (some ⟨b4, 0, none⟩) ls.length ls.length (some ⟨b5, 0, none⟩) us.length us.length ai fx gc gf) ∧ bareS rs' = bareS rs ∧ OwnSg w.heap.size w' b1 b2 b3 b4 b5 rs' ps bs ls us ∧ Below w.heap.size w w' := by
  have E1 : Hid (∀ W, Below w.heap.size w W → Calls Tryz.prog 24 #[CV sl rs.length cap tl ps.length kap top pr st bu bl bs.length cb pl ls.length cp] W fun e w' => ∃ b1 b2 b3 b4 rs', e = .returned (CV (some ⟨b1, 0, none⟩) rs.length rs.length (some ⟨b2, 0, none⟩) ps.length ps.length top pr st bu (some ⟨b3, 0, none⟩) bs.length bs.length (some ⟨b4, 0, none⟩) ls.length ls.length) ∧ bareS rs' = bareS rs ∧ OwnC W.heap.size w' b1 b2 b3 b4 rs' ps bs ls ∧ Below W.heap.size W w') := fun W hW => toC_any sl cap tl kap top pr st bu bl cb pl cp rs ps bs ls W hn hm hq hl (hz.below hW) (hp.below hW) (hbs.below hW) (hls.below hW)
  have E2 : Hid (∀ W, Below w.heap.size w W → Calls Tryz.prog 25 #[.slice ul us.length cu] W fun e w' => e = .returned (.slice (some ⟨W.heap.size, 0, none⟩) us.length us.length) ∧ RowZ w' W.heap.size us ∧ Below W.heap.size W w') := fun W hW => toO_any ul cu us W hu (hus.below hW)
  clear hz hp hbs hls hus
  generalize rs.length = n at *
  generalize ps.length = m at *
  generalize bs.length = q at *
  generalize ls.length = p at *
  generalize us.length = u at *
  go_enter Tryz.func8, Tryz.ntmps8
  go_wp2_with fail
  refine (E1.out _ (bA (bA (bA0 _ _) _) _)).mono ?_
  rintro e w1 ⟨b1, b2, b3, b4, rs', rfl, eb, t1, bb1⟩
  obtain ⟨n0, n1, n2, n3⟩ := three_new w (.cells (SgC sl n cap tl m kap top pr st bu bl q cb pl p cp ul u cu ai fx gc gf) 32) (.cells (SgC none 0 0 none 0 0 0 0 0 0 none 0 0 none 0 0 none 0 0 0 0 false false) 44) (.cells (SgC none 0 0 none 0 0 0 0 0 0 none 0 0 none 0 0 none 0 0 0 0 false false) 44)
  have BB := Lib.hid (bT (bA (bA (bA0 w (.cells (SgC sl n cap tl m kap top pr st bu bl q cb pl p cp ul u cu ai fx gc gf) 32)) (.cells (SgC none 0 0 none 0 0 0 0 0 0 none 0 0 none 0 0 none 0 0 0 0 false false) 44)) (.cells (SgC none 0 0 none 0 0 0 0 0 0 none 0 0 none 0 0 none 0 0 0 0 false false) 44)) bb1)
  rw [n3] at t1 bb1
  have hz := bb1.size
  rw [n3] at hz
  have m0 := (bb1.block w.heap.size (by omega)).trans n0
  have m1 := (bb1.block (w.heap.size + 1) (by omega)).trans n1
  have m2 := (bb1.block (w.heap.size + 1 + 1) (by omega)).trans n2
  have T1 := Lib.hid t1
  have EB := Lib.hid eb
  clear t1 bb1 eb n0 n1 n2 n3
  obtain ⟨c0, c1, c2, c3, c4, c5, c6, c7, c8, c9, c10, c11, c12, cf, cl⟩ := cells13 m0
  obtain ⟨d0, d1, d2, d3, d4, d5, d6, d7, d8, d9, d10, d11, d12, df, dl⟩ := cells13 m2
  have M0 := Lib.hid m0
  have M1 := Lib.hid m1
  have M2 := Lib.hid (setS8 m2 (.slice (some ⟨b1, 0, none⟩) n n) (.slice (some ⟨b2, 0, none⟩) m m) (.int .i64 top) (.int .i64 pr) (.int .i64 st) (.int .i64 bu) (.slice (some ⟨b3, 0, none⟩) q q) (.slice (some ⟨b4, 0, none⟩) p p))
  have O2 := Lib.hid (fun c hc => setS8_other (w := w1) (b := w.heap.size + 1 + 1) (c := c) hc (.slice (some ⟨b1, 0, none⟩) n n) (.slice (some ⟨b2, 0, none⟩) m m) (.int .i64 top) (.int .i64 pr) (.int .i64 st) (.int .i64 bu) (.slice (some ⟨b3, 0, none⟩) q q) (.slice (some ⟨b4, 0, none⟩) p p))
  have hle : w.heap.size ≤ (⟨w.heap.size + 1 + 1, 0, none⟩ : Addr).block := by show w.heap.size ≤ w.heap.size + 1 + 1; omega
  have B1 := Lib.hid (((((((((BB.out.setCell (p := ⟨w.heap.size + 1 + 1, 0, none⟩) hle (.slice (some ⟨b1, 0, none⟩) n n)).setCell (p := ⟨w.heap.size + 1 + 1, 1, none⟩) hle (.slice (some ⟨b2, 0, none⟩) m m)).setCell (p := ⟨w.heap.size + 1 + 1, 2, none⟩) hle (.int .i64 top)).setCell (p := ⟨w.heap.size + 1 + 1, 3, none⟩) hle (.int .i64 pr)).setCell (p := ⟨w.heap.size + 1 + 1, 4, none⟩) hle (.int .i64 st)).setCell (p := ⟨w.heap.size + 1 + 1, 5, none⟩) hle (.int .i64 bu)).setCell (p := ⟨w.heap.size + 1 + 1, 6, none⟩) hle (.slice (some ⟨b3, 0, none⟩) q q)).setCell (p := ⟨w.heap.size + 1 + 1, 7, none⟩) hle (.slice (some ⟨b4, 0, none⟩) p p)))
  have hsz : ((((((((w1.setCell ⟨w.heap.size + 1 + 1, 0, none⟩ (.slice (some ⟨b1, 0, none⟩) n n)).setCell ⟨w.heap.size + 1 + 1, 1, none⟩ (.slice (some ⟨b2, 0, none⟩) m m)).setCell ⟨w.heap.size + 1 + 1, 2, none⟩ (.int .i64 top)).setCell ⟨w.heap.size + 1 + 1, 3, none⟩ (.int .i64 pr)).setCell ⟨w.heap.size + 1 + 1, 4, none⟩ (.int .i64 st)).setCell ⟨w.heap.size + 1 + 1, 5, none⟩ (.int .i64 bu)).setCell ⟨w.heap.size + 1 + 1, 6, none⟩ (.slice (some ⟨b3, 0, none⟩) q q)).setCell ⟨w.heap.size + 1 + 1, 7, none⟩ (.slice (some ⟨b4, 0, none⟩) p p)).heap.size = w1.heap.size := setS_size _ _ _ _ _ _ _ _
  clear m0 m1 m2 BB hle
  go_wp2_with fail
  refine (E2.out _ B1.out).mono ?_
  rintro e w2 ⟨rfl, r2, bb2⟩
  rw [hsz] at r2 ⊢
  have b2s := bb2.size
  have k1 := (bb2.block (w.heap.size + 1) (by rw [hsz]; omega)).trans ((O2.out _ (by omega)).trans M1.out)
  have k0 := (bb2.block w.heap.size (by rw [hsz]; omega)).trans ((O2.out _ (by omega)).trans M0.out)
  have k2 := (bb2.block (w.heap.size + 1 + 1) (by rw [hsz]; omega)).trans M2.out
  have T2 := Lib.hid ((T1.out.frame (fun c hc => O2.out c (by omega))).below bb2)
  have R2 := Lib.hid r2
  have B2 := Lib.hid (bT B1.out bb2)
  rw [hsz] at b2s
  clear T1 M0 M1 M2 O2 B1 r2 bb2 hsz c0 c1 c2 c3 c4 c5 c6 c7 c8 c9 c10 c11 c12 cf cl d0 d1 d2 d3 d4 d5 d6 d7 d8 d9 d10 d11 d12 df dl
  generalize w1.heap.size = b5 at *
  obtain ⟨c0, c1, c2, c3, c4, c5, c6, c7, c8, c9, c10, c11, c12, cf, cl⟩ := cells13 k0
  obtain ⟨d0, d1, d2, d3, d4, d5, d6, d7, d8, d9, d10, d11, d12, df, dl⟩ := cells13 k2
  have fl := (cells13 k1).2.2.2.2.2.2.2.2.2.2.2.2.2
  obtain ⟨f0, f1, f2, f3, f4, f5, f6, f7, f8, f9, f10, f11, f12, -, -⟩ := cells13 k1
  obtain ⟨ff, fg⟩ := fl
  have O9 := Lib.hid (fun (c : Nat) (h : c ≠ w.heap.size + 1) (h' : c ≠ w.heap.size + 1 + 1) => setS17_other (w := w2) h h' (.slice (some ⟨b5, 0, none⟩) u u) (.int .i64 ai) (.int .i64 fx) (.bool gc) (.bool gf) (.slice (some ⟨b1, 0, none⟩) n n) (.slice (some ⟨b2, 0, none⟩) m m) (.int .i64 top) (.int .i64 pr) (.int .i64 st) (.int .i64 bu) (.slice (some ⟨b3, 0, none⟩) q q) (.slice (some ⟨b4, 0, none⟩) p p) (.slice (some ⟨b5, 0, none⟩) u u) (.int .i64 ai) (.int .i64 fx) (.bool gc) (.bool gf))
  have hle : w.heap.size ≤ w.heap.size + 1 := by omega
  have hle2 : w.heap.size ≤ w.heap.size + 1 + 1 := by omega
  have B9 := Lib.hid (((((((((((((((((((B2.out.setCell (p := ⟨w.heap.size + 1 + 1, 8, none⟩) hle2 (.slice (some ⟨b5, 0, none⟩) u u)).setCell (p := ⟨w.heap.size + 1 + 1, 9, none⟩) hle2 (.int .i64 ai)).setCell (p := ⟨w.heap.size + 1 + 1, 10, none⟩) hle2 (.int .i64 fx)).setCell (p := ⟨w.heap.size + 1 + 1, 11, none⟩) hle2 (.bool gc)).setCell (p := ⟨w.heap.size + 1 + 1, 12, none⟩) hle2 (.bool gf)).setCell (p := ⟨w.heap.size + 1, 0, none⟩) hle (.slice (some ⟨b1, 0, none⟩) n n)).setCell (p := ⟨w.heap.size + 1, 1, none⟩) hle (.slice (some ⟨b2, 0, none⟩) m m)).setCell (p := ⟨w.heap.size + 1, 2, none⟩) hle (.int .i64 top)).setCell (p := ⟨w.heap.size + 1, 3, none⟩) hle (.int .i64 pr)).setCell (p := ⟨w.heap.size + 1, 4, none⟩) hle (.int .i64 st)).setCell (p := ⟨w.heap.size + 1, 5, none⟩) hle (.int .i64 bu)).setCell (p := ⟨w.heap.size + 1, 6, none⟩) hle (.slice (some ⟨b3, 0, none⟩) q q)).setCell (p := ⟨w.heap.size + 1, 7, none⟩) hle (.slice (some ⟨b4, 0, none⟩) p p)).setCell (p := ⟨w.heap.size + 1, 8, none⟩) hle (.slice (some ⟨b5, 0, none⟩) u u)).setCell (p := ⟨w.heap.size + 1, 9, none⟩) hle (.int .i64 ai)).setCell (p := ⟨w.heap.size + 1, 10, none⟩) hle (.int .i64 fx)).setCell (p := ⟨w.heap.size + 1, 11, none⟩) hle (.bool gc)).setCell (p := ⟨w.heap.size + 1, 12, none⟩) hle (.bool gf)))
  have P := Lib.hid (show OwnSg w.heap.size _ b1 b2 b3 b4 b5 rs' ps bs ls us from ⟨(T2.out.frame (fun c hc => O9.out c (by omega) (by omega))).lower (by omega), R2.out.frame (O9.out b5 (by omega) (by omega)), by omega⟩)
  clear T2 R2 B2 O9 hle hle2 k0 k1 k2
  go_wp2
  refine bodyPost_ret (v := SgV (some ⟨b1, 0, none⟩) n n (some ⟨b2, 0, none⟩) m m top pr st bu (some ⟨b3, 0, none⟩) q q (some ⟨b4, 0, none⟩) p p (some ⟨b5, 0, none⟩) u u ai fx gc gf) (by simp [results, Tryz.results8, go_sem, f0, f1, f2, f3, f4, f5, f6, f7, f8, f9, f10, f11, f12]) rfl ⟨b1, b2, b3, b4, b5, rs', rfl, EB.out, P.out, B9.out⟩
end Go.Proofs.YtmmikbkgkpnkbaaGreat
