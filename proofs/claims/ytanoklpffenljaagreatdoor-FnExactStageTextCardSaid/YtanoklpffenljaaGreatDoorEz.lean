/-
  THE LAWS' STAGES: their sizes, how they are held against each other, their copies.
  THE PARTS OF A RIGHT STAGE: money not below nought, tops, and who has won.
  IS A STAGE RIGHT? As the program answers it.
-/
import Derived.Test.YtanoklpffenljaaGreatDoorCc
import Derived.Test.YtanoklpffenljaaGreatDoorCd
import Derived.Test.YtanoklpffenljaaGreatDoorCf
namespace Go.Proofs.YtanoklpffenljaaGreatDoor
open Go.RowKit
set_option linter.unusedVariables false

/-- A stage's cells. -/
abbrev SgC (sl : Option Addr) (n cap : Nat) (sl2 : Option Addr) (m cap2 : Nat) (top pr st bu : Int) (sl3 : Option Addr) (q cap3 : Nat) (sl4 : Option Addr) (p cap4 : Nat) (ul : Option Addr) (t cu : Nat) (ai fx : Int) (gc gf : Bool) : Array Value :=
  #[.slice sl n cap, .slice sl2 m cap2, .int .i64 top, .int .i64 pr, .int .i64 st, .int .i64 bu, .slice sl3 q cap3, .slice sl4 p cap4, .slice ul t cu, .int .i64 ai, .int .i64 fx, .bool gc, .bool gf]
/-- A stage. -/
abbrev SgV (sl : Option Addr) (n cap : Nat) (sl2 : Option Addr) (m cap2 : Nat) (top pr st bu : Int) (sl3 : Option Addr) (q cap3 : Nat) (sl4 : Option Addr) (p cap4 : Nat) (ul : Option Addr) (t cu : Nat) (ai fx : Int) (gc gf : Bool) : Value :=
  .agg #[.slice sl n cap, .slice sl2 m cap2, .int .i64 top, .int .i64 pr, .int .i64 st, .int .i64 bu, .slice sl3 q cap3, .slice sl4 p cap4, .slice ul t cu, .int .i64 ai, .int .i64 fx, .bool gc, .bool gf]
theorem cells13 {w : World} {b : Nat} {t : TypeId} {a0 a1 a2 a3 a4 a5 a6 a7 a8 a9 a10 a11 a12 : Value} (h : w.heap[b]? = some (.cells #[a0, a1, a2, a3, a4, a5, a6, a7, a8, a9, a10, a11, a12] t)) :
    w.cell? ⟨b, 0, none⟩ = some a0 ∧ w.cell? ⟨b, 1, none⟩ = some a1 ∧ w.cell? ⟨b, 2, none⟩ = some a2 ∧ w.cell? ⟨b, 3, none⟩ = some a3 ∧ w.cell? ⟨b, 4, none⟩ = some a4 ∧ w.cell? ⟨b, 5, none⟩ = some a5 ∧ w.cell? ⟨b, 6, none⟩ = some a6 ∧ w.cell? ⟨b, 7, none⟩ = some a7 ∧ w.cell? ⟨b, 8, none⟩ = some a8 ∧ w.cell? ⟨b, 9, none⟩ = some a9 ∧ w.cell? ⟨b, 10, none⟩ = some a10 ∧ w.cell? ⟨b, 11, none⟩ = some a11 ∧ w.cell? ⟨b, 12, none⟩ = some a12 ∧ (∀ o, w.frozen? ⟨b, o, none⟩ = false) ∧ b < w.heap.size := by
  refine ⟨?_, ?_, ?_, ?_, ?_, ?_, ?_, ?_, ?_, ?_, ?_, ?_, ?_, fun o => ?_, (Array.getElem?_eq_some_iff.1 h).1⟩ <;> simp [World.cell?, World.frozen?, h]
set_option maxRecDepth 100000 in
set_option maxHeartbeats 4000000 in
theorem setS8 {w : World} {b : Nat} {t : TypeId} {a0 a1 a2 a3 a4 a5 a6 a7 a8 a9 a10 a11 a12 : Value} (h : w.heap[b]? = some (.cells #[a0, a1, a2, a3, a4, a5, a6, a7, a8, a9, a10, a11, a12] t)) (x0 x1 x2 x3 x4 x5 x6 x7 : Value) :
    ((((((((w.setCell ⟨b, 0, none⟩ x0).setCell ⟨b, 1, none⟩ x1).setCell ⟨b, 2, none⟩ x2).setCell ⟨b, 3, none⟩ x3).setCell ⟨b, 4, none⟩ x4).setCell ⟨b, 5, none⟩ x5).setCell ⟨b, 6, none⟩ x6).setCell ⟨b, 7, none⟩ x7).heap[b]? = some (.cells #[x0, x1, x2, x3, x4, x5, x6, x7, a8, a9, a10, a11, a12] t) := by
  rw [heap_setCell_same _ b _ _ t _ (heap_setCell_same _ b _ _ t _ (heap_setCell_same _ b _ _ t _ (heap_setCell_same _ b _ _ t _ (heap_setCell_same _ b _ _ t _ (heap_setCell_same _ b _ _ t _ (heap_setCell_same _ b _ _ t _ (heap_setCell_same _ b _ _ t _ h)))))))]
  rfl
theorem setS8_other {w : World} {b c : Nat} (hc : c ≠ b) (x0 x1 x2 x3 x4 x5 x6 x7 : Value) :
    ((((((((w.setCell ⟨b, 0, none⟩ x0).setCell ⟨b, 1, none⟩ x1).setCell ⟨b, 2, none⟩ x2).setCell ⟨b, 3, none⟩ x3).setCell ⟨b, 4, none⟩ x4).setCell ⟨b, 5, none⟩ x5).setCell ⟨b, 6, none⟩ x6).setCell ⟨b, 7, none⟩ x7).heap[c]? = w.heap[c]? := by
  rw [Below.heap_setCell _ _ _ _ hc, Below.heap_setCell _ _ _ _ hc, Below.heap_setCell _ _ _ _ hc, Below.heap_setCell _ _ _ _ hc, Below.heap_setCell _ _ _ _ hc, Below.heap_setCell _ _ _ _ hc, Below.heap_setCell _ _ _ _ hc, Below.heap_setCell _ _ _ _ hc]
theorem setS17_other {w : World} {b b' c : Nat} (hc : c ≠ b) (hc' : c ≠ b') (y0 y1 y2 y3 y4 x0 x1 x2 x3 x4 x5 x6 x7 x8 x9 x10 x11 x12 : Value) :
    ((((((((((((((((((w.setCell ⟨b', 8, none⟩ y0).setCell ⟨b', 9, none⟩ y1).setCell ⟨b', 10, none⟩ y2).setCell ⟨b', 11, none⟩ y3).setCell ⟨b', 12, none⟩ y4).setCell ⟨b, 0, none⟩ x0).setCell ⟨b, 1, none⟩ x1).setCell ⟨b, 2, none⟩ x2).setCell ⟨b, 3, none⟩ x3).setCell ⟨b, 4, none⟩ x4).setCell ⟨b, 5, none⟩ x5).setCell ⟨b, 6, none⟩ x6).setCell ⟨b, 7, none⟩ x7).setCell ⟨b, 8, none⟩ x8).setCell ⟨b, 9, none⟩ x9).setCell ⟨b, 10, none⟩ x10).setCell ⟨b, 11, none⟩ x11).setCell ⟨b, 12, none⟩ x12).heap[c]? = w.heap[c]? := by
  rw [Below.heap_setCell _ _ _ _ hc, Below.heap_setCell _ _ _ _ hc, Below.heap_setCell _ _ _ _ hc, Below.heap_setCell _ _ _ _ hc, Below.heap_setCell _ _ _ _ hc, Below.heap_setCell _ _ _ _ hc, Below.heap_setCell _ _ _ _ hc, Below.heap_setCell _ _ _ _ hc, Below.heap_setCell _ _ _ _ hc, Below.heap_setCell _ _ _ _ hc, Below.heap_setCell _ _ _ _ hc, Below.heap_setCell _ _ _ _ hc, Below.heap_setCell _ _ _ _ hc, Below.heap_setCell _ _ _ _ hc', Below.heap_setCell _ _ _ _ hc', Below.heap_setCell _ _ _ _ hc', Below.heap_setCell _ _ _ _ hc', Below.heap_setCell _ _ _ _ hc']
theorem setS_size {w : World} {b : Nat} (x0 x1 x2 x3 x4 x5 x6 x7 : Value) :
    ((((((((w.setCell ⟨b, 0, none⟩ x0).setCell ⟨b, 1, none⟩ x1).setCell ⟨b, 2, none⟩ x2).setCell ⟨b, 3, none⟩ x3).setCell ⟨b, 4, none⟩ x4).setCell ⟨b, 5, none⟩ x5).setCell ⟨b, 6, none⟩ x6).setCell ⟨b, 7, none⟩ x7).heap.size = w.heap.size := by simp [World.setCell]

set_option maxRecDepth 100000 in
set_option maxHeartbeats 2000000 in
/-- eqStage. -/
theorem eqSg_any (sl sl' : Option Addr) (cap cap' : Nat) (tl tl' : Option Addr) (kap kap' : Nat) (top pr st bu : Int) (bl bl' : Option Addr) (cb cb' : Nat) (pl pl' : Option Addr) (cp cp' : Nat) (ul ul' : Option Addr) (cu cu' : Nat) (ai fx : Int) (gc gf : Bool) (rs rs' : List LSt) (ps : List LPr) (bs : List LPr) (ls : List LPl) (us : List Int) (w : World) (hn : rs.length ≤ 1048576) (hm : ps.length ≤ 1048576) (hq : bs.length ≤ 1048576) (hl : ls.length ≤ 1048576) (hu : us.length ≤ 1048576) (hb : bareS rs = bareS rs') (h : Sts w sl rs) (h' : Sts w sl' rs') (hp : Prs w tl ps) (hp' : Prs w tl' ps) (hbs : Prs w bl bs) (hbs' : Prs w bl' bs) (hls : Pls w pl ls) (hls' : Pls w pl' ls) (hus : Ints w ul us) (hus' : Ints w ul' us) :
    Calls Tryz.prog 15 #[SgV sl rs.length cap tl ps.length kap top pr st bu bl bs.length cb pl ls.length cp ul us.length cu ai fx gc gf, SgV sl' rs'.length cap' tl' ps.length kap' top pr st bu bl' bs.length cb' pl' ls.length cp' ul' us.length cu' ai fx gc gf] w fun e w' => e = .returned (.bool true) ∧ Below w.heap.size w w' := by
  have E1 : Hid (∀ W, Below w.heap.size w W → Calls Tryz.prog 10 #[CV sl rs.length cap tl ps.length kap top pr st bu bl bs.length cb pl ls.length cp, CV sl' rs'.length cap' tl' ps.length kap' top pr st bu bl' bs.length cb' pl' ls.length cp'] W fun e w' => e = .returned (.bool true) ∧ Below W.heap.size W w') := fun W hW => eqC_any sl sl' cap cap' tl tl' kap kap' top pr st bu bl bl' cb cb' pl pl' cp cp' rs rs' ps bs ls W hn hm hq hl hb (h.below hW) (h'.below hW) (hp.below hW) (hp'.below hW) (hbs.below hW) (hbs'.below hW) (hls.below hW) (hls'.below hW)
  have E2 : Hid (∀ W, Below w.heap.size w W → Calls Tryz.prog 44 #[.slice ul us.length cu, .slice ul' us.length cu'] W fun e w' => e = .returned (.bool true) ∧ Below W.heap.size W w') := fun W hW => eq_any ul ul' cu cu' us W (by unfold maxLen; omega) (hus.below hW) (hus'.below hW)
  clear h h' hp hp' hb hbs hbs' hls hls' hus hus'
  have hgc : (gc != gc) = false := by cases gc <;> rfl
  have hgf : (gf != gf) = false := by cases gf <;> rfl
  generalize rs.length = n at *
  generalize rs'.length = n' at *
  generalize ps.length = m at *
  generalize bs.length = q at *
  generalize ls.length = p at *
  generalize us.length = u at *
  go_enter Tryz.func15, Tryz.ntmps15
  go_wp2_with fail
  refine (E1.out _ (bA (bA0 _ _) _)).mono ?_
  rintro e w1 ⟨rfl, b1⟩
  have D1 := Lib.hid (bT (bA (bA0 w _) _) b1)
  have A1 := Lib.hid b1
  obtain ⟨hc, hf⟩ := bcell b1
  clear b1
  go_wp2_with fail
  refine (E2.out _ D1.out).mono ?_
  rintro e w2 ⟨rfl, b2⟩
  have D2 := Lib.hid (bT D1.out b2)
  have A2 := Lib.hid (bT A1.out b2)
  clear hc hf
  obtain ⟨hc, hf⟩ := bcell A2.out
  clear b2 A1
  go_wp2
  go_ret
  exact ⟨rfl, D2.out⟩

set_option maxRecDepth 100000 in
set_option maxHeartbeats 2000000 in
/-- szStage. -/
theorem szSg_any (sl : Option Addr) (cap : Nat) (tl : Option Addr) (m kap : Nat) (top pr st bu : Int) (bl : Option Addr) (q cb : Nat) (pl : Option Addr) (p cp : Nat) (ul : Option Addr) (u cu : Nat) (ai fx : Int) (gc gf : Bool) (rs : List LSt) (w : World) (hn : rs.length ≤ maxLen) (hm : m ≤ maxLen) (hq : q ≤ maxLen) (hp : p ≤ maxLen) (hu : u ≤ maxLen) (hz : Sts0 w sl rs) :
    Calls Tryz.prog 11 #[SgV sl rs.length cap tl m kap top pr st bu bl q cb pl p cp ul u cu ai fx gc gf, .int .i64 1048576] w fun e w' => e = .returned (.int .i64 (lft 1048576 (rs.length + totD rs + m + q + p + u))) ∧ Below w.heap.size w w' := by
  have E1 := Lib.hid (szC_any sl cap tl m kap top pr st bu bl q cb pl p cp rs (w.alloc (.cells (SgC sl rs.length cap tl m kap top pr st bu bl q cb pl p cp ul u cu ai fx gc gf) 45)) hn hm hq hp (hz.below (bA0 _ _)))
  have B0 := Lib.hid (bA0 w (.cells (SgC sl rs.length cap tl m kap top pr st bu bl q cb pl p cp ul u cu ai fx gc gf) 45))
  have TA := Lib.hid (show (w.alloc (.cells (SgC sl rs.length cap tl m kap top pr st bu bl q cb pl p cp ul u cu ai fx gc gf) 45)).heap[w.heap.size]? = some (.cells (SgC sl rs.length cap tl m kap top pr st bu bl q cb pl p cp ul u cu ai fx gc gf) 45) from new_at _ _)
  have KC : Hid (∀ W, Below (w.heap.size + 1) (w.alloc (.cells (SgC sl rs.length cap tl m kap top pr st bu bl q cb pl p cp ul u cu ai fx gc gf) 45)) W → W.cell? ⟨w.heap.size, 8, none⟩ = some (.slice ul u cu)) := fun W hW => by
    have := (hW.block w.heap.size (by omega)).trans TA.out
    exact (cells13 this).2.2.2.2.2.2.2.2.1
  have hS : (w.alloc (.cells (SgC sl rs.length cap tl m kap top pr st bu bl q cb pl p cp ul u cu ai fx gc gf) 45)).heap.size = w.heap.size + 1 := by simp
  clear hz TA
  rcases lft_cases 1048576 (rs.length + totD rs + m + q + p) (by omega) with ⟨e, h⟩ | ⟨e, h⟩
  · rw [e] at E1
    have F := Lib.hid (show lft 1048576 (rs.length + totD rs + m + q + p + u) = -1 from lft_neg _ _ _ h)
    rw [F.out]
    clear F e h KC
    generalize rs.length = n at *
    go_enter Tryz.func11, Tryz.ntmps11
    go_wp2_with fail
    refine E1.out.mono ?_
    rintro e w1 ⟨rfl, b1⟩
    have D1 := Lib.hid (bT B0.out b1)
    clear b1
    go_wp2
    go_ret
    exact ⟨rfl, D1.out⟩
  rw [e] at E1
  have hneg : ¬ (1048576 - ((rs.length + totD rs + m + q + p : Nat) : Int)) < 0 := by omega
  have E2 := Lib.hid (fun W => szI_any ul u cu (1048576 - ((rs.length + totD rs + m + q + p : Nat) : Int)) W hu (by omega) (by omega))
  rw [← lft_add 1048576 (rs.length + totD rs + m + q + p) u h]
  have LC := lft_cases (1048576 - ((rs.length + totD rs + m + q + p : Nat) : Int)) u (by omega)
  clear e h
  generalize (1048576 - ((rs.length + totD rs + m + q + p : Nat) : Int)) = z at *
  generalize lft z u = x at *
  generalize rs.length = n at *
  go_enter Tryz.func11, Tryz.ntmps11
  go_wp2_with fail
  refine E1.out.mono ?_
  rintro e w1 ⟨rfl, b1⟩
  have D1 := Lib.hid (bT B0.out b1)
  have c8 := KC.out _ (by rw [← hS]; exact b1)
  clear b1
  go_wp2_with fail
  refine (E2.out _).mono ?_
  rintro e w2 ⟨rfl, b2⟩
  have D2 := Lib.hid (bT D1.out b2)
  clear b2 c8
  rcases LC with ⟨rfl, h9⟩ | ⟨hz9, h9⟩
  · go_wp2
    go_ret
    exact ⟨rfl, D2.out⟩
  · have hz0 : ¬ x < 0 := by omega
    clear hz9
    go_wp2
    go_ret
    exact ⟨rfl, D2.out⟩

/-- A stage in memory of its own, from block C on. -/
structure OwnSg (C : Nat) (w : World) (b1 b2 b3 b4 b5 : Nat) (rs : List LSt) (ps : List LPr) (bs : List LPr) (ls : List LPl) (us : List Int) : Prop where
  c : OwnC C w b1 b2 b3 b4 rs ps bs ls
  r5 : RowZ w b5 us
  lo5 : C ≤ b5
theorem OwnC.frame {C : Nat} {w w' : World} {b1 b2 b3 b4 : Nat} {rs : List LSt} {ps : List LPr} {bs : List LPr} {ls : List LPl} (h : OwnC C w b1 b2 b3 b4 rs ps bs ls) (hf : ∀ c, C ≤ c → w'.heap[c]? = w.heap[c]?) : OwnC C w' b1 b2 b3 b4 rs ps bs ls :=
  ⟨h.t.frame hf, h.r3.frame (hf _ h.lo3), h.r4.frame (hf _ h.lo4), h.lo3, h.lo4⟩
theorem OwnC.lower {C D : Nat} {w : World} {b1 b2 b3 b4 : Nat} {rs : List LSt} {ps : List LPr} {bs : List LPr} {ls : List LPl} (h : OwnC C w b1 b2 b3 b4 rs ps bs ls) (hd : D ≤ C) : OwnC D w b1 b2 b3 b4 rs ps bs ls :=
  ⟨h.t.lower hd, h.r3, h.r4, Nat.le_trans hd h.lo3, Nat.le_trans hd h.lo4⟩
theorem RowZ.frame {w w' : World} {g : Nat} {zs : List Int} (h : RowZ w g zs) (hf : w'.heap[g]? = w.heap[g]?) : RowZ w' g zs := hf.trans h
theorem OwnSg.below {C : Nat} {w w' : World} {b1 b2 b3 b4 b5 : Nat} {rs : List LSt} {ps : List LPr} {bs : List LPr} {ls : List LPl} {us : List Int} (h : OwnSg C w b1 b2 b3 b4 b5 rs ps bs ls us) (hb : Below w.heap.size w w') : OwnSg C w' b1 b2 b3 b4 b5 rs ps bs ls us := ⟨h.c.below hb, h.r5.below hb, h.lo5⟩
theorem OwnSg.sts {C : Nat} {w : World} {b1 b2 b3 b4 b5 : Nat} {rs : List LSt} {ps : List LPr} {bs : List LPr} {ls : List LPl} {us : List Int} (h : OwnSg C w b1 b2 b3 b4 b5 rs ps bs ls us) : Sts w (some ⟨b1, 0, none⟩) rs := h.c.sts
theorem OwnSg.prs {C : Nat} {w : World} {b1 b2 b3 b4 b5 : Nat} {rs : List LSt} {ps : List LPr} {bs : List LPr} {ls : List LPl} {us : List Int} (h : OwnSg C w b1 b2 b3 b4 b5 rs ps bs ls us) : Prs w (some ⟨b2, 0, none⟩) ps := h.c.prs
theorem OwnSg.bds {C : Nat} {w : World} {b1 b2 b3 b4 b5 : Nat} {rs : List LSt} {ps : List LPr} {bs : List LPr} {ls : List LPl} {us : List Int} (h : OwnSg C w b1 b2 b3 b4 b5 rs ps bs ls us) : Prs w (some ⟨b3, 0, none⟩) bs := h.c.bds
theorem OwnSg.pls {C : Nat} {w : World} {b1 b2 b3 b4 b5 : Nat} {rs : List LSt} {ps : List LPr} {bs : List LPr} {ls : List LPl} {us : List Int} (h : OwnSg C w b1 b2 b3 b4 b5 rs ps bs ls us) : Pls w (some ⟨b4, 0, none⟩) ls := h.c.pls
theorem OwnSg.tops {C : Nat} {w : World} {b1 b2 b3 b4 b5 : Nat} {rs : List LSt} {ps : List LPr} {bs : List LPr} {ls : List LPl} {us : List Int} (h : OwnSg C w b1 b2 b3 b4 b5 rs ps bs ls us) : Ints w (some ⟨b5, 0, none⟩) us := h.r5.ints

set_option maxRecDepth 100000 in
set_option maxHeartbeats 4000000 in
/-- toStage. -/
theorem toSg_any (sl : Option Addr) (cap : Nat) (tl : Option Addr) (kap : Nat) (top pr st bu : Int) (bl : Option Addr) (cb : Nat) (pl : Option Addr) (cp : Nat) (ul : Option Addr) (cu : Nat) (ai fx : Int) (gc gf : Bool) (rs : List LSt) (ps : List LPr) (bs : List LPr) (ls : List LPl) (us : List Int) (w : World) (hn : rs.length ≤ 1048576) (hm : ps.length ≤ 1048576) (hq : bs.length ≤ 1048576) (hl : ls.length ≤ 1048576) (hu : us.length ≤ 1048576) (hz : Sts w sl rs) (hp : Prs w tl ps) (hbs : Prs w bl bs) (hls : Pls w pl ls) (hus : Ints w ul us) :
    Calls Tryz.prog 13 #[SgV sl rs.length cap tl ps.length kap top pr st bu bl bs.length cb pl ls.length cp ul us.length cu ai fx gc gf] w fun e w' => ∃ b1 b2 b3 b4 b5 rs', e = .returned (SgV (some ⟨b1, 0, none⟩) rs.length rs.length (some ⟨b2, 0, none⟩) ps.length ps.length top pr st bu (some ⟨b3, 0, none⟩) bs.length bs.length (some ⟨b4, 0, none⟩) ls.length ls.length (some ⟨b5, 0, none⟩) us.length us.length ai fx gc gf) ∧ bareS rs' = bareS rs ∧ OwnSg w.heap.size w' b1 b2 b3 b4 b5 rs' ps bs ls us ∧ Below w.heap.size w w' := by
  have E1 : Hid (∀ W, Below w.heap.size w W → Calls Tryz.prog 8 #[CV sl rs.length cap tl ps.length kap top pr st bu bl bs.length cb pl ls.length cp] W fun e w' => ∃ b1 b2 b3 b4 rs', e = .returned (CV (some ⟨b1, 0, none⟩) rs.length rs.length (some ⟨b2, 0, none⟩) ps.length ps.length top pr st bu (some ⟨b3, 0, none⟩) bs.length bs.length (some ⟨b4, 0, none⟩) ls.length ls.length) ∧ bareS rs' = bareS rs ∧ OwnC W.heap.size w' b1 b2 b3 b4 rs' ps bs ls ∧ Below W.heap.size W w') := fun W hW => toC_any sl cap tl kap top pr st bu bl cb pl cp rs ps bs ls W hn hm hq hl (hz.below hW) (hp.below hW) (hbs.below hW) (hls.below hW)
  have E2 : Hid (∀ W, Below w.heap.size w W → Calls Tryz.prog 37 #[.slice ul us.length cu] W fun e w' => e = .returned (.slice (some ⟨W.heap.size, 0, none⟩) us.length us.length) ∧ RowZ w' W.heap.size us ∧ Below W.heap.size W w') := fun W hW => toO_any ul cu us W hu (hus.below hW)
  clear hz hp hbs hls hus
  generalize rs.length = n at *
  generalize ps.length = m at *
  generalize bs.length = q at *
  generalize ls.length = p at *
  generalize us.length = u at *
  go_enter Tryz.func13, Tryz.ntmps13
  go_wp2_with fail
  refine (E1.out _ (bA (bA (bA0 _ _) _) _)).mono ?_
  rintro e w1 ⟨b1, b2, b3, b4, rs', rfl, eb, t1, bb1⟩
  obtain ⟨n0, n1, n2, n3⟩ := three_new w (.cells (SgC sl n cap tl m kap top pr st bu bl q cb pl p cp ul u cu ai fx gc gf) 45) (.cells (SgC none 0 0 none 0 0 0 0 0 0 none 0 0 none 0 0 none 0 0 0 0 false false) 49) (.cells (SgC none 0 0 none 0 0 0 0 0 0 none 0 0 none 0 0 none 0 0 0 0 false false) 49)
  have BB := Lib.hid (bT (bA (bA (bA0 w (.cells (SgC sl n cap tl m kap top pr st bu bl q cb pl p cp ul u cu ai fx gc gf) 45)) (.cells (SgC none 0 0 none 0 0 0 0 0 0 none 0 0 none 0 0 none 0 0 0 0 false false) 49)) (.cells (SgC none 0 0 none 0 0 0 0 0 0 none 0 0 none 0 0 none 0 0 0 0 false false) 49)) bb1)
  rw [n3] at t1 bb1
  have hz := bb1.size
  rw [n3] at hz
  have m0 := (bb1.block w.heap.size (by omega)).trans n0
  have m1 := (bb1.block (w.heap.size + 1) (by omega)).trans n1
  have m2 := (bb1.block (w.heap.size + 1 + 1) (by omega)).trans n2
  have T1 := Lib.hid t1
  have EB := Lib.hid eb
  clear t1 bb1 eb n0 n1 n2 n3
  obtain ⟨c0, c1, c2, c3, c4, c5, c6, c7, c8, c9, c10, c11, c12, cf, cl⟩ := cells13 m0
  obtain ⟨d0, d1, d2, d3, d4, d5, d6, d7, d8, d9, d10, d11, d12, df, dl⟩ := cells13 m2
  have M0 := Lib.hid m0
  have M1 := Lib.hid m1
  have M2 := Lib.hid (setS8 m2 (.slice (some ⟨b1, 0, none⟩) n n) (.slice (some ⟨b2, 0, none⟩) m m) (.int .i64 top) (.int .i64 pr) (.int .i64 st) (.int .i64 bu) (.slice (some ⟨b3, 0, none⟩) q q) (.slice (some ⟨b4, 0, none⟩) p p))
  have O2 := Lib.hid (fun c hc => setS8_other (w := w1) (b := w.heap.size + 1 + 1) (c := c) hc (.slice (some ⟨b1, 0, none⟩) n n) (.slice (some ⟨b2, 0, none⟩) m m) (.int .i64 top) (.int .i64 pr) (.int .i64 st) (.int .i64 bu) (.slice (some ⟨b3, 0, none⟩) q q) (.slice (some ⟨b4, 0, none⟩) p p))
  have hle : w.heap.size ≤ (⟨w.heap.size + 1 + 1, 0, none⟩ : Addr).block := by show w.heap.size ≤ w.heap.size + 1 + 1; omega
  have B1 := Lib.hid (((((((((BB.out.setCell (p := ⟨w.heap.size + 1 + 1, 0, none⟩) hle (.slice (some ⟨b1, 0, none⟩) n n)).setCell (p := ⟨w.heap.size + 1 + 1, 1, none⟩) hle (.slice (some ⟨b2, 0, none⟩) m m)).setCell (p := ⟨w.heap.size + 1 + 1, 2, none⟩) hle (.int .i64 top)).setCell (p := ⟨w.heap.size + 1 + 1, 3, none⟩) hle (.int .i64 pr)).setCell (p := ⟨w.heap.size + 1 + 1, 4, none⟩) hle (.int .i64 st)).setCell (p := ⟨w.heap.size + 1 + 1, 5, none⟩) hle (.int .i64 bu)).setCell (p := ⟨w.heap.size + 1 + 1, 6, none⟩) hle (.slice (some ⟨b3, 0, none⟩) q q)).setCell (p := ⟨w.heap.size + 1 + 1, 7, none⟩) hle (.slice (some ⟨b4, 0, none⟩) p p)))
  have hsz : ((((((((w1.setCell ⟨w.heap.size + 1 + 1, 0, none⟩ (.slice (some ⟨b1, 0, none⟩) n n)).setCell ⟨w.heap.size + 1 + 1, 1, none⟩ (.slice (some ⟨b2, 0, none⟩) m m)).setCell ⟨w.heap.size + 1 + 1, 2, none⟩ (.int .i64 top)).setCell ⟨w.heap.size + 1 + 1, 3, none⟩ (.int .i64 pr)).setCell ⟨w.heap.size + 1 + 1, 4, none⟩ (.int .i64 st)).setCell ⟨w.heap.size + 1 + 1, 5, none⟩ (.int .i64 bu)).setCell ⟨w.heap.size + 1 + 1, 6, none⟩ (.slice (some ⟨b3, 0, none⟩) q q)).setCell ⟨w.heap.size + 1 + 1, 7, none⟩ (.slice (some ⟨b4, 0, none⟩) p p)).heap.size = w1.heap.size := setS_size _ _ _ _ _ _ _ _
  clear m0 m1 m2 BB hle
  go_wp2_with fail
  refine (E2.out _ B1.out).mono ?_
  rintro e w2 ⟨rfl, r2, bb2⟩
  rw [hsz] at r2 ⊢
  have b2s := bb2.size
  have k1 := (bb2.block (w.heap.size + 1) (by rw [hsz]; omega)).trans ((O2.out _ (by omega)).trans M1.out)
  have k0 := (bb2.block w.heap.size (by rw [hsz]; omega)).trans ((O2.out _ (by omega)).trans M0.out)
  have k2 := (bb2.block (w.heap.size + 1 + 1) (by rw [hsz]; omega)).trans M2.out
  have T2 := Lib.hid ((T1.out.frame (fun c hc => O2.out c (by omega))).below bb2)
  have R2 := Lib.hid r2
  have B2 := Lib.hid (bT B1.out bb2)
  rw [hsz] at b2s
  clear T1 M0 M1 M2 O2 B1 r2 bb2 hsz c0 c1 c2 c3 c4 c5 c6 c7 c8 c9 c10 c11 c12 cf cl d0 d1 d2 d3 d4 d5 d6 d7 d8 d9 d10 d11 d12 df dl
  generalize w1.heap.size = b5 at *
  obtain ⟨c0, c1, c2, c3, c4, c5, c6, c7, c8, c9, c10, c11, c12, cf, cl⟩ := cells13 k0
  obtain ⟨d0, d1, d2, d3, d4, d5, d6, d7, d8, d9, d10, d11, d12, df, dl⟩ := cells13 k2
  have fl := (cells13 k1).2.2.2.2.2.2.2.2.2.2.2.2.2
  obtain ⟨f0, f1, f2, f3, f4, f5, f6, f7, f8, f9, f10, f11, f12, -, -⟩ := cells13 k1
  obtain ⟨ff, fg⟩ := fl
  have O9 := Lib.hid (fun (c : Nat) (h : c ≠ w.heap.size + 1) (h' : c ≠ w.heap.size + 1 + 1) => setS17_other (w := w2) h h' (.slice (some ⟨b5, 0, none⟩) u u) (.int .i64 ai) (.int .i64 fx) (.bool gc) (.bool gf) (.slice (some ⟨b1, 0, none⟩) n n) (.slice (some ⟨b2, 0, none⟩) m m) (.int .i64 top) (.int .i64 pr) (.int .i64 st) (.int .i64 bu) (.slice (some ⟨b3, 0, none⟩) q q) (.slice (some ⟨b4, 0, none⟩) p p) (.slice (some ⟨b5, 0, none⟩) u u) (.int .i64 ai) (.int .i64 fx) (.bool gc) (.bool gf))
  have hle : w.heap.size ≤ w.heap.size + 1 := by omega
  have hle2 : w.heap.size ≤ w.heap.size + 1 + 1 := by omega
  have B9 := Lib.hid (((((((((((((((((((B2.out.setCell (p := ⟨w.heap.size + 1 + 1, 8, none⟩) hle2 (.slice (some ⟨b5, 0, none⟩) u u)).setCell (p := ⟨w.heap.size + 1 + 1, 9, none⟩) hle2 (.int .i64 ai)).setCell (p := ⟨w.heap.size + 1 + 1, 10, none⟩) hle2 (.int .i64 fx)).setCell (p := ⟨w.heap.size + 1 + 1, 11, none⟩) hle2 (.bool gc)).setCell (p := ⟨w.heap.size + 1 + 1, 12, none⟩) hle2 (.bool gf)).setCell (p := ⟨w.heap.size + 1, 0, none⟩) hle (.slice (some ⟨b1, 0, none⟩) n n)).setCell (p := ⟨w.heap.size + 1, 1, none⟩) hle (.slice (some ⟨b2, 0, none⟩) m m)).setCell (p := ⟨w.heap.size + 1, 2, none⟩) hle (.int .i64 top)).setCell (p := ⟨w.heap.size + 1, 3, none⟩) hle (.int .i64 pr)).setCell (p := ⟨w.heap.size + 1, 4, none⟩) hle (.int .i64 st)).setCell (p := ⟨w.heap.size + 1, 5, none⟩) hle (.int .i64 bu)).setCell (p := ⟨w.heap.size + 1, 6, none⟩) hle (.slice (some ⟨b3, 0, none⟩) q q)).setCell (p := ⟨w.heap.size + 1, 7, none⟩) hle (.slice (some ⟨b4, 0, none⟩) p p)).setCell (p := ⟨w.heap.size + 1, 8, none⟩) hle (.slice (some ⟨b5, 0, none⟩) u u)).setCell (p := ⟨w.heap.size + 1, 9, none⟩) hle (.int .i64 ai)).setCell (p := ⟨w.heap.size + 1, 10, none⟩) hle (.int .i64 fx)).setCell (p := ⟨w.heap.size + 1, 11, none⟩) hle (.bool gc)).setCell (p := ⟨w.heap.size + 1, 12, none⟩) hle (.bool gf)))
  have P := Lib.hid (show OwnSg w.heap.size _ b1 b2 b3 b4 b5 rs' ps bs ls us from ⟨(T2.out.frame (fun c hc => O9.out c (by omega) (by omega))).lower (by omega), R2.out.frame (O9.out b5 (by omega) (by omega)), by omega⟩)
  clear T2 R2 B2 O9 hle hle2 k0 k1 k2
  go_wp2
  refine bodyPost_ret (v := SgV (some ⟨b1, 0, none⟩) n n (some ⟨b2, 0, none⟩) m m top pr st bu (some ⟨b3, 0, none⟩) q q (some ⟨b4, 0, none⟩) p p (some ⟨b5, 0, none⟩) u u ai fx gc gf) (by simp [results, Tryz.results13, go_sem, f0, f1, f2, f3, f4, f5, f6, f7, f8, f9, f10, f11, f12]) rfl ⟨b1, b2, b3, b4, b5, rs', rfl, EB.out, P.out, B9.out⟩
end Go.Proofs.YtanoklpffenljaaGreatDoor
namespace Go.Proofs.YtanoklpffenljaaGreatDoor
open Go.RowKit
set_option linter.unusedVariables false

def NouR (x : Int) : Prop := 0 ≤ x ∧ x ≤ 1000000000000
def MonR (x : Int) : Prop := -1000000000000 ≤ x ∧ x ≤ 1000000000000
/-- (amount).isFromNought. -/
theorem nou_any (x : Int) (w : World) : Calls Tryz.prog 79 #[.int .i64 x] w fun e w' => e = .returned (.bool (B (NouR x))) ∧ w = w' := by
  by_cases h0 : 0 ≤ x
  · by_cases h1 : x ≤ 1000000000000
    · rw [B_yes ⟨h0, h1⟩]
      go_enter Tryz.func79, Tryz.ntmps79
      go_wp2
      go_ret
      exact ⟨rfl, rfl⟩
    · rw [B_no (fun h => h1 h.2)]
      go_enter Tryz.func79, Tryz.ntmps79
      go_wp2
      go_ret
      exact ⟨rfl, rfl⟩
  · rw [B_no (fun h => h0 h.1)]
    go_enter Tryz.func79, Tryz.ntmps79
    go_wp2
    go_ret
    exact ⟨rfl, rfl⟩
/-- spec.l01Money. -/
theorem mon_any (x : Int) (w : World) : Calls Tryz.prog 55 #[.int .i64 x] w fun e w' => e = .returned (.bool (B (MonR x))) ∧ w = w' := by
  by_cases h0 : -1000000000000 ≤ x
  · by_cases h1 : x ≤ 1000000000000
    · rw [B_yes ⟨h0, h1⟩]
      go_enter Tryz.func55, Tryz.ntmps55
      go_wp2
      go_ret
      exact ⟨rfl, rfl⟩
    · rw [B_no (fun h => h1 h.2)]
      go_enter Tryz.func55, Tryz.ntmps55
      go_wp2
      go_ret
      exact ⟨rfl, rfl⟩
  · rw [B_no (fun h => h0 h.1)]
    go_enter Tryz.func55, Tryz.ntmps55
    go_wp2
    go_ret
    exact ⟨rfl, rfl⟩

/-- Tops that an auction may go along. -/
def TopsR (us : List Int) : Prop := 1 ≤ us.length ∧ us.length ≤ 6 ∧ InRise 2 51 us
set_option maxHeartbeats 1000000 in
/-- impl.topsRight. -/
theorem tor_any (ul : Option Addr) (cu : Nat) (us : List Int) (w : World) (hu : us.length ≤ 1048576) (hz : Ints w ul us) :
    Calls Tryz.prog 78 #[.slice ul us.length cu] w fun e w' => e = .returned (.bool (B (TopsR us))) ∧ Below w.heap.size w w' := by
  have E := Lib.hid (rw_any 2 51 ul cu us w (by unfold maxLen; omega) hz)
  by_cases h1 : 1 ≤ us.length
  case neg =>
    rw [B_no (fun h => h1 h.1)]
    have h1' : ¬ (1 : Int) ≤ (us.length : Int) := by omega
    clear E hz
    generalize us.length = u at *
    go_enter Tryz.func78, Tryz.ntmps78
    go_wp2
    go_ret
    exact ⟨rfl, Below.refl _ _⟩
  have h1' : (1 : Int) ≤ (us.length : Int) := by omega
  by_cases h2 : us.length ≤ 6
  case neg =>
    rw [B_no (fun h => h2 h.2.1)]
    have h2' : ¬ (us.length : Int) ≤ 6 := by omega
    clear E hz
    generalize us.length = u at *
    go_enter Tryz.func78, Tryz.ntmps78
    go_wp2
    go_ret
    exact ⟨rfl, Below.refl _ _⟩
  have h2' : (us.length : Int) ≤ 6 := by omega
  rw [show B (TopsR us) = B (InRise 2 51 us) from B_iff ⟨fun h => h.2.2, fun h => ⟨h1, h2, h⟩⟩]
  clear hz
  generalize B (InRise 2 51 us) = r at *
  generalize us.length = u at *
  go_enter Tryz.func78, Tryz.ntmps78
  go_wp2_with fail
  refine E.out.mono ?_
  rintro e w1 ⟨rfl, b1⟩
  have D1 := Lib.hid b1
  clear b1
  go_wp2
  go_ret
  exact ⟨rfl, D1.out⟩
set_option maxHeartbeats 1000000 in
/-- spec.l13Tops. -/
theorem sto_any (ul : Option Addr) (cu : Nat) (us : List Int) (w : World) (hu : us.length ≤ 1048576) (hz : Ints w ul us) :
    Calls Tryz.prog 77 #[.slice ul us.length cu] w fun e w' => e = .returned (.bool (B (TopsR us))) ∧ Below w.heap.size w w' := by
  have E := Lib.hid (ri_any ul cu us w hu hz)
  have F : Hid (∀ W, Below w.heap.size w W → Calls Tryz.prog 105 #[.slice ul us.length cu, .int .i64 2, .int .i64 51] W fun e w' => e = .returned (.bool (us.all (inB 2 51))) ∧ w' = W) := fun W hW => l01All_any 2 51 ul cu us W (by unfold maxLen; omega) (hz.below hW)
  have IF := Lib.hid (InRise.iff 2 51 us)
  by_cases h1 : 1 ≤ us.length
  case neg =>
    rw [B_no (fun h => h1 h.1)]
    have h1' : ¬ (1 : Int) ≤ (us.length : Int) := by omega
    clear E F IF hz
    generalize us.length = u at *
    go_enter Tryz.func77, Tryz.ntmps77
    go_wp2
    go_ret
    exact ⟨rfl, Below.refl _ _⟩
  have h1' : (1 : Int) ≤ (us.length : Int) := by omega
  by_cases h2 : us.length ≤ 6
  case neg =>
    rw [B_no (fun h => h2 h.2.1)]
    have h2' : ¬ (us.length : Int) ≤ 6 := by omega
    clear E F IF hz
    generalize us.length = u at *
    go_enter Tryz.func77, Tryz.ntmps77
    go_wp2
    go_ret
    exact ⟨rfl, Below.refl _ _⟩
  have h2' : (us.length : Int) ≤ 6 := by omega
  by_cases h3 : RiseTo us us.length
  case neg =>
    rw [B_no (fun h => h3 (IF.out.1 h.2.2).1)]
    rw [B_no h3] at E
    clear F IF hz h3
    generalize us.length = u at *
    go_enter Tryz.func77, Tryz.ntmps77
    go_wp2_with fail
    refine E.out.mono ?_
    rintro e w1 ⟨rfl, b1⟩
    have D1 := Lib.hid b1
    clear b1
    go_wp2
    go_ret
    exact ⟨rfl, D1.out⟩
  rw [B_yes h3] at E
  rw [show B (TopsR us) = us.all (inB 2 51) by
    by_cases h4 : us.all (inB 2 51) = true
    · rw [B_yes ⟨h1, h2, IF.out.2 ⟨h3, h4⟩⟩, h4]
    · rw [B_no (fun h => h4 (IF.out.1 h.2.2).2)]
      simpa using h4]
  clear hz IF h3
  generalize us.all (inB 2 51) = r at *
  generalize us.length = u at *
  go_enter Tryz.func77, Tryz.ntmps77
  go_wp2_with fail
  refine E.out.mono ?_
  rintro e w1 ⟨rfl, b1⟩
  have D1 := Lib.hid b1
  clear b1
  go_wp2_with fail
  refine (F.out _ D1.out).mono ?_
  rintro e w2 ⟨rfl, rfl⟩
  go_wp2
  go_ret
  exact ⟨rfl, D1.out⟩

/-- Who has won, up to a place: those that are not out, if it is closed; else none. -/
def WonTo (gc : Bool) (bs : List LPr) (k : Nat) : Prop := ∀ i (h : i < bs.length), i < k → ((bs[i].2.1 = 4) ↔ (gc = true ∧ bs[i].2.1 ≠ 3))
theorem WonTo.step {gc : Bool} {bs : List LPr} {k : Nat} (h : WonTo gc bs k) (hk : k < bs.length) (g : (bs[k].2.1 = 4) ↔ (gc = true ∧ bs[k].2.1 ≠ 3)) : WonTo gc bs (k + 1) := by
  intro i hi hik
  by_cases e : i = k
  · subst e; exact g
  · exact h i hi (by omega)
set_option maxRecDepth 100000 in
set_option maxHeartbeats 4000000 in
/-- impl.wonJustIf. -/
theorem won_any (gc : Bool) (bl : Option Addr) (cb : Nat) (bs : List LPr) (w : World) (hq : bs.length ≤ 1048576) (hbs : Prs w bl bs) :
    Calls Tryz.prog 80 #[.bool gc, .slice bl bs.length cb] w fun e w' => e = .returned (.bool (B (WonTo gc bs bs.length))) ∧ Below w.heap.size w w' := by
  have YY := Lib.hid (show ∀ k, bs.length ≤ k → WonTo gc bs k → B (WonTo gc bs bs.length) = true from fun k hk h => B_yes (fun i hi _ => h i hi (by omega)))
  have NN := Lib.hid (show ∀ (k : Nat) (b : LPr), bs[k]? = some b → ¬ ((b.2.1 = 4) ↔ (gc = true ∧ b.2.1 ≠ 3)) → B (WonTo gc bs bs.length) = false from fun k b hb h => B_no (fun g => h (by obtain ⟨hk, rfl⟩ := List.getElem?_eq_some_iff.1 hb; exact g k hk hk)))
  have HB := Lib.hid hbs
  clear hbs
  generalize B (WonTo gc bs bs.length) = r at *
  generalize hQ : bs.length = q at *
  have HQ := Lib.hid hQ
  clear hQ
  go_enter Tryz.func80, Tryz.ntmps80
  go_wp2
  go_loopw [13] (fun i wr => ∃ k : Nat, i = .int .i64 k ∧ k ≤ q ∧ Hid (WonTo gc bs k) ∧ Hid (Below w.heap.size w wr)) (fun i _ => q - (intOf i).toNat)
  case atStart => exact ⟨0, rfl, Nat.zero_le _, fun i h h' => absurd h' (Nat.not_lt_zero _), Below.refl _ _⟩
  case round =>
    obtain ⟨k, rfl, hk, H1, H2⟩ := hrel
    have hk0 : (0 : Int) ≤ (k : Int) := by omega
    by_cases h1 : k < q
    · have h1' : (k : Int) < (q : Int) := by omega
      have hlt : k < bs.length := by rw [HQ.out]; exact h1
      obtain ⟨g, o, rfl, ZI⟩ : ∃ c o, bl = some ⟨c, o, none⟩ ∧ PrAt w c o bs := by
        rcases HB.out with e | h
        · rw [e] at hlt; simp at hlt
        · exact h
      obtain ⟨e0, e1, e2⟩ := (ZI.below H2.out).cell k hlt
      have zl := (ZI.below H2.out).lt
      have N1 := Lib.hid (NN.out k _ (List.getElem?_eq_getElem hlt))
      have S1 := Lib.hid (H1.out.step hlt)
      obtain ⟨x, y, z, hp⟩ : ∃ a b q, bs[k] = (a, b, q) := ⟨_, _, _, rfl⟩
      rw [hp] at e0 e1 e2 N1 S1
      dsimp only at e0 e1 e2 N1 S1
      clear hp hlt ZI H1 YY NN HB HQ
      have E4 := Lib.hid (hol_any 4 x y z)
      have E3 := Lib.hid (hol_any 3 x y z)
      have B5 := Lib.hid (bA H2.out (.cells #[.int .i64 x, .int .i64 y, .int .i64 z] 58))
      have N5 := Lib.hid (new_at wr (.cells #[.int .i64 x, .int .i64 y, .int .i64 z] 58))
      go_wp2_with fail
      refine (E4.out _).mono ?_
      rintro e w6 ⟨rfl, b6⟩
      have B6 := Lib.hid (bT B5.out b6)
      have k6 := (b6.block wr.heap.size (by simp)).trans N5.out
      obtain ⟨d0, d1, d2, df, dl⟩ := cells3 k6
      clear b6 B5 N5 k6
      cases gc
      · by_cases hy : y = 4
        · have HF := N1.out (fun h => by have := h.1 hy; simp at this)
          subst HF
          have hy' : (y == 4) = true := by simpa using hy
          rw [hy']
          clear hy hy' S1
          go_wp2
          go_ret
          exact ⟨rfl, B6.out⟩
        · have S2 := Lib.hid (S1.out ⟨fun h => absurd h hy, fun h => by simp at h⟩)
          have hy' : (y == 4) = false := by simpa using hy
          rw [hy']
          clear hy hy' S1 N1
          go_wp2
          go_roundw
          case rel => exact ⟨k + 1, by go_num, by omega, S2, B6⟩
          case measure => simp [intOf]; omega
      · go_wp2_with fail
        refine (E3.out _).mono ?_
        rintro e w7 ⟨rfl, b7⟩
        have B7 := Lib.hid (bT B6.out b7)
        clear b7 B6
        by_cases ha : y = 4
        · have hb : ¬ y = 3 := by omega
          have S2 := Lib.hid (S1.out ⟨fun _ => ⟨by trivial, hb⟩, fun _ => ha⟩)
          have ha' : (y == 4) = true := by simpa using ha
          have hb' : (y == 3) = false := by simpa using hb
          rw [ha', hb']
          clear ha ha' hb hb' S1 N1
          go_wp2
          go_roundw
          case rel => exact ⟨k + 1, by go_num, by omega, S2, B7⟩
          case measure => simp [intOf]; omega
        · have ha' : (y == 4) = false := by simpa using ha
          by_cases hb : y = 3
          · have S2 := Lib.hid (S1.out ⟨fun h => absurd h ha, fun h => absurd hb h.2⟩)
            have hb' : (y == 3) = true := by simpa using hb
            rw [ha', hb']
            clear ha ha' hb hb' S1 N1
            go_wp2
            go_roundw
            case rel => exact ⟨k + 1, by go_num, by omega, S2, B7⟩
            case measure => simp [intOf]; omega
          · have HF := N1.out (fun h => ha (h.2 ⟨by trivial, hb⟩))
            subst HF
            have hb' : (y == 3) = false := by simpa using hb
            rw [ha', hb']
            clear ha ha' hb hb' S1
            go_wp2
            go_ret
            exact ⟨rfl, B7.out⟩
    · have h1' : ¬ (k : Int) < (q : Int) := by omega
      have HE := YY.out k (by omega) H1.out
      subst HE
      go_wp2
      go_ret
      exact ⟨rfl, H2.out⟩
end Go.Proofs.YtanoklpffenljaaGreatDoor
namespace Go.Proofs.YtanoklpffenljaaGreatDoor
open Go.RowKit
set_option linter.unusedVariables false

/-- A right stage. -/
def StgR (rs : List LSt) (ps : List LPr) (top pr st bu : Int) (bs : List LPr) (ls : List LPl) (us : List Int) (ai fx : Int) (gc gf : Bool) : Prop :=
  ClkR rs ps top pr st bu bs ls ∧ TopsR us ∧ NouR fx ∧ 0 ≤ ai ∧ ai < (us.length : Int) ∧ us.getD ai.toNat 0 = top ∧ ¬ (gc = true ∧ gf = true) ∧ WonTo gc bs bs.length
set_option maxRecDepth 100000 in
set_option maxHeartbeats 8000000 in
/-- impl.StageRight. -/
theorem isr_any (sl : Option Addr) (cap : Nat) (tl : Option Addr) (kap : Nat) (top pr st bu : Int) (bl : Option Addr) (cb : Nat) (pl : Option Addr) (cp : Nat) (ul : Option Addr) (cu : Nat) (ai fx : Int) (gc gf : Bool) (rs : List LSt) (ps : List LPr) (bs : List LPr) (ls : List LPl) (us : List Int) (w : World) (hn : rs.length ≤ 1048576) (hq : bs.length ≤ 1048576) (hl : ls.length ≤ 1048576) (hu : us.length ≤ 1048576) (hcp : ls.length ≤ cp) (hz : Sts w sl rs) (hp : Prs w tl ps) (hw : ∀ p ∈ ps, WfP p) (hbs : Prs w bl bs) (hls : Pls w pl ls) (hus : Ints w ul us) :
    Calls Tryz.prog 38 #[SgV sl rs.length cap tl ps.length kap top pr st bu bl bs.length cb pl ls.length cp ul us.length cu ai fx gc gf] w fun e w' => e = .returned (.bool (B (StgR rs ps top pr st bu bs ls us ai fx gc gf))) ∧ Below w.heap.size w w' := by
  have CR : Hid (∀ W, Below w.heap.size w W → Calls Tryz.prog 28 #[CV sl rs.length cap tl ps.length kap top pr st bu bl bs.length cb pl ls.length cp] W fun e w' => e = .returned (.bool (B (ClkR rs ps top pr st bu bs ls))) ∧ Below W.heap.size W w') := fun W hW => icr_any sl cap tl kap top pr st bu bl cb pl cp rs ps bs ls W hn hq hl hcp (hz.below hW) (hp.below hW) hw (hbs.below hW) (hls.below hW)
  have TR : Hid (∀ W, Below w.heap.size w W → Calls Tryz.prog 78 #[.slice ul us.length cu] W fun e w' => e = .returned (.bool (B (TopsR us))) ∧ Below W.heap.size W w') := fun W hW => tor_any ul cu us W hu (hus.below hW)
  have NU := Lib.hid (nou_any fx)
  have WO : Hid (∀ W, Below w.heap.size w W → Calls Tryz.prog 80 #[.bool gc, .slice bl bs.length cb] W fun e w' => e = .returned (.bool (B (WonTo gc bs bs.length))) ∧ Below W.heap.size W w') := fun W hW => won_any gc bl cb bs W hq (hbs.below hW)
  have F1 := Lib.hid (show B (ClkR rs ps top pr st bu bs ls) = false → B (StgR rs ps top pr st bu bs ls us ai fx gc gf) = false from fun g => B_no (fun h => B_false g h.1))
  have F2 := Lib.hid (show B (TopsR us) = false → B (StgR rs ps top pr st bu bs ls us ai fx gc gf) = false from fun g => B_no (fun h => B_false g h.2.1))
  have F3 := Lib.hid (show B (NouR fx) = false → B (StgR rs ps top pr st bu bs ls us ai fx gc gf) = false from fun g => B_no (fun h => B_false g h.2.2.1))
  have F4 := Lib.hid (show ¬ 0 ≤ ai → B (StgR rs ps top pr st bu bs ls us ai fx gc gf) = false from fun g => B_no (fun h => g h.2.2.2.1))
  have F5 := Lib.hid (show ¬ ai < (us.length : Int) → B (StgR rs ps top pr st bu bs ls us ai fx gc gf) = false from fun g => B_no (fun h => g h.2.2.2.2.1))
  have F6 := Lib.hid (show ¬ us.getD ai.toNat 0 = top → B (StgR rs ps top pr st bu bs ls us ai fx gc gf) = false from fun g => B_no (fun h => g h.2.2.2.2.2.1))
  have F7 := Lib.hid (show (gc = true ∧ gf = true) → B (StgR rs ps top pr st bu bs ls us ai fx gc gf) = false from fun g => B_no (fun h => h.2.2.2.2.2.2.1 g))
  have F8 := Lib.hid (show B (ClkR rs ps top pr st bu bs ls) = true → B (TopsR us) = true → B (NouR fx) = true → 0 ≤ ai → ai < (us.length : Int) → us.getD ai.toNat 0 = top → ¬ (gc = true ∧ gf = true) → B (StgR rs ps top pr st bu bs ls us ai fx gc gf) = B (WonTo gc bs bs.length) from fun g1 g2 g3 g4 g5 g6 g7 => B_iff ⟨fun h => h.2.2.2.2.2.2.2, fun h => ⟨B_true g1, B_true g2, B_true g3, g4, g5, g6, g7, h⟩⟩)
  have IX : Hid (∀ W, Below w.heap.size w W → 0 ≤ ai → ai < (us.length : Int) → ∃ c o, ul = some ⟨c, o, none⟩ ∧ c < W.heap.size ∧ W.cell? ⟨c, o + ai.toNat, none⟩ = some (.int .i64 (us.getD ai.toNat 0))) := fun W hW h0 h1 => by
    rcases hus with e | ⟨c, o, rfl, HZ⟩
    · rw [e] at h1; simp at h1; omega
    · exact ⟨c, o, rfl, (HZ.below hW).1, (HZ.below hW).2 _ (by omega)⟩
  clear hz hp hw hbs hls hcp hus
  generalize B (StgR rs ps top pr st bu bs ls us ai fx gc gf) = r at *
  generalize B (ClkR rs ps top pr st bu bs ls) = r1 at *
  generalize B (TopsR us) = r2 at *
  generalize B (NouR fx) = r3 at *
  generalize B (WonTo gc bs bs.length) = r4 at *
  generalize us.getD ai.toNat 0 = ut at *
  generalize rs.length = n at *
  generalize ps.length = m at *
  generalize bs.length = q at *
  generalize ls.length = p at *
  generalize us.length = u at *
  have B0 := Lib.hid (bA0 w (.cells (SgC sl n cap tl m kap top pr st bu bl q cb pl p cp ul u cu ai fx gc gf) 49))
  have N0 := Lib.hid (new_at w (.cells (SgC sl n cap tl m kap top pr st bu bl q cb pl p cp ul u cu ai fx gc gf) 49))
  have hS : (w.alloc (.cells (SgC sl n cap tl m kap top pr st bu bl q cb pl p cp ul u cu ai fx gc gf) 49)).heap.size = w.heap.size + 1 := by simp
  have KC : Hid (∀ W, Below (w.heap.size + 1) (w.alloc (.cells (SgC sl n cap tl m kap top pr st bu bl q cb pl p cp ul u cu ai fx gc gf) 49)) W → W.heap[w.heap.size]? = some (.cells (SgC sl n cap tl m kap top pr st bu bl q cb pl p cp ul u cu ai fx gc gf) 49)) := fun W hW => (hW.block w.heap.size (by omega)).trans N0.out
  clear N0
  go_enter Tryz.func38, Tryz.ntmps38
  go_wp2_with fail
  refine (CR.out _ B0.out).mono ?_
  rintro e w1 ⟨rfl, b1⟩
  have D1 := Lib.hid (bT B0.out b1)
  have M1 := Lib.hid (KC.out w1 (by rw [← hS]; exact b1))
  obtain ⟨c0, c1, c2, c3, c4, c5, c6, c7, c8, c9, c10, c11, c12, cf, cl⟩ := cells13 M1.out
  clear b1 KC hS B0 CR
  cases r1
  · have HF := F1.out (by trivial)
    subst HF
    clear F1 F2 F3 F4 F5 F6 F7 F8 TR NU WO
    go_wp2
    go_ret
    exact ⟨rfl, D1.out⟩
  go_wp2_with fail
  refine (TR.out _ D1.out).mono ?_
  rintro e w2 ⟨rfl, b2⟩
  have D2 := Lib.hid (bT D1.out b2)
  have M2 := Lib.hid ((b2.block _ cl).trans M1.out)
  clear c0 c1 c2 c3 c4 c5 c6 c7 c8 c9 c10 c11 c12 cf cl
  obtain ⟨c0, c1, c2, c3, c4, c5, c6, c7, c8, c9, c10, c11, c12, cf, cl⟩ := cells13 M2.out
  clear b2 M1 D1 TR
  cases r2
  · have HF := F2.out (by trivial)
    subst HF
    clear F1 F2 F3 F4 F5 F6 F7 F8 NU WO
    go_wp2
    go_ret
    exact ⟨rfl, D2.out⟩
  go_wp2_with fail
  refine (NU.out _).mono ?_
  rintro e w2' ⟨rfl, rfl⟩
  cases r3
  · have HF := F3.out (by trivial)
    subst HF
    clear F1 F2 F3 F4 F5 F6 F7 F8 WO
    go_wp2
    go_ret
    exact ⟨rfl, D2.out⟩
  have F9 := Lib.hid (F8.out (by trivial) (by trivial) (by trivial))
  clear F1 F2 F3 F8 NU
  by_cases g4 : 0 ≤ ai
  case neg =>
    have HF := F4.out (by omega)
    subst HF
    clear F4 F5 F6 F7 F9 WO
    go_wp2
    go_quiet (fail)
    go_wp2
    go_ret
    exact ⟨rfl, below_drewN D2.out _⟩
  by_cases g5 : ai < (u : Int)
  case neg =>
    have HF := F5.out (by omega)
    subst HF
    have g5' : (u : Int) ≤ ai := by omega
    have d4 : decide (ai < 0) = false := decide_eq_false (by omega)
    have d5 : decide ((u : Int) ≤ ai) = true := decide_eq_true (by omega)
    clear F4 F5 F6 F7 F9 WO
    go_wp2
    go_quiet (fail)
    go_wp2
    go_ret
    exact ⟨rfl, below_drewN D2.out _⟩
  obtain ⟨g, o, rfl, zl, zc⟩ := IX.out w2 D2.out g4 g5
  have d4 : decide (ai < 0) = false := decide_eq_false (by omega)
  have d5 : decide ((u : Int) ≤ ai) = false := decide_eq_false (by omega)
  have g4' : ¬ ai < 0 := by omega
  have g5' : ¬ (u : Int) ≤ ai := by omega
  clear F4 F5 IX
  by_cases g6 : ut = top
  case neg =>
    have HF := F6.out g6
    subst HF
    have g6' : (ut != top) = true := by simpa using g6
    clear F6 F7 F9 WO g6
    go_wp2
    go_quiet (fail)
    go_wp2
    go_ret
    exact ⟨rfl, below_drewN D2.out _⟩
  have g6' : (ut != top) = false := by simpa using g6
  have F10 := Lib.hid (F9.out (by omega) (by omega) g6)
  clear F6 F9 g6
  have KD : Hid (∀ nq, Hid (Below w.heap.size w (w2.drewN nq))) := fun nq => below_drewN D2.out nq
  cases gc
  · have HE := F10.out (fun h => by cases h.1)
    subst HE
    clear F7 F10
    go_wp2
    go_quiet (fail)
    go_wp2_with fail
    refine (WO.out _ (KD.out _).out).mono ?_
    rintro e w3 ⟨rfl, b3⟩
    have D3 := Lib.hid (bT (KD.out _).out b3)
    clear b3
    go_wp2
    go_ret
    exact ⟨rfl, D3.out⟩
  cases gf
  · have HE := F10.out (fun h => by cases h.2)
    subst HE
    clear F7 F10
    go_wp2
    go_quiet (fail)
    go_wp2_with fail
    refine (WO.out _ (KD.out _).out).mono ?_
    rintro e w3 ⟨rfl, b3⟩
    have D3 := Lib.hid (bT (KD.out _).out b3)
    clear b3
    go_wp2
    go_ret
    exact ⟨rfl, D3.out⟩
  · have HF := F7.out ⟨rfl, rfl⟩
    subst HF
    clear F7 F10 WO
    go_wp2
    go_quiet (fail)
    go_wp2
    go_ret
    exact ⟨rfl, (KD.out _).out⟩
end Go.Proofs.YtanoklpffenljaaGreatDoor
