/-
  THE LAWS' CLOCKS: their copies.
-/
import Derived.Test.YtanoklpffenljaaGreatDoorCb
namespace Go.Proofs.YtanoklpffenljaaGreatDoor
open Go.RowKit
set_option linter.unusedVariables false

theorem Row3.frame {w w' : World} {b : Nat} {t : TypeId} {n : Nat} {ts : List (Value × Value × Value)} (h : Row3 w b t n ts) (hf : w'.heap[b]? = w.heap[b]?) : Row3 w' b t n ts := by
  obtain ⟨vs, h1, h2, h3⟩ := h
  exact ⟨vs, hf.trans h1, h2, h3⟩
theorem Row2.frame {w w' : World} {b n : Nat} {ts : List LPl} (h : Row2 w b n ts) (hf : w'.heap[b]? = w.heap[b]?) : Row2 w' b n ts := by
  obtain ⟨vs, h1, h2, h3⟩ := h
  exact ⟨vs, hf.trans h1, h2, h3⟩
theorem DomOwn.frame {b : Nat} {w w' : World} {r : LSt} (h : DomOwn b w r) (hf : ∀ c, b ≤ c → w'.heap[c]? = w.heap[c]?) : DomOwn b w' r := by
  obtain ⟨g, e, hi, hg, hl⟩ := h
  exact ⟨g, e, (hf g (by omega)).trans hi, hg, hl⟩
theorem OwnT.frame {C : Nat} {w w' : World} {b1 b2 : Nat} {rs : List LSt} {ps : List LPr} (h : OwnT C w b1 b2 rs ps) (hf : ∀ c, C ≤ c → w'.heap[c]? = w.heap[c]?) : OwnT C w' b1 b2 rs ps :=
  ⟨h.r1.frame (hf _ h.lo1), fun r hr => (h.dom r hr).frame (fun c hc => hf c (Nat.le_trans h.lo1 hc)), h.r2.frame (hf _ h.lo2), h.lo1, h.lo2⟩
theorem OwnT.lower {C D : Nat} {w : World} {b1 b2 : Nat} {rs : List LSt} {ps : List LPr} (h : OwnT C w b1 b2 rs ps) (hd : D ≤ C) : OwnT D w b1 b2 rs ps := ⟨h.r1, h.dom, h.r2, Nat.le_trans hd h.lo1, Nat.le_trans hd h.lo2⟩
/-- A clock in memory of its own, from block C on. -/
structure OwnC (C : Nat) (w : World) (b1 b2 b3 b4 : Nat) (rs : List LSt) (ps : List LPr) (bs : List LPr) (ls : List LPl) : Prop where
  t : OwnT C w b1 b2 rs ps
  r3 : Row3 w b3 58 bs.length (bs.map prT)
  r4 : Row2 w b4 ls.length ls
  lo3 : C ≤ b3
  lo4 : C ≤ b4
theorem OwnC.below {C : Nat} {w w' : World} {b1 b2 b3 b4 : Nat} {rs : List LSt} {ps : List LPr} {bs : List LPr} {ls : List LPl} (h : OwnC C w b1 b2 b3 b4 rs ps bs ls) (hb : Below w.heap.size w w') : OwnC C w' b1 b2 b3 b4 rs ps bs ls :=
  ⟨h.t.below hb, h.r3.below hb, h.r4.below hb, h.lo3, h.lo4⟩
theorem OwnC.sts {C : Nat} {w : World} {b1 b2 b3 b4 : Nat} {rs : List LSt} {ps : List LPr} {bs : List LPr} {ls : List LPl} (h : OwnC C w b1 b2 b3 b4 rs ps bs ls) : Sts w (some ⟨b1, 0, none⟩) rs := h.t.sts
theorem OwnC.prs {C : Nat} {w : World} {b1 b2 b3 b4 : Nat} {rs : List LSt} {ps : List LPr} {bs : List LPr} {ls : List LPl} (h : OwnC C w b1 b2 b3 b4 rs ps bs ls) : Prs w (some ⟨b2, 0, none⟩) ps := h.t.prs
theorem OwnC.bds {C : Nat} {w : World} {b1 b2 b3 b4 : Nat} {rs : List LSt} {ps : List LPr} {bs : List LPr} {ls : List LPl} (h : OwnC C w b1 b2 b3 b4 rs ps bs ls) : Prs w (some ⟨b3, 0, none⟩) bs := h.r3.prsB
theorem OwnC.pls {C : Nat} {w : World} {b1 b2 b3 b4 : Nat} {rs : List LSt} {ps : List LPr} {bs : List LPr} {ls : List LPl} (h : OwnC C w b1 b2 b3 b4 rs ps bs ls) : Pls w (some ⟨b4, 0, none⟩) ls := h.r4.pls

theorem set6 {w : World} {b : Nat} {t : TypeId} {a0 a1 a2 a3 a4 a5 a6 a7 : Value} (h : w.heap[b]? = some (.cells #[a0, a1, a2, a3, a4, a5, a6, a7] t)) (x0 x1 x2 x3 x4 x5 : Value) :
    ((((((w.setCell ⟨b, 0, none⟩ x0).setCell ⟨b, 1, none⟩ x1).setCell ⟨b, 2, none⟩ x2).setCell ⟨b, 3, none⟩ x3).setCell ⟨b, 4, none⟩ x4).setCell ⟨b, 5, none⟩ x5).heap[b]? = some (.cells #[x0, x1, x2, x3, x4, x5, a6, a7] t) := by
  rw [heap_setCell_same _ b _ _ t _ (heap_setCell_same _ b _ _ t _ (heap_setCell_same _ b _ _ t _ (heap_setCell_same _ b _ _ t _ (heap_setCell_same _ b _ _ t _ (heap_setCell_same _ b _ _ t _ h)))))]
  rfl
theorem sets_other {w : World} {b c : Nat} (hc : c ≠ b) (x0 x1 x2 x3 x4 x5 : Value) :
    ((((((w.setCell ⟨b, 0, none⟩ x0).setCell ⟨b, 1, none⟩ x1).setCell ⟨b, 2, none⟩ x2).setCell ⟨b, 3, none⟩ x3).setCell ⟨b, 4, none⟩ x4).setCell ⟨b, 5, none⟩ x5).heap[c]? = w.heap[c]? := by
  rw [Below.heap_setCell _ _ _ _ hc, Below.heap_setCell _ _ _ _ hc, Below.heap_setCell _ _ _ _ hc, Below.heap_setCell _ _ _ _ hc, Below.heap_setCell _ _ _ _ hc, Below.heap_setCell _ _ _ _ hc]

theorem sets9_other {w : World} {b b' c : Nat} (hc : c ≠ b) (hc' : c ≠ b') (y x0 x1 x2 x3 x4 x5 x6 x7 : Value) :
    (((((((((w.setCell ⟨b', 7, none⟩ y).setCell ⟨b, 0, none⟩ x0).setCell ⟨b, 1, none⟩ x1).setCell ⟨b, 2, none⟩ x2).setCell ⟨b, 3, none⟩ x3).setCell ⟨b, 4, none⟩ x4).setCell ⟨b, 5, none⟩ x5).setCell ⟨b, 6, none⟩ x6).setCell ⟨b, 7, none⟩ x7).heap[c]? = w.heap[c]? := by
  rw [Below.heap_setCell _ _ _ _ hc, Below.heap_setCell _ _ _ _ hc, Below.heap_setCell _ _ _ _ hc, Below.heap_setCell _ _ _ _ hc, Below.heap_setCell _ _ _ _ hc, Below.heap_setCell _ _ _ _ hc, Below.heap_setCell _ _ _ _ hc, Below.heap_setCell _ _ _ _ hc, Below.heap_setCell _ _ _ _ hc']

set_option maxRecDepth 100000 in
set_option maxHeartbeats 2000000 in
/-- toClock. -/
theorem toC_any (sl : Option Addr) (cap : Nat) (tl : Option Addr) (kap : Nat) (top pr st bu : Int) (bl : Option Addr) (cb : Nat) (pl : Option Addr) (cp : Nat) (rs : List LSt) (ps : List LPr) (bs : List LPr) (ls : List LPl) (w : World) (hn : rs.length ≤ 1048576) (hm : ps.length ≤ 1048576) (hq : bs.length ≤ 1048576) (hl : ls.length ≤ 1048576) (hz : Sts w sl rs) (hp : Prs w tl ps) (hbs : Prs w bl bs) (hls : Pls w pl ls) :
    Calls Tryz.prog 8 #[CV sl rs.length cap tl ps.length kap top pr st bu bl bs.length cb pl ls.length cp] w fun e w' => ∃ b1 b2 b3 b4 rs', e = .returned (CV (some ⟨b1, 0, none⟩) rs.length rs.length (some ⟨b2, 0, none⟩) ps.length ps.length top pr st bu (some ⟨b3, 0, none⟩) bs.length bs.length (some ⟨b4, 0, none⟩) ls.length ls.length) ∧ bareS rs' = bareS rs ∧ OwnC w.heap.size w' b1 b2 b3 b4 rs' ps bs ls ∧ Below w.heap.size w w' := by
  have E1 : Hid (∀ W, Below w.heap.size w W → Calls Tryz.prog 25 #[TV sl rs.length cap tl ps.length kap] W fun e w' => ∃ b1 b2 rs', e = .returned (TV (some ⟨b1, 0, none⟩) rs.length rs.length (some ⟨b2, 0, none⟩) ps.length ps.length) ∧ bareS rs' = bareS rs ∧ OwnT W.heap.size w' b1 b2 rs' ps ∧ Below W.heap.size W w') := fun W hW => toTO_any sl cap tl kap rs ps W hn hm (hz.below hW) (hp.below hW)
  have E2 : Hid (∀ W, Below w.heap.size w W → Calls Tryz.prog 26 #[.slice bl bs.length cb] W fun e w' => e = .returned (.slice (some ⟨W.heap.size, 0, none⟩) bs.length bs.length) ∧ Row3 w' W.heap.size 58 bs.length (bs.map prT) ∧ Below W.heap.size W w') := fun W hW => toBS_any bl cb bs W hq (hbs.below hW)
  have E3 : Hid (∀ W, Below w.heap.size w W → Calls Tryz.prog 27 #[.slice pl ls.length cp] W fun e w' => e = .returned (.slice (some ⟨W.heap.size, 0, none⟩) ls.length ls.length) ∧ Row2 w' W.heap.size ls.length ls ∧ Below W.heap.size W w') := fun W hW => toPlS_any pl cp ls W hl (hls.below hW)
  clear hz hp hbs hls
  generalize rs.length = n at *
  generalize ps.length = m at *
  generalize hQQ : bs.length = q at *
  generalize hPP : ls.length = p at *
  have HQ := Lib.hid hQQ
  have HP := Lib.hid hPP
  clear hQQ hPP
  go_enter Tryz.func8, Tryz.ntmps8
  go_wp2_with fail
  refine (E1.out _ (bA (bA (bA0 _ _) _) _)).mono ?_
  rintro e w1 ⟨b1, b2, rs', rfl, eb, t1, bb1⟩
  obtain ⟨n0, n1, n2, n3⟩ := three_new w (.cells (CC sl n cap tl m kap top pr st bu bl q cb pl p cp) 29) (.cells (CC none 0 0 none 0 0 0 0 0 0 none 0 0 none 0 0) 39) (.cells (CC none 0 0 none 0 0 0 0 0 0 none 0 0 none 0 0) 39)
  have BB := Lib.hid (bT (bA (bA (bA0 w (.cells (CC sl n cap tl m kap top pr st bu bl q cb pl p cp) 29)) (.cells (CC none 0 0 none 0 0 0 0 0 0 none 0 0 none 0 0) 39)) (.cells (CC none 0 0 none 0 0 0 0 0 0 none 0 0 none 0 0) 39)) bb1)
  rw [n3] at t1 bb1
  have hz := bb1.size
  rw [n3] at hz
  have m0 := (bb1.block w.heap.size (by omega)).trans n0
  have m1 := (bb1.block (w.heap.size + 1) (by omega)).trans n1
  have m2 := (bb1.block (w.heap.size + 1 + 1) (by omega)).trans n2
  have T1 := Lib.hid t1
  have EB := Lib.hid eb
  clear t1 bb1 eb n0 n1 n2 n3
  obtain ⟨c0, c1, c2, c3, c4, c5, c6, c7, cf, cl⟩ := cells8 m0
  obtain ⟨d0, d1, d2, d3, d4, d5, d6, d7, df, dl⟩ := cells8 m2
  have M0 := Lib.hid m0
  have M1 := Lib.hid m1
  have M2 := Lib.hid (set6 m2 (.slice (some ⟨b1, 0, none⟩) n n) (.slice (some ⟨b2, 0, none⟩) m m) (.int .i64 top) (.int .i64 pr) (.int .i64 st) (.int .i64 bu))
  have O2 := Lib.hid (fun c hc => sets_other (w := w1) (b := w.heap.size + 1 + 1) (c := c) hc (.slice (some ⟨b1, 0, none⟩) n n) (.slice (some ⟨b2, 0, none⟩) m m) (.int .i64 top) (.int .i64 pr) (.int .i64 st) (.int .i64 bu))
  have hle : w.heap.size ≤ (⟨w.heap.size + 1 + 1, 0, none⟩ : Addr).block := by show w.heap.size ≤ w.heap.size + 1 + 1; omega
  have B1 := Lib.hid ((((((BB.out.setCell (p := ⟨w.heap.size + 1 + 1, 0, none⟩) hle (.slice (some ⟨b1, 0, none⟩) n n)).setCell (p := ⟨w.heap.size + 1 + 1, 1, none⟩) hle (.slice (some ⟨b2, 0, none⟩) m m)).setCell (p := ⟨w.heap.size + 1 + 1, 2, none⟩) hle (.int .i64 top)).setCell (p := ⟨w.heap.size + 1 + 1, 3, none⟩) hle (.int .i64 pr)).setCell (p := ⟨w.heap.size + 1 + 1, 4, none⟩) hle (.int .i64 st)).setCell (p := ⟨w.heap.size + 1 + 1, 5, none⟩) hle (.int .i64 bu))
  clear m0 m1 m2 BB hle
  go_wp2_with fail
  refine (E2.out _ B1.out).mono ?_
  rintro e w2 ⟨rfl, r2, bb2⟩
  have hsz : ((((((w1.setCell ⟨w.heap.size + 1 + 1, 0, none⟩ (.slice (some ⟨b1, 0, none⟩) n n)).setCell ⟨w.heap.size + 1 + 1, 1, none⟩ (.slice (some ⟨b2, 0, none⟩) m m)).setCell ⟨w.heap.size + 1 + 1, 2, none⟩ (.int .i64 top)).setCell ⟨w.heap.size + 1 + 1, 3, none⟩ (.int .i64 pr)).setCell ⟨w.heap.size + 1 + 1, 4, none⟩ (.int .i64 st)).setCell ⟨w.heap.size + 1 + 1, 5, none⟩ (.int .i64 bu)).heap.size = w1.heap.size := by simp [World.setCell]
  rw [hsz] at r2 ⊢
  have b2s := bb2.size
  have k0 := (bb2.block w.heap.size (by rw [hsz]; omega)).trans ((O2.out _ (by omega)).trans M0.out)
  have k1 := (bb2.block (w.heap.size + 1) (by rw [hsz]; omega)).trans ((O2.out _ (by omega)).trans M1.out)
  have k2 := (bb2.block (w.heap.size + 1 + 1) (by rw [hsz]; omega)).trans M2.out
  have T2 := Lib.hid ((T1.out.frame (fun c hc => O2.out c (by omega))).below bb2)
  have R2 := Lib.hid r2
  have B2 := Lib.hid (bT B1.out bb2)
  rw [hsz] at b2s
  clear T1 M0 M1 M2 O2 B1 r2 bb2 hsz c0 c1 c2 c3 c4 c5 c6 c7 cf cl d0 d1 d2 d3 d4 d5 d6 d7 df dl
  generalize w1.heap.size = b3 at *
  obtain ⟨c0, c1, c2, c3, c4, c5, c6, c7, cf, cl⟩ := cells8 k0
  obtain ⟨d0, d1, d2, d3, d4, d5, d6, d7, df, dl⟩ := cells8 k2
  have K1 := Lib.hid k1
  have K2 := Lib.hid (heap_setCell_same w2 (w.heap.size + 1 + 1) 6 _ 39 (.slice (some ⟨b3, 0, none⟩) q q) k2)
  have hle : w.heap.size ≤ (⟨w.heap.size + 1 + 1, 6, none⟩ : Addr).block := by show w.heap.size ≤ w.heap.size + 1 + 1; omega
  have B3 := Lib.hid (B2.out.setCell (p := ⟨w.heap.size + 1 + 1, 6, none⟩) hle (.slice (some ⟨b3, 0, none⟩) q q))
  clear k0 k1 k2 hle
  go_wp2_with fail
  refine (E3.out _ B3.out).mono ?_
  rintro e w3 ⟨rfl, r3, bb3⟩
  have hsz : (w2.setCell ⟨w.heap.size + 1 + 1, 6, none⟩ (.slice (some ⟨b3, 0, none⟩) q q)).heap.size = w2.heap.size := by simp [World.setCell]
  rw [hsz] at r3 ⊢
  have b3s := bb3.size
  have k1 := (bb3.block (w.heap.size + 1) (by rw [hsz]; omega)).trans ((Below.heap_setCell _ _ _ _ (show w.heap.size + 1 ≠ w.heap.size + 1 + 1 by omega)).trans K1.out)
  have k2 := (bb3.block (w.heap.size + 1 + 1) (by rw [hsz]; omega)).trans K2.out
  have T3 := Lib.hid ((T2.out.frame (fun c hc => Below.heap_setCell _ _ _ _ (show c ≠ w.heap.size + 1 + 1 by omega))).below bb3)
  have R3 := Lib.hid ((R2.out.frame (Below.heap_setCell _ _ _ _ (show b3 ≠ w.heap.size + 1 + 1 by omega))).below bb3)
  have Q3 := Lib.hid r3
  have B4 := Lib.hid (bT B3.out bb3)
  rw [hsz] at b3s
  clear T2 R2 B2 B3 K1 K2 r3 bb3 hsz c0 c1 c2 c3 c4 c5 c6 c7 cf cl d0 d1 d2 d3 d4 d5 d6 d7 df dl
  generalize w2.heap.size = b4 at *
  obtain ⟨d0, d1, d2, d3, d4, d5, d6, d7, df, dl⟩ := cells8 k2
  obtain ⟨c0, c1, c2, c3, c4, c5, c6, c7, cf, cl⟩ := cells8 k1
  have O9 := Lib.hid (fun (c : Nat) (h : c ≠ w.heap.size + 1) (h' : c ≠ w.heap.size + 1 + 1) => sets9_other (w := w3) h h' (.slice (some ⟨b4, 0, none⟩) p p) (.slice (some ⟨b1, 0, none⟩) n n) (.slice (some ⟨b2, 0, none⟩) m m) (.int .i64 top) (.int .i64 pr) (.int .i64 st) (.int .i64 bu) (.slice (some ⟨b3, 0, none⟩) q q) (.slice (some ⟨b4, 0, none⟩) p p))
  have hle : w.heap.size ≤ w.heap.size + 1 := by omega
  have hle2 : w.heap.size ≤ w.heap.size + 1 + 1 := by omega
  have B9 := Lib.hid (((((((((B4.out.setCell (p := ⟨w.heap.size + 1 + 1, 7, none⟩) hle2 (.slice (some ⟨b4, 0, none⟩) p p)).setCell (p := ⟨w.heap.size + 1, 0, none⟩) hle (.slice (some ⟨b1, 0, none⟩) n n)).setCell (p := ⟨w.heap.size + 1, 1, none⟩) hle (.slice (some ⟨b2, 0, none⟩) m m)).setCell (p := ⟨w.heap.size + 1, 2, none⟩) hle (.int .i64 top)).setCell (p := ⟨w.heap.size + 1, 3, none⟩) hle (.int .i64 pr)).setCell (p := ⟨w.heap.size + 1, 4, none⟩) hle (.int .i64 st)).setCell (p := ⟨w.heap.size + 1, 5, none⟩) hle (.int .i64 bu)).setCell (p := ⟨w.heap.size + 1, 6, none⟩) hle (.slice (some ⟨b3, 0, none⟩) q q)).setCell (p := ⟨w.heap.size + 1, 7, none⟩) hle (.slice (some ⟨b4, 0, none⟩) p p))
  have P := Lib.hid (show OwnC w.heap.size _ b1 b2 b3 b4 rs' ps bs ls from ⟨T3.out.frame (fun c hc => O9.out c (by omega) (by omega)) |>.lower (by omega), by rw [HQ.out]; exact R3.out.frame (O9.out b3 (by omega) (by omega)), by rw [HP.out]; exact Q3.out.frame (O9.out b4 (by omega) (by omega)), by omega, by omega⟩)
  clear T3 R3 Q3 B4 O9 hle hle2 k1 k2
  go_wp2
  refine bodyPost_ret (v := CV (some ⟨b1, 0, none⟩) n n (some ⟨b2, 0, none⟩) m m top pr st bu (some ⟨b3, 0, none⟩) q q (some ⟨b4, 0, none⟩) p p) (by simp [results, Tryz.results8, go_sem, c0, c1, c2, c3, c4, c5, c6, c7]) rfl ⟨b1, b2, b3, b4, rs', rfl, EB.out, P.out, B9.out⟩
end Go.Proofs.YtanoklpffenljaaGreatDoor
