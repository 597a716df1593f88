import Derived.Test.YtnihhbfgbilimaaGreatDoorTw
import Derived.Test.YtnihhbfgbilimaaGreatDoorAkb
import Derived.Test.YtnihhbfgbilimaaGreatDoorWag
import Derived.Test.YtnihhbfgbilimaaGreatDoorXan
import Derived.Test.YtnihhbfgbilimaaGreatDoorZPp
import Derived.RegionTactic
import Derived.ChangeAlike
import Derived.Deep.RegionWith
namespace Go.Proofs.YtnihhbfgbilimaaGreatDoor
open Go.RowKit
set_option linter.unusedVariables false
open List (setIfInBounds_toArray set_cons_zero set_cons_succ getElem_toArray getElem_cons_succ getElem_cons_zero)
set_option linter.unusedSimpArgs false
theorem WayB.facts {w : World} {h : Nat} {sl : Option Addr} {n cap : Nat} {sl2 : Option Addr} {m cap2 : Nat} {top : Int} {sl3 : Option Addr} {q cap3 : Nat} {bud : Int} (H : WayB w h sl n cap sl2 m cap2 top sl3 q cap3 bud) :
  (h < w.heap.size ∧ w.cell? ⟨h, 0, none⟩ = some (.slice sl n cap) ∧ w.cell? ⟨h, 1, none⟩ = some (.slice sl2 m cap2)) ∧ (h + 1 < w.heap.size ∧ w.cell? ⟨h + 1, 0, none⟩ = some (.int .i64 top)) ∧ (h + 2 < w.heap.size ∧ w.cell? ⟨h + 2, 0, none⟩ = some (.slice sl3 q cap3)) ∧ (h + 3 < w.heap.size ∧ w.cell? ⟨h + 3, 0, none⟩ = some (.int .i64 bud)) := by
 obtain ⟨b0, b1, b2, b3⟩ := H
 exact ⟨⟨(Array.getElem?_eq_some_iff.1 b0).1, by simp [World.cell?, b0], by simp [World.cell?, b0]⟩, ⟨(Array.getElem?_eq_some_iff.1 b1).1, by simp [World.cell?, b1]⟩, ⟨(Array.getElem?_eq_some_iff.1 b2).1, by simp [World.cell?, b2]⟩, ⟨(Array.getElem?_eq_some_iff.1 b3).1, by simp [World.cell?, b3]⟩⟩
theorem WayB.below {w w' : World} {h : Nat} {sl : Option Addr} {n cap : Nat} {sl2 : Option Addr} {m cap2 : Nat} {top : Int} {sl3 : Option Addr} {q cap3 : Nat} {bud : Int} (H : WayB w h sl n cap sl2 m cap2 top sl3 q cap3 bud) (hb : Below w.heap.size w w') : WayB w' h sl n cap sl2 m cap2 top sl3 q cap3 bud := by
 obtain ⟨⟨l0, -⟩, ⟨l1, -⟩, ⟨l2, -⟩, ⟨l3, -⟩⟩ := H.facts
 exact ⟨(hb.block _ l0).trans H.b0, (hb.block _ l1).trans H.b1, (hb.block _ l2).trans H.b2, (hb.block _ l3).trans H.b3⟩
def BoxF (w : World) (b : Nat) (v st cd : Int) (x1 x2 x3 : Value) : Prop := w.heap[b]? = some (.cells #[.int .i64 v, x1, x2, .int .i64 st, .int .i64 cd, x3] 183)
theorem BoxF.facts {w : World} {b : Nat} {v st cd : Int} {x1 x2 x3 : Value} (h : BoxF w b v st cd x1 x2 x3) : b < w.heap.size ∧ w.cell? ⟨b, 0, none⟩ = some (.int .i64 v) ∧ w.cell? ⟨b, 1, none⟩ = some x1 ∧ w.cell? ⟨b, 2, none⟩ = some x2 ∧ w.cell? ⟨b, 3, none⟩ = some (.int .i64 st) ∧ w.cell? ⟨b, 4, none⟩ = some (.int .i64 cd) ∧ w.cell? ⟨b, 5, none⟩ = some x3 ∧ w.frozen? ⟨b, 0, none⟩ = false ∧ w.frozen? ⟨b, 1, none⟩ = false ∧ w.frozen? ⟨b, 2, none⟩ = false ∧ w.frozen? ⟨b, 3, none⟩ = false ∧ w.frozen? ⟨b, 4, none⟩ = false ∧ w.frozen? ⟨b, 5, none⟩ = false := by
 unfold BoxF at h
 exact ⟨(Array.getElem?_eq_some_iff.1 h).1, by simp [World.cell?, h], by simp [World.cell?, h], by simp [World.cell?, h], by simp [World.cell?, h], by simp [World.cell?, h], by simp [World.cell?, h], by simp [World.frozen?, h], by simp [World.frozen?, h], by simp [World.frozen?, h], by simp [World.frozen?, h], by simp [World.frozen?, h], by simp [World.frozen?, h]⟩
theorem BoxF.below {w w' : World} {b : Nat} {v st cd : Int} {x1 x2 x3 : Value} (h : BoxF w b v st cd x1 x2 x3) (hb : Below w.heap.size w w') : BoxF w' b v st cd x1 x2 x3 := (hb.block b h.facts.1).trans h
theorem set6_at {w : World} {b : Nat} {v st cd : Int} {x1 x2 x3 v1 v2 v5 : Value} {v0 v3 v4 : Int} (h : BoxF w b v st cd x1 x2 x3) : BoxF (set6 w b (.int .i64 v0) v1 v2 (.int .i64 v3) (.int .i64 v4) v5) b v0 v3 v4 v1 v2 v5 :=
 heap_setCell_same _ b 5 _ 183 v5 (heap_setCell_same _ b 4 _ 183 _ (heap_setCell_same _ b 3 _ 183 _ (heap_setCell_same _ b 2 _ 183 v2 (heap_setCell_same _ b 1 _ 183 v1 (heap_setCell_same w b 0 _ 183 _ h)))))
theorem SoV.only7 {B : Nat} {R : Res} {vt vl : Value} {ls : List LCl} {W W' : World} {b : Nat} {us : Array Value} (h : SoV B R vt vl ls W) (ho : Only b W W') (hx : W.heap[b]? = some (.cells us 183)) : SoV B R vt vl ls W' :=
 ⟨own_only h.tr ho hx (by decide), owc_only h.ol ho hx (by decide) (by decide), h.eq, h.ap⟩
def FoundQ (B : Nat) (R : Res) (PC : List Value) (k : Nat) (s1 : Option Addr) (n1 c1 : Nat) (s2 : Option Addr) (n2 c2 : Nat) (s3 : Option Addr) (n3 c3 : Nat) (W : World) : Prop :=
 ∃ ls, SoV B R (.slice s1 n1 c1) (.slice s2 n2 c2) ls W ∧ (R.1 = 1 → W.ownsRow B 131 2 (.slice s3 n3 c3) k PC) ∧ (R.1 ≠ 1 → s3 = none ∧ n3 = 0 ∧ c3 = 0)
set_option maxRecDepth 100000 in
set_option maxHeartbeats 2000000 in
theorem byc_any (h : Nat) (sl : Option Addr) (n cap : Nat) (sl2 : Option Addr) (m cap2 : Nat) (top : Int) (sl3 : Option Addr) (q cap3 : Nat) (bud : Int) (V : Int) (A : List (List Int)) (PC : List Value) (k : Nat) (R : Res × Int) (w : World)
  (H : WayB w h sl n cap sl2 m cap2 top sl3 q cap3 bud)
  (E1 : ∀ W, Below w.heap.size w W → Calls Tryz.prog 140 #[.agg #[.slice sl n cap, .slice sl2 m cap2], .int .i64 top, .slice sl3 q cap3] W fun e w' => ∃ v cs, e = .returned (.agg #[.int .i64 V, v]) ∧ OwC w' W.heap.size v cs ∧ bareC cs = A ∧ Below W.heap.size W w')
  (E2 : ∀ W v cs, Below w.heap.size w W → OwC W w.heap.size v cs → bareC cs = A → Calls Tryz.prog 139 #[.agg #[.int .i64 V, v], .int .i64 bud] W (SPost W R))
  (E3 : ∀ W v, Below w.heap.size w W → W.ownsRow w.heap.size 2 1 v R.1.2.1.length (valsZ R.1.2.1) → R.1.1 = 1 → Calls Tryz.prog 141 #[.agg #[.slice sl n cap, .slice sl2 m cap2], .int .i64 top, .slice sl3 q cap3, v] W fun e w' => ∃ v, e = .returned v ∧ w'.ownsRow W.heap.size 131 2 v k PC ∧ Below W.heap.size W w') :
  Calls Tryz.prog 138 #[.pointer (some ⟨h, 0, none⟩), .pointer (some ⟨h + 1, 0, none⟩), .pointer (some ⟨h + 2, 0, none⟩), .pointer (some ⟨h + 3, 0, none⟩)] w fun e w' => ∃ s1 n1 c1 s2 n2 c2 s3 n3 c3, e = .returned (.iface 183 (SVK R.1.1 (.slice s1 n1 c1) (.slice s2 n2 c2) R.1.2.2.2 R.2 (.slice s3 n3 c3))) ∧ FoundQ w.heap.size R.1 PC k s1 n1 c1 s2 n2 c2 s3 n3 c3 w' ∧ Below w.heap.size w w' := by
 have HF := Lib.hid (fun W (hW : Below w.heap.size w W) => (H.below hW).facts)
 have C1 := Lib.hid E1
 have C2 := Lib.hid E2
 have C3 := Lib.hid E3
 obtain ⟨⟨l0, d0, d1⟩, ⟨l1, d2⟩, ⟨l2, d3⟩, ⟨l3, d4⟩⟩ := H.facts
 clear E1 E2 E3 H
 go_enter Tryz.func138, Tryz.ntmps138
 go_wp2_with fail
 refine wp_region_held_drew (S := fun W => (h < W.heap.size ∧ W.cell? ⟨h, 0, none⟩ = some (.slice sl n cap) ∧ W.cell? ⟨h, 1, none⟩ = some (.slice sl2 m cap2)) ∧ (h + 1 < W.heap.size ∧ W.cell? ⟨h + 1, 0, none⟩ = some (.int .i64 top)) ∧ (h + 2 < W.heap.size ∧ W.cell? ⟨h + 2, 0, none⟩ = some (.slice sl3 q cap3)) ∧ (h + 3 < W.heap.size ∧ W.cell? ⟨h + 3, 0, none⟩ = some (.int .i64 bud))) (by kernel_rfl) ?_ (fun hHeld => ?_)
 ·exact HF.out _ (below_drew' w)
 have BX : Hid (Below w.heap.size w w.drew) := below_drew' w
 clear l0 d0 d1 l1 d2 l2 d3 l3 d4
 generalize w.drew = wd at *
 refine tw (i := 0) rfl ?_
 refine tw (i := 1) rfl ?_
 refine tw (i := 2) rfl ?_
 refine tw (i := 4) rfl ?_
 try simp only [Act.put, setIfInBounds_toArray, set_cons_zero, set_cons_succ, getElem_toArray, getElem_cons_succ, getElem_cons_zero]
 refine wpAnyH_ready (rs := [3, 7]) (by kernel_rfl) (by simp) ?_
 refine AllReadyH.cons rfl (fun K hK => ?_) (AllReadyH.cons rfl (fun K hK => ?_) AllReadyH.nil)
 ·go_simp
  go_wp2_with (go_at_call 140; refine (C1.out _ BX.out).mono ?_; rintro e w1 ⟨v1, cs, rfl, o1, e1, b1⟩)
  have BY : Hid (Below w.heap.size w w1) := bT BX.out b1
  have O1 : Hid (OwC w1 w.heap.size v1 cs ∧ bareC cs = A) := ⟨o1.mono BX.out.size, e1⟩
  clear o1 e1 b1
  refine hK.out _ _ ?_ (fun hHeld => ?_)
  ·exact HF.out _ BY.out
  clear hK K
  clear BX
  have BX := BY
  clear BY
  refine wpAnyH_ready (rs := [5, 7]) (by kernel_rfl) (by simp) ?_
  refine AllReadyH.cons rfl (fun K hK => ?_) (AllReadyH.cons rfl (fun K hK => ?_) AllReadyH.nil)
  ·go_simp
   go_wp2_with (go_at_call 139; refine (C2.out _ v1 cs BX.out O1.out.1 O1.out.2).mono ?_; rintro e w2 ⟨vt, vl, ls, rfl, so, b2⟩)
   have BY : Hid (Below w.heap.size w w2) := bT BX.out b2
   have SO : Hid (SoV w.heap.size R.1 vt vl ls w2) := ⟨own_mono so.tr BX.out.size, so.ol.mono BX.out.size, so.eq, so.ap⟩
   obtain ⟨s1, c1, rfl⟩ := own_v so.tr
   obtain ⟨s2, c2, rfl⟩ := so.ol.v
   clear so b2 O1
   refine hK.out _ _ ?_ (fun hHeld => ?_)
   ·exact HF.out _ BY.out
   clear hK K
   clear BX
   have BX := BY
   clear BY
   refine tw (i := 6) rfl ?_
   try simp only [Act.put, setIfInBounds_toArray, set_cons_zero, set_cons_succ, getElem_toArray, getElem_cons_succ, getElem_cons_zero]
   refine wpAnyH_ready (rs := [7]) (by kernel_rfl) (by simp) ?_
   refine AllReadyH.cons rfl (fun K hK => ?_) AllReadyH.nil
   have BY : Hid (Below w.heap.size w (w2.alloc (.cells #[.int .i64 0, .slice none 0 0, .slice none 0 0, .int .i64 0, .int .i64 0, .slice none 0 0] 183))) := bT BX.out (bA0 _ _)
   have XA : Hid (BoxF (w2.alloc (.cells #[.int .i64 0, .slice none 0 0, .slice none 0 0, .int .i64 0, .int .i64 0, .slice none 0 0] 183)) w2.heap.size 0 0 0 (.slice none 0 0) (.slice none 0 0) (.slice none 0 0)) := al_new _ _ _ rfl
   have NA : Hid (w.heap.size ≤ w2.heap.size) := BX.out.size
   have S2 : Hid (SoV w.heap.size R.1 _ _ ls (w2.alloc (.cells #[.int .i64 0, .slice none 0 0, .slice none 0 0, .int .i64 0, .int .i64 0, .slice none 0 0] 183))) := SO.out.below (bA0 _ _)
   clear SO
   have SO := S2
   clear S2
   go_simp
   refine hK.out _ _ ?_ (fun hHeld => ?_)
   ·exact HF.out _ BY.out
   clear hK K
   clear BX
   have BX := BY
   clear BY
   generalize w2.alloc (.cells #[.int .i64 0, .slice none 0 0, .slice none 0 0, .int .i64 0, .int .i64 0, .slice none 0 0] 183) = wa at *
   generalize w2.heap.size = p at *
   refine wpAnyH_ready (rs := [8]) (by kernel_rfl) (by simp) ?_
   refine AllReadyH.cons rfl (fun K hK => ?_) AllReadyH.nil
   have OS : Only p wa (set6 wa p (.int .i64 R.1.1) (.slice s1 R.1.2.1.length c1) (.slice s2 ls.length c2) (.int .i64 R.1.2.2.2) (.int .i64 R.2) (.slice none 0 0)) := set6_only wa p _ _ _ _ _ _
   have BY : Hid (Below w.heap.size w (set6 wa p (.int .i64 R.1.1) (.slice s1 R.1.2.1.length c1) (.slice s2 ls.length c2) (.int .i64 R.1.2.2.2) (.int .i64 R.2) (.slice none 0 0))) := set6_below BX.out NA.out _ _ _ _ _ _
   have S3 : Hid (SoV w.heap.size R.1 _ _ ls (set6 wa p (.int .i64 R.1.1) (.slice s1 R.1.2.1.length c1) (.slice s2 ls.length c2) (.int .i64 R.1.2.2.2) (.int .i64 R.2) (.slice none 0 0))) := SoV.only7 SO.out OS XA.out
   have YS : Hid (BoxF (set6 wa p (.int .i64 R.1.1) (.slice s1 R.1.2.1.length c1) (.slice s2 ls.length c2) (.int .i64 R.1.2.2.2) (.int .i64 R.2) (.slice none 0 0)) p R.1.1 R.1.2.2.2 R.2 (.slice s1 R.1.2.1.length c1) (.slice s2 ls.length c2) (.slice none 0 0)) := set6_at XA.out
   obtain ⟨zl, z0, z1, z2, z3, z4, z5, f0, f1, f2, f3, f4, f5⟩ := XA.out.facts
   clear OS SO
   unfold set6 at BY S3 YS
   go_simp
   refine hK.out _ _ ?_ (fun hHeld => ?_)
   ·exact HF.out _ BY.out
   clear hK K
   clear zl z0 z1 z2 z3 z4 z5 f0 f1 f2 f3 f4 f5 XA BX
   generalize ((((((wa).setCell ⟨p, 0, none⟩ (.int .i64 R.1.1)).setCell ⟨p, 1, none⟩ (.slice s1 R.1.2.1.length c1)).setCell ⟨p, 2, none⟩ (.slice s2 ls.length c2)).setCell ⟨p, 3, none⟩ (.int .i64 R.1.2.2.2)).setCell ⟨p, 4, none⟩ (.int .i64 R.2)).setCell ⟨p, 5, none⟩ (.slice none 0 0) = w9 at *
   refine wpAnyH_done (by kernel_rfl) ?_ _
   obtain ⟨yl, y0, y1, y2, y3, y4, y5, g0, g1, g2, g3, g4, g5⟩ := YS.out.facts
   obtain ⟨⟨l0, d0, d1⟩, ⟨l1, d2⟩, ⟨l2, d3⟩, ⟨l3, d4⟩⟩ := HF.out w9 BY.out
   clear hHeld
   by_cases hv : R.1.1 = 1
   ·have HV := Lib.hid hv
    have C4 := Lib.hid (C3.out w9 _ BY.out S3.out.tr hv)
    rw [hv] at y0
    clear hv C1 C2
    go_wp2_with fail
    refine C4.out.mono ?_
    rintro e w10 ⟨v3, rfl, o3, b3⟩
    obtain ⟨s3, c3, rfl⟩ := own_v o3
    have YT := Lib.hid (YS.out.below b3)
    obtain ⟨ul, u0, u1, u2, u3, u4, u5, e0, e1, e2, e3, e4, e5⟩ := YT.out.facts
    have OS : Only p w10 (w10.setCell ⟨p, 5, none⟩ (.slice s3 k c3)) := (Only.refl p w10).setCell 5 _
    have FI : Hid (FoundQ w.heap.size R.1 PC k s1 R.1.2.1.length c1 s2 ls.length c2 s3 k c3 (w10.setCell ⟨p, 5, none⟩ (.slice s3 k c3)) ∧ Below w.heap.size w (w10.setCell ⟨p, 5, none⟩ (.slice s3 k c3))) := ⟨⟨ls, SoV.only7 (S3.out.below b3) OS YT.out, fun _ => own_only (own_mono o3 BY.out.size) OS YT.out (by decide), fun hne => absurd HV.out hne⟩, (bT BY.out b3).setCell (p := ⟨p, 5, none⟩) NA.out _⟩
    clear o3 b3 OS YT YS S3 BY C4 C3 HF
    go_wp2
    go_ret
    exact ⟨s1, _, c1, s2, _, c2, s3, k, c3, by rw [HV.out]; rfl, FI.out⟩
   ·have FI : Hid (FoundQ w.heap.size R.1 PC k s1 R.1.2.1.length c1 s2 ls.length c2 none 0 0 w9 ∧ Below w.heap.size w w9) := ⟨⟨ls, S3.out, fun hy => absurd hy hv, fun _ => ⟨rfl, rfl, rfl⟩⟩, BY.out⟩
    clear YS S3 BY C3 HF
    go_wp2
    go_ret
    exact ⟨s1, _, c1, s2, _, c2, none, 0, 0, rfl, FI.out⟩
  ·have BY : Hid (Below w.heap.size w (w1.alloc (.cells #[.int .i64 0, .slice none 0 0, .slice none 0 0, .int .i64 0, .int .i64 0, .slice none 0 0] 183))) := bT BX.out (bA0 _ _)
   have XA : Hid (BoxF (w1.alloc (.cells #[.int .i64 0, .slice none 0 0, .slice none 0 0, .int .i64 0, .int .i64 0, .slice none 0 0] 183)) w1.heap.size 0 0 0 (.slice none 0 0) (.slice none 0 0) (.slice none 0 0)) := al_new _ _ _ rfl
   have NA : Hid (w.heap.size ≤ w1.heap.size) := BX.out.size
   have O2 : Hid (OwC (w1.alloc (.cells #[.int .i64 0, .slice none 0 0, .slice none 0 0, .int .i64 0, .int .i64 0, .slice none 0 0] 183)) w.heap.size v1 cs ∧ bareC cs = A) := ⟨O1.out.1.below (bA0 _ _), O1.out.2⟩
   clear O1
   have O1 := O2
   clear O2
   go_simp
   refine hK.out _ _ ?_ (fun hHeld => ?_)
   ·exact HF.out _ BY.out
   clear hK K
   clear BX
   have BX := BY
   clear BY
   generalize w1.alloc (.cells #[.int .i64 0, .slice none 0 0, .slice none 0 0, .int .i64 0, .int .i64 0, .slice none 0 0] 183) = wa at *
   generalize w1.heap.size = p at *
   refine wpAnyH_ready (rs := [5]) (by kernel_rfl) (by simp) ?_
   refine AllReadyH.cons rfl (fun K hK => ?_) AllReadyH.nil
   go_simp
   go_wp2_with (go_at_call 139; refine (C2.out _ v1 cs BX.out O1.out.1 O1.out.2).mono ?_; rintro e w2 ⟨vt, vl, ls, rfl, so, b2⟩)
   have BY : Hid (Below w.heap.size w w2) := bT BX.out b2
   have SO : Hid (SoV w.heap.size R.1 vt vl ls w2) := ⟨own_mono so.tr BX.out.size, so.ol.mono BX.out.size, so.eq, so.ap⟩
   have XB := Lib.hid (XA.out.below b2)
   clear XA
   have XA := XB
   clear XB
   obtain ⟨s1, c1, rfl⟩ := own_v so.tr
   obtain ⟨s2, c2, rfl⟩ := so.ol.v
   clear so b2 O1
   refine hK.out _ _ ?_ (fun hHeld => ?_)
   ·exact HF.out _ BY.out
   clear hK K
   clear BX
   have BX := BY
   clear BY
   refine tw (i := 6) rfl ?_
   try simp only [Act.put, setIfInBounds_toArray, set_cons_zero, set_cons_succ, getElem_toArray, getElem_cons_succ, getElem_cons_zero]
   refine wpAnyH_ready (rs := [8]) (by kernel_rfl) (by simp) ?_
   refine AllReadyH.cons rfl (fun K hK => ?_) AllReadyH.nil
   have OS : Only p w2 (set6 w2 p (.int .i64 R.1.1) (.slice s1 R.1.2.1.length c1) (.slice s2 ls.length c2) (.int .i64 R.1.2.2.2) (.int .i64 R.2) (.slice none 0 0)) := set6_only w2 p _ _ _ _ _ _
   have BY : Hid (Below w.heap.size w (set6 w2 p (.int .i64 R.1.1) (.slice s1 R.1.2.1.length c1) (.slice s2 ls.length c2) (.int .i64 R.1.2.2.2) (.int .i64 R.2) (.slice none 0 0))) := set6_below BX.out NA.out _ _ _ _ _ _
   have S3 : Hid (SoV w.heap.size R.1 _ _ ls (set6 w2 p (.int .i64 R.1.1) (.slice s1 R.1.2.1.length c1) (.slice s2 ls.length c2) (.int .i64 R.1.2.2.2) (.int .i64 R.2) (.slice none 0 0))) := SoV.only7 SO.out OS XA.out
   have YS : Hid (BoxF (set6 w2 p (.int .i64 R.1.1) (.slice s1 R.1.2.1.length c1) (.slice s2 ls.length c2) (.int .i64 R.1.2.2.2) (.int .i64 R.2) (.slice none 0 0)) p R.1.1 R.1.2.2.2 R.2 (.slice s1 R.1.2.1.length c1) (.slice s2 ls.length c2) (.slice none 0 0)) := set6_at XA.out
   obtain ⟨zl, z0, z1, z2, z3, z4, z5, f0, f1, f2, f3, f4, f5⟩ := XA.out.facts
   clear OS SO
   unfold set6 at BY S3 YS
   go_simp
   refine hK.out _ _ ?_ (fun hHeld => ?_)
   ·exact HF.out _ BY.out
   clear hK K
   clear zl z0 z1 z2 z3 z4 z5 f0 f1 f2 f3 f4 f5 XA BX
   generalize ((((((w2).setCell ⟨p, 0, none⟩ (.int .i64 R.1.1)).setCell ⟨p, 1, none⟩ (.slice s1 R.1.2.1.length c1)).setCell ⟨p, 2, none⟩ (.slice s2 ls.length c2)).setCell ⟨p, 3, none⟩ (.int .i64 R.1.2.2.2)).setCell ⟨p, 4, none⟩ (.int .i64 R.2)).setCell ⟨p, 5, none⟩ (.slice none 0 0) = w9 at *
   refine wpAnyH_done (by kernel_rfl) ?_ _
   obtain ⟨yl, y0, y1, y2, y3, y4, y5, g0, g1, g2, g3, g4, g5⟩ := YS.out.facts
   obtain ⟨⟨l0, d0, d1⟩, ⟨l1, d2⟩, ⟨l2, d3⟩, ⟨l3, d4⟩⟩ := HF.out w9 BY.out
   clear hHeld
   by_cases hv : R.1.1 = 1
   ·have HV := Lib.hid hv
    have C4 := Lib.hid (C3.out w9 _ BY.out S3.out.tr hv)
    rw [hv] at y0
    clear hv C1 C2
    go_wp2_with fail
    refine C4.out.mono ?_
    rintro e w10 ⟨v3, rfl, o3, b3⟩
    obtain ⟨s3, c3, rfl⟩ := own_v o3
    have YT := Lib.hid (YS.out.below b3)
    obtain ⟨ul, u0, u1, u2, u3, u4, u5, e0, e1, e2, e3, e4, e5⟩ := YT.out.facts
    have OS : Only p w10 (w10.setCell ⟨p, 5, none⟩ (.slice s3 k c3)) := (Only.refl p w10).setCell 5 _
    have FI : Hid (FoundQ w.heap.size R.1 PC k s1 R.1.2.1.length c1 s2 ls.length c2 s3 k c3 (w10.setCell ⟨p, 5, none⟩ (.slice s3 k c3)) ∧ Below w.heap.size w (w10.setCell ⟨p, 5, none⟩ (.slice s3 k c3))) := ⟨⟨ls, SoV.only7 (S3.out.below b3) OS YT.out, fun _ => own_only (own_mono o3 BY.out.size) OS YT.out (by decide), fun hne => absurd HV.out hne⟩, (bT BY.out b3).setCell (p := ⟨p, 5, none⟩) NA.out _⟩
    clear o3 b3 OS YT YS S3 BY C4 C3 HF
    go_wp2
    go_ret
    exact ⟨s1, _, c1, s2, _, c2, s3, k, c3, by rw [HV.out]; rfl, FI.out⟩
   ·have FI : Hid (FoundQ w.heap.size R.1 PC k s1 R.1.2.1.length c1 s2 ls.length c2 none 0 0 w9 ∧ Below w.heap.size w w9) := ⟨⟨ls, S3.out, fun hy => absurd hy hv, fun _ => ⟨rfl, rfl, rfl⟩⟩, BY.out⟩
    clear YS S3 BY C3 HF
    go_wp2
    go_ret
    exact ⟨s1, _, c1, s2, _, c2, none, 0, 0, rfl, FI.out⟩
 ·have BY : Hid (Below w.heap.size w (wd.alloc (.cells #[.int .i64 0, .slice none 0 0, .slice none 0 0, .int .i64 0, .int .i64 0, .slice none 0 0] 183))) := bT BX.out (bA0 _ _)
  have XA : Hid (BoxF (wd.alloc (.cells #[.int .i64 0, .slice none 0 0, .slice none 0 0, .int .i64 0, .int .i64 0, .slice none 0 0] 183)) wd.heap.size 0 0 0 (.slice none 0 0) (.slice none 0 0) (.slice none 0 0)) := al_new _ _ _ rfl
  have NA : Hid (w.heap.size ≤ wd.heap.size) := BX.out.size
  go_simp
  refine hK.out _ _ ?_ (fun hHeld => ?_)
  ·exact HF.out _ BY.out
  clear hK K
  clear BX
  have BX := BY
  clear BY
  generalize wd.alloc (.cells #[.int .i64 0, .slice none 0 0, .slice none 0 0, .int .i64 0, .int .i64 0, .slice none 0 0] 183) = wa at *
  generalize wd.heap.size = p at *
  refine wpAnyH_ready (rs := [3]) (by kernel_rfl) (by simp) ?_
  refine AllReadyH.cons rfl (fun K hK => ?_) AllReadyH.nil
  go_simp
  go_wp2_with (go_at_call 140; refine (C1.out _ BX.out).mono ?_; rintro e w1 ⟨v1, cs, rfl, o1, e1, b1⟩)
  have BY : Hid (Below w.heap.size w w1) := bT BX.out b1
  have O1 : Hid (OwC w1 w.heap.size v1 cs ∧ bareC cs = A) := ⟨o1.mono BX.out.size, e1⟩
  have XB := Lib.hid (XA.out.below b1)
  clear XA
  have XA := XB
  clear XB
  clear o1 e1 b1
  refine hK.out _ _ ?_ (fun hHeld => ?_)
  ·exact HF.out _ BY.out
  clear hK K
  clear BX
  have BX := BY
  clear BY
  refine wpAnyH_ready (rs := [5]) (by kernel_rfl) (by simp) ?_
  refine AllReadyH.cons rfl (fun K hK => ?_) AllReadyH.nil
  go_simp
  go_wp2_with (go_at_call 139; refine (C2.out _ v1 cs BX.out O1.out.1 O1.out.2).mono ?_; rintro e w2 ⟨vt, vl, ls, rfl, so, b2⟩)
  have BY : Hid (Below w.heap.size w w2) := bT BX.out b2
  have SO : Hid (SoV w.heap.size R.1 vt vl ls w2) := ⟨own_mono so.tr BX.out.size, so.ol.mono BX.out.size, so.eq, so.ap⟩
  have XB := Lib.hid (XA.out.below b2)
  clear XA
  have XA := XB
  clear XB
  obtain ⟨s1, c1, rfl⟩ := own_v so.tr
  obtain ⟨s2, c2, rfl⟩ := so.ol.v
  clear so b2 O1
  refine hK.out _ _ ?_ (fun hHeld => ?_)
  ·exact HF.out _ BY.out
  clear hK K
  clear BX
  have BX := BY
  clear BY
  refine tw (i := 6) rfl ?_
  try simp only [Act.put, setIfInBounds_toArray, set_cons_zero, set_cons_succ, getElem_toArray, getElem_cons_succ, getElem_cons_zero]
  refine wpAnyH_ready (rs := [8]) (by kernel_rfl) (by simp) ?_
  refine AllReadyH.cons rfl (fun K hK => ?_) AllReadyH.nil
  have OS : Only p w2 (set6 w2 p (.int .i64 R.1.1) (.slice s1 R.1.2.1.length c1) (.slice s2 ls.length c2) (.int .i64 R.1.2.2.2) (.int .i64 R.2) (.slice none 0 0)) := set6_only w2 p _ _ _ _ _ _
  have BY : Hid (Below w.heap.size w (set6 w2 p (.int .i64 R.1.1) (.slice s1 R.1.2.1.length c1) (.slice s2 ls.length c2) (.int .i64 R.1.2.2.2) (.int .i64 R.2) (.slice none 0 0))) := set6_below BX.out NA.out _ _ _ _ _ _
  have S3 : Hid (SoV w.heap.size R.1 _ _ ls (set6 w2 p (.int .i64 R.1.1) (.slice s1 R.1.2.1.length c1) (.slice s2 ls.length c2) (.int .i64 R.1.2.2.2) (.int .i64 R.2) (.slice none 0 0))) := SoV.only7 SO.out OS XA.out
  have YS : Hid (BoxF (set6 w2 p (.int .i64 R.1.1) (.slice s1 R.1.2.1.length c1) (.slice s2 ls.length c2) (.int .i64 R.1.2.2.2) (.int .i64 R.2) (.slice none 0 0)) p R.1.1 R.1.2.2.2 R.2 (.slice s1 R.1.2.1.length c1) (.slice s2 ls.length c2) (.slice none 0 0)) := set6_at XA.out
  obtain ⟨zl, z0, z1, z2, z3, z4, z5, f0, f1, f2, f3, f4, f5⟩ := XA.out.facts
  clear OS SO
  unfold set6 at BY S3 YS
  go_simp
  refine hK.out _ _ ?_ (fun hHeld => ?_)
  ·exact HF.out _ BY.out
  clear hK K
  clear zl z0 z1 z2 z3 z4 z5 f0 f1 f2 f3 f4 f5 XA BX
  generalize ((((((w2).setCell ⟨p, 0, none⟩ (.int .i64 R.1.1)).setCell ⟨p, 1, none⟩ (.slice s1 R.1.2.1.length c1)).setCell ⟨p, 2, none⟩ (.slice s2 ls.length c2)).setCell ⟨p, 3, none⟩ (.int .i64 R.1.2.2.2)).setCell ⟨p, 4, none⟩ (.int .i64 R.2)).setCell ⟨p, 5, none⟩ (.slice none 0 0) = w9 at *
  refine wpAnyH_done (by kernel_rfl) ?_ _
  obtain ⟨yl, y0, y1, y2, y3, y4, y5, g0, g1, g2, g3, g4, g5⟩ := YS.out.facts
  obtain ⟨⟨l0, d0, d1⟩, ⟨l1, d2⟩, ⟨l2, d3⟩, ⟨l3, d4⟩⟩ := HF.out w9 BY.out
  clear hHeld
  by_cases hv : R.1.1 = 1
  ·have HV := Lib.hid hv
   have C4 := Lib.hid (C3.out w9 _ BY.out S3.out.tr hv)
   rw [hv] at y0
   clear hv C1 C2
   go_wp2_with fail
   refine C4.out.mono ?_
   rintro e w10 ⟨v3, rfl, o3, b3⟩
   obtain ⟨s3, c3, rfl⟩ := own_v o3
   have YT := Lib.hid (YS.out.below b3)
   obtain ⟨ul, u0, u1, u2, u3, u4, u5, e0, e1, e2, e3, e4, e5⟩ := YT.out.facts
   have OS : Only p w10 (w10.setCell ⟨p, 5, none⟩ (.slice s3 k c3)) := (Only.refl p w10).setCell 5 _
   have FI : Hid (FoundQ w.heap.size R.1 PC k s1 R.1.2.1.length c1 s2 ls.length c2 s3 k c3 (w10.setCell ⟨p, 5, none⟩ (.slice s3 k c3)) ∧ Below w.heap.size w (w10.setCell ⟨p, 5, none⟩ (.slice s3 k c3))) := ⟨⟨ls, SoV.only7 (S3.out.below b3) OS YT.out, fun _ => own_only (own_mono o3 BY.out.size) OS YT.out (by decide), fun hne => absurd HV.out hne⟩, (bT BY.out b3).setCell (p := ⟨p, 5, none⟩) NA.out _⟩
   clear o3 b3 OS YT YS S3 BY C4 C3 HF
   go_wp2
   go_ret
   exact ⟨s1, _, c1, s2, _, c2, s3, k, c3, by rw [HV.out]; rfl, FI.out⟩
  ·have FI : Hid (FoundQ w.heap.size R.1 PC k s1 R.1.2.1.length c1 s2 ls.length c2 none 0 0 w9 ∧ Below w.heap.size w w9) := ⟨⟨ls, S3.out, fun hy => absurd hy hv, fun _ => ⟨rfl, rfl, rfl⟩⟩, BY.out⟩
   clear YS S3 BY C3 HF
   go_wp2
   go_ret
   exact ⟨s1, _, c1, s2, _, c2, none, 0, 0, rfl, FI.out⟩
end Go.Proofs.YtnihhbfgbilimaaGreatDoor
