/-
  WHAT THE SOLVER's WAY FINDS: the closure of bySolving.
  ALL STATIONS ASKED FOR: impl.AskAll.
  ALL STATIONS ASKED FOR, as the model does it: spec.AskAll.
-/
import Derived.Test.YtnihhbfgbilimaaGreatDoorAkb
import Derived.Test.YtnihhbfgbilimaaGreatDoorWag
import Derived.Test.YtnihhbfgbilimaaGreatDoorXan
import Derived.Test.YtnihhbfgbilimaaGreatDoorIa
import Derived.RegionTactic
import Derived.ChangeAlike
import Derived.Deep.RegionWith
namespace Go.Proofs.YtnihhbfgbilimaaGreatDoor
open Go.RowKit
set_option linter.unusedVariables false
set_option linter.unusedSimpArgs false

theorem WayB.facts {w : World} {h : Nat} {sl : Option Addr} {n cap : Nat} {sl2 : Option Addr} {m cap2 : Nat} {top : Int} {sl3 : Option Addr} {q cap3 : Nat} {bud : Int} (H : WayB w h sl n cap sl2 m cap2 top sl3 q cap3 bud) :
    (h < w.heap.size ∧ w.cell? ⟨h, 0, none⟩ = some (.slice sl n cap) ∧ w.cell? ⟨h, 1, none⟩ = some (.slice sl2 m cap2)) ∧ (h + 1 < w.heap.size ∧ w.cell? ⟨h + 1, 0, none⟩ = some (.int .i64 top)) ∧ (h + 2 < w.heap.size ∧ w.cell? ⟨h + 2, 0, none⟩ = some (.slice sl3 q cap3)) ∧ (h + 3 < w.heap.size ∧ w.cell? ⟨h + 3, 0, none⟩ = some (.int .i64 bud)) := by
  obtain ⟨b0, b1, b2, b3⟩ := H
  exact ⟨⟨(Array.getElem?_eq_some_iff.1 b0).1, by simp [World.cell?, b0], by simp [World.cell?, b0]⟩, ⟨(Array.getElem?_eq_some_iff.1 b1).1, by simp [World.cell?, b1]⟩, ⟨(Array.getElem?_eq_some_iff.1 b2).1, by simp [World.cell?, b2]⟩, ⟨(Array.getElem?_eq_some_iff.1 b3).1, by simp [World.cell?, b3]⟩⟩
theorem WayB.below {w w' : World} {h : Nat} {sl : Option Addr} {n cap : Nat} {sl2 : Option Addr} {m cap2 : Nat} {top : Int} {sl3 : Option Addr} {q cap3 : Nat} {bud : Int} (H : WayB w h sl n cap sl2 m cap2 top sl3 q cap3 bud) (hb : Below w.heap.size w w') : WayB w' h sl n cap sl2 m cap2 top sl3 q cap3 bud := by
  obtain ⟨⟨l0, -⟩, ⟨l1, -⟩, ⟨l2, -⟩, ⟨l3, -⟩⟩ := H.facts
  exact ⟨(hb.block _ l0).trans H.b0, (hb.block _ l1).trans H.b1, (hb.block _ l2).trans H.b2, (hb.block _ l3).trans H.b3⟩

/-- What is found, in its box. -/
def BoxF (w : World) (b : Nat) (v st cd : Int) (x1 x2 x3 : Value) : Prop := w.heap[b]? = some (.cells #[.int .i64 v, x1, x2, .int .i64 st, .int .i64 cd, x3] 183)
theorem BoxF.facts {w : World} {b : Nat} {v st cd : Int} {x1 x2 x3 : Value} (h : BoxF w b v st cd x1 x2 x3) : b < w.heap.size ∧ w.cell? ⟨b, 0, none⟩ = some (.int .i64 v) ∧ w.cell? ⟨b, 1, none⟩ = some x1 ∧ w.cell? ⟨b, 2, none⟩ = some x2 ∧ w.cell? ⟨b, 3, none⟩ = some (.int .i64 st) ∧ w.cell? ⟨b, 4, none⟩ = some (.int .i64 cd) ∧ w.cell? ⟨b, 5, none⟩ = some x3 ∧ w.frozen? ⟨b, 0, none⟩ = false ∧ w.frozen? ⟨b, 1, none⟩ = false ∧ w.frozen? ⟨b, 2, none⟩ = false ∧ w.frozen? ⟨b, 3, none⟩ = false ∧ w.frozen? ⟨b, 4, none⟩ = false ∧ w.frozen? ⟨b, 5, none⟩ = false := by
  unfold BoxF at h
  exact ⟨(Array.getElem?_eq_some_iff.1 h).1, by simp [World.cell?, h], by simp [World.cell?, h], by simp [World.cell?, h], by simp [World.cell?, h], by simp [World.cell?, h], by simp [World.cell?, h], by simp [World.frozen?, h], by simp [World.frozen?, h], by simp [World.frozen?, h], by simp [World.frozen?, h], by simp [World.frozen?, h], by simp [World.frozen?, h]⟩
theorem BoxF.below {w w' : World} {b : Nat} {v st cd : Int} {x1 x2 x3 : Value} (h : BoxF w b v st cd x1 x2 x3) (hb : Below w.heap.size w w') : BoxF w' b v st cd x1 x2 x3 := (hb.block b h.facts.1).trans h
theorem set6_at {w : World} {b : Nat} {v st cd : Int} {x1 x2 x3 v1 v2 v5 : Value} {v0 v3 v4 : Int} (h : BoxF w b v st cd x1 x2 x3) : BoxF (set6 w b (.int .i64 v0) v1 v2 (.int .i64 v3) (.int .i64 v4) v5) b v0 v3 v4 v1 v2 v5 :=
  heap_setCell_same _ b 5 _ 183 v5 (heap_setCell_same _ b 4 _ 183 _ (heap_setCell_same _ b 3 _ 183 _ (heap_setCell_same _ b 2 _ 183 v2 (heap_setCell_same _ b 1 _ 183 v1 (heap_setCell_same w b 0 _ 183 _ h)))))
theorem SoV.only7 {B : Nat} {R : Res} {vt vl : Value} {ls : List LCl} {W W' : World} {b : Nat} {us : Array Value} (h : SoV B R vt vl ls W) (ho : Only b W W') (hx : W.heap[b]? = some (.cells us 183)) : SoV B R vt vl ls W' :=
  ⟨own_only h.tr ho hx (by decide), owc_only h.ol ho hx (by decide) (by decide), h.eq, h.ap⟩

/-- What the solver's way has found. -/
def FoundQ (B : Nat) (R : Res) (PC : List Value) (k : Nat) (s1 : Option Addr) (n1 c1 : Nat) (s2 : Option Addr) (n2 c2 : Nat) (s3 : Option Addr) (n3 c3 : Nat) (W : World) : Prop :=
  ∃ ls, SoV B R (.slice s1 n1 c1) (.slice s2 n2 c2) ls W ∧ (R.1 = 1 → W.ownsRow B 131 2 (.slice s3 n3 c3) k PC) ∧ (R.1 ≠ 1 → s3 = none ∧ n3 = 0 ∧ c3 = 0)

set_option maxRecDepth 100000 in
set_option maxHeartbeats 2000000 in
theorem byc_any (h : Nat) (sl : Option Addr) (n cap : Nat) (sl2 : Option Addr) (m cap2 : Nat) (top : Int) (sl3 : Option Addr) (q cap3 : Nat) (bud : Int) (V : Int) (A : List (List Int)) (PC : List Value) (k : Nat) (R : Res × Int) (w : World)
    (H : WayB w h sl n cap sl2 m cap2 top sl3 q cap3 bud)
    (E1 : ∀ W, Below w.heap.size w W → Calls Tryz.prog 140 #[.agg #[.slice sl n cap, .slice sl2 m cap2], .int .i64 top, .slice sl3 q cap3] W fun e w' => ∃ v cs, e = .returned (.agg #[.int .i64 V, v]) ∧ OwC w' W.heap.size v cs ∧ bareC cs = A ∧ Below W.heap.size W w')
    (E2 : ∀ W v cs, Below w.heap.size w W → OwC W w.heap.size v cs → bareC cs = A → Calls Tryz.prog 139 #[.agg #[.int .i64 V, v], .int .i64 bud] W (SPost W R))
    (E3 : ∀ W v, Below w.heap.size w W → W.ownsRow w.heap.size 2 1 v R.1.2.1.length (valsZ R.1.2.1) → R.1.1 = 1 → Calls Tryz.prog 141 #[.agg #[.slice sl n cap, .slice sl2 m cap2], .int .i64 top, .slice sl3 q cap3, v] W fun e w' => ∃ v, e = .returned v ∧ w'.ownsRow W.heap.size 131 2 v k PC ∧ Below W.heap.size W w') :
    Calls Tryz.prog 138 #[.pointer (some ⟨h, 0, none⟩), .pointer (some ⟨h + 1, 0, none⟩), .pointer (some ⟨h + 2, 0, none⟩), .pointer (some ⟨h + 3, 0, none⟩)] w fun e w' => ∃ s1 n1 c1 s2 n2 c2 s3 n3 c3, e = .returned (.iface 183 (SVK R.1.1 (.slice s1 n1 c1) (.slice s2 n2 c2) R.1.2.2.2 R.2 (.slice s3 n3 c3))) ∧ FoundQ w.heap.size R.1 PC k s1 n1 c1 s2 n2 c2 s3 n3 c3 w' ∧ Below w.heap.size w w' := by
  have HF := Lib.hid (fun W (hW : Below w.heap.size w W) => (H.below hW).facts)
  have C1 := Lib.hid E1
  have C2 := Lib.hid E2
  have C3 := Lib.hid E3
  obtain ⟨⟨l0, d0, d1⟩, ⟨l1, d2⟩, ⟨l2, d3⟩, ⟨l3, d4⟩⟩ := H.facts
  clear E1 E2 E3 H
  go_enter Tryz.func138, Tryz.ntmps138
  go_wp2_with fail
  refine wp_region_held_drew (S := fun W => (h < W.heap.size ∧ W.cell? ⟨h, 0, none⟩ = some (.slice sl n cap) ∧ W.cell? ⟨h, 1, none⟩ = some (.slice sl2 m cap2)) ∧ (h + 1 < W.heap.size ∧ W.cell? ⟨h + 1, 0, none⟩ = some (.int .i64 top)) ∧ (h + 2 < W.heap.size ∧ W.cell? ⟨h + 2, 0, none⟩ = some (.slice sl3 q cap3)) ∧ (h + 3 < W.heap.size ∧ W.cell? ⟨h + 3, 0, none⟩ = some (.int .i64 bud))) (by kernel_rfl) ?_ (fun hHeld => ?_)
  · exact HF.out _ (below_drew' w)
  have BX : Hid (Below w.heap.size w w.drew) := below_drew' w
  clear l0 d0 d1 l1 d2 l2 d3 l3 d4
  generalize w.drew = wd at *
  refine wpAnyH_take (i := 0) (v := ?_) rfl (by kernel_rfl) (by kernel_rfl) (by kernel_rfl) (fun _ _ _ h => h) (Or.inl ⟨by rfl, ?_⟩) ‹_› ?_
  rotate_left
  · first | (intro w hSw; (try dsimp only at hSw); go_simp; done) | (intro w hSw; (try dsimp only at hSw); go_simp; with_reducible rfl)
  try simp only [Act.put, List.setIfInBounds_toArray, List.set_cons_zero, List.set_cons_succ, List.getElem_toArray, List.getElem_cons_zero]
  refine wpAnyH_take (i := 1) (v := ?_) rfl (by kernel_rfl) (by kernel_rfl) (by kernel_rfl) (fun _ _ _ h => h) (Or.inl ⟨by rfl, ?_⟩) ‹_› ?_
  rotate_left
  · first | (intro w hSw; (try dsimp only at hSw); go_simp; done) | (intro w hSw; (try dsimp only at hSw); go_simp; with_reducible rfl)
  try simp only [Act.put, List.setIfInBounds_toArray, List.set_cons_zero, List.set_cons_succ, List.getElem_toArray, List.getElem_cons_succ, List.getElem_cons_zero]
  refine wpAnyH_take (i := 2) (v := ?_) rfl (by kernel_rfl) (by kernel_rfl) (by kernel_rfl) (fun _ _ _ h => h) (Or.inl ⟨by rfl, ?_⟩) ‹_› ?_
  rotate_left
  · first | (intro w hSw; (try dsimp only at hSw); go_simp; done) | (intro w hSw; (try dsimp only at hSw); go_simp; with_reducible rfl)
  try simp only [Act.put, List.setIfInBounds_toArray, List.set_cons_zero, List.set_cons_succ, List.getElem_toArray, List.getElem_cons_succ, List.getElem_cons_zero]
  refine wpAnyH_take (i := 4) (v := ?_) rfl (by kernel_rfl) (by kernel_rfl) (by kernel_rfl) (fun _ _ _ h => h) (Or.inl ⟨by rfl, ?_⟩) ‹_› ?_
  rotate_left
  · first | (intro w hSw; (try dsimp only at hSw); go_simp; done) | (intro w hSw; (try dsimp only at hSw); go_simp; with_reducible rfl)
  try simp only [Act.put, List.setIfInBounds_toArray, List.set_cons_zero, List.set_cons_succ, List.getElem_toArray, List.getElem_cons_succ, List.getElem_cons_zero]
  refine wpAnyH_ready (rs := [3, 7]) (by kernel_rfl) (by simp) ?_
  refine AllReadyH.cons rfl (fun K hK => ?_) (AllReadyH.cons rfl (fun K hK => ?_) AllReadyH.nil)
  · go_simp
    go_wp2_with (go_at_call 140; refine (C1.out _ BX.out).mono ?_; rintro e w1 ⟨v1, cs, rfl, o1, e1, b1⟩)
    have BY : Hid (Below w.heap.size w w1) := bT BX.out b1
    have O1 : Hid (OwC w1 w.heap.size v1 cs ∧ bareC cs = A) := ⟨o1.mono BX.out.size, e1⟩
    clear o1 e1 b1
    refine hK.out _ _ ?_ (fun hHeld => ?_)
    · exact HF.out _ BY.out
    clear hK K
    clear BX
    have BX := BY
    clear BY
    refine wpAnyH_ready (rs := [5, 7]) (by kernel_rfl) (by simp) ?_
    refine AllReadyH.cons rfl (fun K hK => ?_) (AllReadyH.cons rfl (fun K hK => ?_) AllReadyH.nil)
    · go_simp
      go_wp2_with (go_at_call 139; refine (C2.out _ v1 cs BX.out O1.out.1 O1.out.2).mono ?_; rintro e w2 ⟨vt, vl, ls, rfl, so, b2⟩)
      have BY : Hid (Below w.heap.size w w2) := bT BX.out b2
      have SO : Hid (SoV w.heap.size R.1 vt vl ls w2) := ⟨own_mono so.tr BX.out.size, so.ol.mono BX.out.size, so.eq, so.ap⟩
      obtain ⟨s1, c1, rfl⟩ := own_v so.tr
      obtain ⟨s2, c2, rfl⟩ := so.ol.v
      clear so b2 O1
      refine hK.out _ _ ?_ (fun hHeld => ?_)
      · exact HF.out _ BY.out
      clear hK K
      clear BX
      have BX := BY
      clear BY
      refine wpAnyH_take (i := 6) (v := ?_) rfl (by kernel_rfl) (by kernel_rfl) (by kernel_rfl) (fun _ _ _ h => h) (Or.inl ⟨by rfl, ?_⟩) ‹_› ?_
      rotate_left
      · first | (intro w hSw; (try dsimp only at hSw); go_simp; done) | (intro w hSw; (try dsimp only at hSw); go_simp; with_reducible rfl)
      try simp only [Act.put, List.setIfInBounds_toArray, List.set_cons_zero, List.set_cons_succ, List.getElem_toArray, List.getElem_cons_succ, List.getElem_cons_zero]
      refine wpAnyH_ready (rs := [7]) (by kernel_rfl) (by simp) ?_
      refine AllReadyH.cons rfl (fun K hK => ?_) AllReadyH.nil
      have BY : Hid (Below w.heap.size w (w2.alloc (.cells #[.int .i64 0, .slice none 0 0, .slice none 0 0, .int .i64 0, .int .i64 0, .slice none 0 0] 183))) := bT BX.out (bA0 _ _)
      have XA : Hid (BoxF (w2.alloc (.cells #[.int .i64 0, .slice none 0 0, .slice none 0 0, .int .i64 0, .int .i64 0, .slice none 0 0] 183)) w2.heap.size 0 0 0 (.slice none 0 0) (.slice none 0 0) (.slice none 0 0)) := al_new _ _ _ rfl
      have NA : Hid (w.heap.size ≤ w2.heap.size) := BX.out.size
      have S2 : Hid (SoV w.heap.size R.1 _ _ ls (w2.alloc (.cells #[.int .i64 0, .slice none 0 0, .slice none 0 0, .int .i64 0, .int .i64 0, .slice none 0 0] 183))) := SO.out.below (bA0 _ _)
      clear SO
      have SO := S2
      clear S2
      go_simp
      refine hK.out _ _ ?_ (fun hHeld => ?_)
      · exact HF.out _ BY.out
      clear hK K
      clear BX
      have BX := BY
      clear BY
      generalize w2.alloc (.cells #[.int .i64 0, .slice none 0 0, .slice none 0 0, .int .i64 0, .int .i64 0, .slice none 0 0] 183) = wa at *
      generalize w2.heap.size = p at *
      refine wpAnyH_ready (rs := [8]) (by kernel_rfl) (by simp) ?_
      refine AllReadyH.cons rfl (fun K hK => ?_) AllReadyH.nil
      have OS : Only p wa (set6 wa p (.int .i64 R.1.1) (.slice s1 R.1.2.1.length c1) (.slice s2 ls.length c2) (.int .i64 R.1.2.2.2) (.int .i64 R.2) (.slice none 0 0)) := set6_only wa p _ _ _ _ _ _
      have BY : Hid (Below w.heap.size w (set6 wa p (.int .i64 R.1.1) (.slice s1 R.1.2.1.length c1) (.slice s2 ls.length c2) (.int .i64 R.1.2.2.2) (.int .i64 R.2) (.slice none 0 0))) := set6_below BX.out NA.out _ _ _ _ _ _
      have S3 : Hid (SoV w.heap.size R.1 _ _ ls (set6 wa p (.int .i64 R.1.1) (.slice s1 R.1.2.1.length c1) (.slice s2 ls.length c2) (.int .i64 R.1.2.2.2) (.int .i64 R.2) (.slice none 0 0))) := SoV.only7 SO.out OS XA.out
      have YS : Hid (BoxF (set6 wa p (.int .i64 R.1.1) (.slice s1 R.1.2.1.length c1) (.slice s2 ls.length c2) (.int .i64 R.1.2.2.2) (.int .i64 R.2) (.slice none 0 0)) p R.1.1 R.1.2.2.2 R.2 (.slice s1 R.1.2.1.length c1) (.slice s2 ls.length c2) (.slice none 0 0)) := set6_at XA.out
      obtain ⟨zl, z0, z1, z2, z3, z4, z5, f0, f1, f2, f3, f4, f5⟩ := XA.out.facts
      clear OS SO
      unfold set6 at BY S3 YS
      go_simp
      refine hK.out _ _ ?_ (fun hHeld => ?_)
      · exact HF.out _ BY.out
      clear hK K
      clear zl z0 z1 z2 z3 z4 z5 f0 f1 f2 f3 f4 f5 XA BX
      generalize ((((((wa).setCell ⟨p, 0, none⟩ (.int .i64 R.1.1)).setCell ⟨p, 1, none⟩ (.slice s1 R.1.2.1.length c1)).setCell ⟨p, 2, none⟩ (.slice s2 ls.length c2)).setCell ⟨p, 3, none⟩ (.int .i64 R.1.2.2.2)).setCell ⟨p, 4, none⟩ (.int .i64 R.2)).setCell ⟨p, 5, none⟩ (.slice none 0 0) = w9 at *
      refine wpAnyH_done (by kernel_rfl) ?_ _
      obtain ⟨yl, y0, y1, y2, y3, y4, y5, g0, g1, g2, g3, g4, g5⟩ := YS.out.facts
      obtain ⟨⟨l0, d0, d1⟩, ⟨l1, d2⟩, ⟨l2, d3⟩, ⟨l3, d4⟩⟩ := HF.out w9 BY.out
      clear hHeld
      by_cases hv : R.1.1 = 1
      · have HV := Lib.hid hv
        have C4 := Lib.hid (C3.out w9 _ BY.out S3.out.tr hv)
        rw [hv] at y0
        clear hv C1 C2
        go_wp2_with fail
        refine C4.out.mono ?_
        rintro e w10 ⟨v3, rfl, o3, b3⟩
        obtain ⟨s3, c3, rfl⟩ := own_v o3
        have YT := Lib.hid (YS.out.below b3)
        obtain ⟨ul, u0, u1, u2, u3, u4, u5, e0, e1, e2, e3, e4, e5⟩ := YT.out.facts
        have OS : Only p w10 (w10.setCell ⟨p, 5, none⟩ (.slice s3 k c3)) := (Only.refl p w10).setCell 5 _
        have FI : Hid (FoundQ w.heap.size R.1 PC k s1 R.1.2.1.length c1 s2 ls.length c2 s3 k c3 (w10.setCell ⟨p, 5, none⟩ (.slice s3 k c3)) ∧ Below w.heap.size w (w10.setCell ⟨p, 5, none⟩ (.slice s3 k c3))) := ⟨⟨ls, SoV.only7 (S3.out.below b3) OS YT.out, fun _ => own_only (own_mono o3 BY.out.size) OS YT.out (by decide), fun hne => absurd HV.out hne⟩, (bT BY.out b3).setCell (p := ⟨p, 5, none⟩) NA.out _⟩
        clear o3 b3 OS YT YS S3 BY C4 C3 HF
        go_wp2
        go_ret
        exact ⟨s1, _, c1, s2, _, c2, s3, k, c3, by rw [HV.out]; rfl, FI.out⟩
      · have FI : Hid (FoundQ w.heap.size R.1 PC k s1 R.1.2.1.length c1 s2 ls.length c2 none 0 0 w9 ∧ Below w.heap.size w w9) := ⟨⟨ls, S3.out, fun hy => absurd hy hv, fun _ => ⟨rfl, rfl, rfl⟩⟩, BY.out⟩
        clear YS S3 BY C3 HF
        go_wp2
        go_ret
        exact ⟨s1, _, c1, s2, _, c2, none, 0, 0, rfl, FI.out⟩
    · have BY : Hid (Below w.heap.size w (w1.alloc (.cells #[.int .i64 0, .slice none 0 0, .slice none 0 0, .int .i64 0, .int .i64 0, .slice none 0 0] 183))) := bT BX.out (bA0 _ _)
      have XA : Hid (BoxF (w1.alloc (.cells #[.int .i64 0, .slice none 0 0, .slice none 0 0, .int .i64 0, .int .i64 0, .slice none 0 0] 183)) w1.heap.size 0 0 0 (.slice none 0 0) (.slice none 0 0) (.slice none 0 0)) := al_new _ _ _ rfl
      have NA : Hid (w.heap.size ≤ w1.heap.size) := BX.out.size
      have O2 : Hid (OwC (w1.alloc (.cells #[.int .i64 0, .slice none 0 0, .slice none 0 0, .int .i64 0, .int .i64 0, .slice none 0 0] 183)) w.heap.size v1 cs ∧ bareC cs = A) := ⟨O1.out.1.below (bA0 _ _), O1.out.2⟩
      clear O1
      have O1 := O2
      clear O2
      go_simp
      refine hK.out _ _ ?_ (fun hHeld => ?_)
      · exact HF.out _ BY.out
      clear hK K
      clear BX
      have BX := BY
      clear BY
      generalize w1.alloc (.cells #[.int .i64 0, .slice none 0 0, .slice none 0 0, .int .i64 0, .int .i64 0, .slice none 0 0] 183) = wa at *
      generalize w1.heap.size = p at *
      refine wpAnyH_ready (rs := [5]) (by kernel_rfl) (by simp) ?_
      refine AllReadyH.cons rfl (fun K hK => ?_) AllReadyH.nil
      go_simp
      go_wp2_with (go_at_call 139; refine (C2.out _ v1 cs BX.out O1.out.1 O1.out.2).mono ?_; rintro e w2 ⟨vt, vl, ls, rfl, so, b2⟩)
      have BY : Hid (Below w.heap.size w w2) := bT BX.out b2
      have SO : Hid (SoV w.heap.size R.1 vt vl ls w2) := ⟨own_mono so.tr BX.out.size, so.ol.mono BX.out.size, so.eq, so.ap⟩
      have XB := Lib.hid (XA.out.below b2)
      clear XA
      have XA := XB
      clear XB
      obtain ⟨s1, c1, rfl⟩ := own_v so.tr
      obtain ⟨s2, c2, rfl⟩ := so.ol.v
      clear so b2 O1
      refine hK.out _ _ ?_ (fun hHeld => ?_)
      · exact HF.out _ BY.out
      clear hK K
      clear BX
      have BX := BY
      clear BY
      refine wpAnyH_take (i := 6) (v := ?_) rfl (by kernel_rfl) (by kernel_rfl) (by kernel_rfl) (fun _ _ _ h => h) (Or.inl ⟨by rfl, ?_⟩) ‹_› ?_
      rotate_left
      · first | (intro w hSw; (try dsimp only at hSw); go_simp; done) | (intro w hSw; (try dsimp only at hSw); go_simp; with_reducible rfl)
      try simp only [Act.put, List.setIfInBounds_toArray, List.set_cons_zero, List.set_cons_succ, List.getElem_toArray, List.getElem_cons_succ, List.getElem_cons_zero]
      refine wpAnyH_ready (rs := [8]) (by kernel_rfl) (by simp) ?_
      refine AllReadyH.cons rfl (fun K hK => ?_) AllReadyH.nil
      have OS : Only p w2 (set6 w2 p (.int .i64 R.1.1) (.slice s1 R.1.2.1.length c1) (.slice s2 ls.length c2) (.int .i64 R.1.2.2.2) (.int .i64 R.2) (.slice none 0 0)) := set6_only w2 p _ _ _ _ _ _
      have BY : Hid (Below w.heap.size w (set6 w2 p (.int .i64 R.1.1) (.slice s1 R.1.2.1.length c1) (.slice s2 ls.length c2) (.int .i64 R.1.2.2.2) (.int .i64 R.2) (.slice none 0 0))) := set6_below BX.out NA.out _ _ _ _ _ _
      have S3 : Hid (SoV w.heap.size R.1 _ _ ls (set6 w2 p (.int .i64 R.1.1) (.slice s1 R.1.2.1.length c1) (.slice s2 ls.length c2) (.int .i64 R.1.2.2.2) (.int .i64 R.2) (.slice none 0 0))) := SoV.only7 SO.out OS XA.out
      have YS : Hid (BoxF (set6 w2 p (.int .i64 R.1.1) (.slice s1 R.1.2.1.length c1) (.slice s2 ls.length c2) (.int .i64 R.1.2.2.2) (.int .i64 R.2) (.slice none 0 0)) p R.1.1 R.1.2.2.2 R.2 (.slice s1 R.1.2.1.length c1) (.slice s2 ls.length c2) (.slice none 0 0)) := set6_at XA.out
      obtain ⟨zl, z0, z1, z2, z3, z4, z5, f0, f1, f2, f3, f4, f5⟩ := XA.out.facts
      clear OS SO
      unfold set6 at BY S3 YS
      go_simp
      refine hK.out _ _ ?_ (fun hHeld => ?_)
      · exact HF.out _ BY.out
      clear hK K
      clear zl z0 z1 z2 z3 z4 z5 f0 f1 f2 f3 f4 f5 XA BX
      generalize ((((((w2).setCell ⟨p, 0, none⟩ (.int .i64 R.1.1)).setCell ⟨p, 1, none⟩ (.slice s1 R.1.2.1.length c1)).setCell ⟨p, 2, none⟩ (.slice s2 ls.length c2)).setCell ⟨p, 3, none⟩ (.int .i64 R.1.2.2.2)).setCell ⟨p, 4, none⟩ (.int .i64 R.2)).setCell ⟨p, 5, none⟩ (.slice none 0 0) = w9 at *
      refine wpAnyH_done (by kernel_rfl) ?_ _
      obtain ⟨yl, y0, y1, y2, y3, y4, y5, g0, g1, g2, g3, g4, g5⟩ := YS.out.facts
      obtain ⟨⟨l0, d0, d1⟩, ⟨l1, d2⟩, ⟨l2, d3⟩, ⟨l3, d4⟩⟩ := HF.out w9 BY.out
      clear hHeld
      by_cases hv : R.1.1 = 1
      · have HV := Lib.hid hv
        have C4 := Lib.hid (C3.out w9 _ BY.out S3.out.tr hv)
        rw [hv] at y0
        clear hv C1 C2
        go_wp2_with fail
        refine C4.out.mono ?_
        rintro e w10 ⟨v3, rfl, o3, b3⟩
        obtain ⟨s3, c3, rfl⟩ := own_v o3
        have YT := Lib.hid (YS.out.below b3)
        obtain ⟨ul, u0, u1, u2, u3, u4, u5, e0, e1, e2, e3, e4, e5⟩ := YT.out.facts
        have OS : Only p w10 (w10.setCell ⟨p, 5, none⟩ (.slice s3 k c3)) := (Only.refl p w10).setCell 5 _
        have FI : Hid (FoundQ w.heap.size R.1 PC k s1 R.1.2.1.length c1 s2 ls.length c2 s3 k c3 (w10.setCell ⟨p, 5, none⟩ (.slice s3 k c3)) ∧ Below w.heap.size w (w10.setCell ⟨p, 5, none⟩ (.slice s3 k c3))) := ⟨⟨ls, SoV.only7 (S3.out.below b3) OS YT.out, fun _ => own_only (own_mono o3 BY.out.size) OS YT.out (by decide), fun hne => absurd HV.out hne⟩, (bT BY.out b3).setCell (p := ⟨p, 5, none⟩) NA.out _⟩
        clear o3 b3 OS YT YS S3 BY C4 C3 HF
        go_wp2
        go_ret
        exact ⟨s1, _, c1, s2, _, c2, s3, k, c3, by rw [HV.out]; rfl, FI.out⟩
      · have FI : Hid (FoundQ w.heap.size R.1 PC k s1 R.1.2.1.length c1 s2 ls.length c2 none 0 0 w9 ∧ Below w.heap.size w w9) := ⟨⟨ls, S3.out, fun hy => absurd hy hv, fun _ => ⟨rfl, rfl, rfl⟩⟩, BY.out⟩
        clear YS S3 BY C3 HF
        go_wp2
        go_ret
        exact ⟨s1, _, c1, s2, _, c2, none, 0, 0, rfl, FI.out⟩
  · have BY : Hid (Below w.heap.size w (wd.alloc (.cells #[.int .i64 0, .slice none 0 0, .slice none 0 0, .int .i64 0, .int .i64 0, .slice none 0 0] 183))) := bT BX.out (bA0 _ _)
    have XA : Hid (BoxF (wd.alloc (.cells #[.int .i64 0, .slice none 0 0, .slice none 0 0, .int .i64 0, .int .i64 0, .slice none 0 0] 183)) wd.heap.size 0 0 0 (.slice none 0 0) (.slice none 0 0) (.slice none 0 0)) := al_new _ _ _ rfl
    have NA : Hid (w.heap.size ≤ wd.heap.size) := BX.out.size
    go_simp
    refine hK.out _ _ ?_ (fun hHeld => ?_)
    · exact HF.out _ BY.out
    clear hK K
    clear BX
    have BX := BY
    clear BY
    generalize wd.alloc (.cells #[.int .i64 0, .slice none 0 0, .slice none 0 0, .int .i64 0, .int .i64 0, .slice none 0 0] 183) = wa at *
    generalize wd.heap.size = p at *
    refine wpAnyH_ready (rs := [3]) (by kernel_rfl) (by simp) ?_
    refine AllReadyH.cons rfl (fun K hK => ?_) AllReadyH.nil
    go_simp
    go_wp2_with (go_at_call 140; refine (C1.out _ BX.out).mono ?_; rintro e w1 ⟨v1, cs, rfl, o1, e1, b1⟩)
    have BY : Hid (Below w.heap.size w w1) := bT BX.out b1
    have O1 : Hid (OwC w1 w.heap.size v1 cs ∧ bareC cs = A) := ⟨o1.mono BX.out.size, e1⟩
    have XB := Lib.hid (XA.out.below b1)
    clear XA
    have XA := XB
    clear XB
    clear o1 e1 b1
    refine hK.out _ _ ?_ (fun hHeld => ?_)
    · exact HF.out _ BY.out
    clear hK K
    clear BX
    have BX := BY
    clear BY
    refine wpAnyH_ready (rs := [5]) (by kernel_rfl) (by simp) ?_
    refine AllReadyH.cons rfl (fun K hK => ?_) AllReadyH.nil
    go_simp
    go_wp2_with (go_at_call 139; refine (C2.out _ v1 cs BX.out O1.out.1 O1.out.2).mono ?_; rintro e w2 ⟨vt, vl, ls, rfl, so, b2⟩)
    have BY : Hid (Below w.heap.size w w2) := bT BX.out b2
    have SO : Hid (SoV w.heap.size R.1 vt vl ls w2) := ⟨own_mono so.tr BX.out.size, so.ol.mono BX.out.size, so.eq, so.ap⟩
    have XB := Lib.hid (XA.out.below b2)
    clear XA
    have XA := XB
    clear XB
    obtain ⟨s1, c1, rfl⟩ := own_v so.tr
    obtain ⟨s2, c2, rfl⟩ := so.ol.v
    clear so b2 O1
    refine hK.out _ _ ?_ (fun hHeld => ?_)
    · exact HF.out _ BY.out
    clear hK K
    clear BX
    have BX := BY
    clear BY
    refine wpAnyH_take (i := 6) (v := ?_) rfl (by kernel_rfl) (by kernel_rfl) (by kernel_rfl) (fun _ _ _ h => h) (Or.inl ⟨by rfl, ?_⟩) ‹_› ?_
    rotate_left
    · first | (intro w hSw; (try dsimp only at hSw); go_simp; done) | (intro w hSw; (try dsimp only at hSw); go_simp; with_reducible rfl)
    try simp only [Act.put, List.setIfInBounds_toArray, List.set_cons_zero, List.set_cons_succ, List.getElem_toArray, List.getElem_cons_succ, List.getElem_cons_zero]
    refine wpAnyH_ready (rs := [8]) (by kernel_rfl) (by simp) ?_
    refine AllReadyH.cons rfl (fun K hK => ?_) AllReadyH.nil
    have OS : Only p w2 (set6 w2 p (.int .i64 R.1.1) (.slice s1 R.1.2.1.length c1) (.slice s2 ls.length c2) (.int .i64 R.1.2.2.2) (.int .i64 R.2) (.slice none 0 0)) := set6_only w2 p _ _ _ _ _ _
    have BY : Hid (Below w.heap.size w (set6 w2 p (.int .i64 R.1.1) (.slice s1 R.1.2.1.length c1) (.slice s2 ls.length c2) (.int .i64 R.1.2.2.2) (.int .i64 R.2) (.slice none 0 0))) := set6_below BX.out NA.out _ _ _ _ _ _
    have S3 : Hid (SoV w.heap.size R.1 _ _ ls (set6 w2 p (.int .i64 R.1.1) (.slice s1 R.1.2.1.length c1) (.slice s2 ls.length c2) (.int .i64 R.1.2.2.2) (.int .i64 R.2) (.slice none 0 0))) := SoV.only7 SO.out OS XA.out
    have YS : Hid (BoxF (set6 w2 p (.int .i64 R.1.1) (.slice s1 R.1.2.1.length c1) (.slice s2 ls.length c2) (.int .i64 R.1.2.2.2) (.int .i64 R.2) (.slice none 0 0)) p R.1.1 R.1.2.2.2 R.2 (.slice s1 R.1.2.1.length c1) (.slice s2 ls.length c2) (.slice none 0 0)) := set6_at XA.out
    obtain ⟨zl, z0, z1, z2, z3, z4, z5, f0, f1, f2, f3, f4, f5⟩ := XA.out.facts
    clear OS SO
    unfold set6 at BY S3 YS
    go_simp
    refine hK.out _ _ ?_ (fun hHeld => ?_)
    · exact HF.out _ BY.out
    clear hK K
    clear zl z0 z1 z2 z3 z4 z5 f0 f1 f2 f3 f4 f5 XA BX
    generalize ((((((w2).setCell ⟨p, 0, none⟩ (.int .i64 R.1.1)).setCell ⟨p, 1, none⟩ (.slice s1 R.1.2.1.length c1)).setCell ⟨p, 2, none⟩ (.slice s2 ls.length c2)).setCell ⟨p, 3, none⟩ (.int .i64 R.1.2.2.2)).setCell ⟨p, 4, none⟩ (.int .i64 R.2)).setCell ⟨p, 5, none⟩ (.slice none 0 0) = w9 at *
    refine wpAnyH_done (by kernel_rfl) ?_ _
    obtain ⟨yl, y0, y1, y2, y3, y4, y5, g0, g1, g2, g3, g4, g5⟩ := YS.out.facts
    obtain ⟨⟨l0, d0, d1⟩, ⟨l1, d2⟩, ⟨l2, d3⟩, ⟨l3, d4⟩⟩ := HF.out w9 BY.out
    clear hHeld
    by_cases hv : R.1.1 = 1
    · have HV := Lib.hid hv
      have C4 := Lib.hid (C3.out w9 _ BY.out S3.out.tr hv)
      rw [hv] at y0
      clear hv C1 C2
      go_wp2_with fail
      refine C4.out.mono ?_
      rintro e w10 ⟨v3, rfl, o3, b3⟩
      obtain ⟨s3, c3, rfl⟩ := own_v o3
      have YT := Lib.hid (YS.out.below b3)
      obtain ⟨ul, u0, u1, u2, u3, u4, u5, e0, e1, e2, e3, e4, e5⟩ := YT.out.facts
      have OS : Only p w10 (w10.setCell ⟨p, 5, none⟩ (.slice s3 k c3)) := (Only.refl p w10).setCell 5 _
      have FI : Hid (FoundQ w.heap.size R.1 PC k s1 R.1.2.1.length c1 s2 ls.length c2 s3 k c3 (w10.setCell ⟨p, 5, none⟩ (.slice s3 k c3)) ∧ Below w.heap.size w (w10.setCell ⟨p, 5, none⟩ (.slice s3 k c3))) := ⟨⟨ls, SoV.only7 (S3.out.below b3) OS YT.out, fun _ => own_only (own_mono o3 BY.out.size) OS YT.out (by decide), fun hne => absurd HV.out hne⟩, (bT BY.out b3).setCell (p := ⟨p, 5, none⟩) NA.out _⟩
      clear o3 b3 OS YT YS S3 BY C4 C3 HF
      go_wp2
      go_ret
      exact ⟨s1, _, c1, s2, _, c2, s3, k, c3, by rw [HV.out]; rfl, FI.out⟩
    · have FI : Hid (FoundQ w.heap.size R.1 PC k s1 R.1.2.1.length c1 s2 ls.length c2 none 0 0 w9 ∧ Below w.heap.size w w9) := ⟨⟨ls, S3.out, fun hy => absurd hy hv, fun _ => ⟨rfl, rfl, rfl⟩⟩, BY.out⟩
      clear YS S3 BY C3 HF
      go_wp2
      go_ret
      exact ⟨s1, _, c1, s2, _, c2, none, 0, 0, rfl, FI.out⟩
set_option linter.unusedSimpArgs false

theorem SoV.onlyT {t : TypeId} (h1 : t ≠ 2) (h2 : t ≠ 34) {B : Nat} {R : Res} {vt vl : Value} {ls : List LCl} {W W' : World} {b : Nat} {us : Array Value} (h : SoV B R vt vl ls W) (ho : Only b W W') (hx : W.heap[b]? = some (.cells us t)) : SoV B R vt vl ls W' :=
  ⟨own_only h.tr ho hx (by first | exact h1 | exact Ne.symm h1), owc_only h.ol ho hx (by first | exact h1 | exact h2 | exact Ne.symm h1 | exact Ne.symm h2) (by first | exact h1 | exact h2 | exact Ne.symm h1 | exact Ne.symm h2), h.eq, h.ap⟩
theorem FoundQ.onlyK {B : Nat} {R : Res} {PC : List Value} {k : Nat} {s1 : Option Addr} {n1 c1 : Nat} {s2 : Option Addr} {n2 c2 : Nat} {s3 : Option Addr} {n3 c3 : Nat} {W W' : World} {b : Nat} (h : FoundQ B R PC k s1 n1 c1 s2 n2 c2 s3 n3 c3 W) (ho : Only b W W') (hx : BoxK W b) : FoundQ B R PC k s1 n1 c1 s2 n2 c2 s3 n3 c3 W' := by
  obtain ⟨ls, h1, h2, h3⟩ := h
  exact ⟨ls, SoV.onlyT (by decide) (by decide) h1 ho hx, fun e => own_only (h2 e) ho hx (by decide), h3⟩
theorem FoundQ.mono {B B' : Nat} {R : Res} {PC : List Value} {k : Nat} {s1 : Option Addr} {n1 c1 : Nat} {s2 : Option Addr} {n2 c2 : Nat} {s3 : Option Addr} {n3 c3 : Nat} {W : World} (h : FoundQ B R PC k s1 n1 c1 s2 n2 c2 s3 n3 c3 W) (hB : B' ≤ B) : FoundQ B' R PC k s1 n1 c1 s2 n2 c2 s3 n3 c3 W := by
  obtain ⟨ls, h1, h2, h3⟩ := h
  exact ⟨ls, ⟨own_mono h1.tr hB, h1.ol.mono hB, h1.eq, h1.ap⟩, fun e => own_mono (h2 e) hB, h3⟩

theorem cell_new (w : World) (v : Value) (t : TypeId) : (w.alloc (.cells #[v] t)).cell? ⟨w.heap.size, 0, none⟩ = some v := by
  have h := al_new w (.cells #[v] t) _ rfl
  unfold World.cell?
  rw [h]
  rfl

/-- What an answer is: too long, not right, or what the solver's way has found. -/
def AskPost (b2 b1 : Prop) (R : Res) (PC : List Value) (k : Nat) (w : World) (e : Ending) (w' : World) : Prop :=
  Below w.heap.size w w' ∧ ((b2 ∧ e = .returned (.agg #[.int .i64 0, .int .i64 0, .slice none 0 0, .slice none 0 0, .int .i64 0, .int .i64 2])) ∨ (¬ b2 ∧ b1 ∧ e = .returned (.agg #[.int .i64 0, .int .i64 0, .slice none 0 0, .slice none 0 0, .int .i64 0, .int .i64 1])) ∨
    (¬ b2 ∧ ¬ b1 ∧ ∃ s1 n1 c1 s2 n2 c2 s3 n3 c3, e = .returned (.agg #[.int .i64 R.1, .int .i64 2, .slice s3 n3 c3, .slice s2 n2 c2, .int .i64 R.2.2.2, .int .i64 0]) ∧ FoundQ w.heap.size R PC k s1 n1 c1 s2 n2 c2 s3 n3 c3 w'))

set_option maxRecDepth 100000 in
set_option maxHeartbeats 2000000 in
theorem iaa_any (sl : Option Addr) (n cap : Nat) (sl2 : Option Addr) (m cap2 : Nat) (top : Int) (sl3 : Option Addr) (q cap3 : Nat) (bud : Int) (P : Prop) (R : Res × Int) (PC : List Value) (k : Nat) (w : World) (hq : q ≤ maxLen)
    (E1 : ∀ W, Below w.heap.size w W → Calls Tryz.prog 65 #[.agg #[.slice sl n cap, .slice sl2 m cap2], .slice sl3 q cap3] W fun e w' => e = .returned (.bool (B P)) ∧ Below W.heap.size W w')
    (E2 : ¬ 400 < q → P → BudR bud → ∀ W h, Below w.heap.size w W → WayB W h sl n cap sl2 m cap2 top sl3 q cap3 bud → Calls Tryz.prog 138 #[.pointer (some ⟨h, 0, none⟩), .pointer (some ⟨h + 1, 0, none⟩), .pointer (some ⟨h + 2, 0, none⟩), .pointer (some ⟨h + 3, 0, none⟩)] W fun e w' => ∃ s1 n1 c1 s2 n2 c2 s3 n3 c3, e = .returned (.iface 183 (SVK R.1.1 (.slice s1 n1 c1) (.slice s2 n2 c2) R.1.2.2.2 R.2 (.slice s3 n3 c3))) ∧ FoundQ W.heap.size R.1 PC k s1 n1 c1 s2 n2 c2 s3 n3 c3 w' ∧ Below W.heap.size W w') :
    Calls Tryz.prog 21 #[.agg #[.slice sl n cap, .slice sl2 m cap2], .int .i64 top, .slice sl3 q cap3, .int .i64 bud] w (AskPost (400 < q) (¬ (P ∧ BudR bud)) R.1 PC k w) := by
  unfold maxLen at hq
  have TN := new_at w (.cells #[.slice sl n cap, .slice sl2 m cap2] 26)
  have B1 : Hid (Below w.heap.size w ((w.alloc (.cells #[.slice sl n cap, .slice sl2 m cap2] 26)).alloc (.cells #[.int .i64 0, .int .i64 0, .slice none 0 0, .slice none 0 0, .int .i64 0, .int .i64 0] 49))) := bA (bA0 _ _) _
  have X1 : Hid (BoxK ((w.alloc (.cells #[.slice sl n cap, .slice sl2 m cap2] 26)).alloc (.cells #[.int .i64 0, .int .i64 0, .slice none 0 0, .slice none 0 0, .int .i64 0, .int .i64 0] 49)) (w.heap.size + 1)) := by
    have := BoxK.new (w.alloc (.cells #[.slice sl n cap, .slice sl2 m cap2] 26))
    rwa [show (w.alloc (.cells #[.slice sl n cap, .slice sl2 m cap2] 26)).heap.size = w.heap.size + 1 by simp] at this
  have T1 : Hid (((w.alloc (.cells #[.slice sl n cap, .slice sl2 m cap2] 26)).alloc (.cells #[.int .i64 0, .int .i64 0, .slice none 0 0, .slice none 0 0, .int .i64 0, .int .i64 0] 49)).heap[w.heap.size]? = some (.cells #[.slice sl n cap, .slice sl2 m cap2] 26)) := (al_old _ _ _ (by simp)).trans (al_new _ _ _ rfl)
  clear TN
  have C1 := Lib.hid E1
  have C2 := Lib.hid E2
  clear E1 E2
  by_cases h4 : 400 < q
  · have h4' : (400 : Int) < (q : Int) := by omega
    have H4 := Lib.hid h4
    go_enter Tryz.func21, Tryz.ntmps21
    go_wp2
    exact bodyPost_ret (v := .agg #[.int .i64 0, .int .i64 0, .slice none 0 0, .slice none 0 0, .int .i64 0, .int .i64 2]) (by simp [results, Tryz.results21, go_sem]) rfl ⟨bA (bA0 _ _) _, .inl ⟨H4.out, rfl⟩⟩
  · have h4' : ¬ (400 : Int) < (q : Int) := by omega
    have H4 := Lib.hid h4
    have TF : Hid (∀ W, Below ((w.alloc (.cells #[.slice sl n cap, .slice sl2 m cap2] 26)).alloc (.cells #[.int .i64 0, .int .i64 0, .slice none 0 0, .slice none 0 0, .int .i64 0, .int .i64 0] 49)).heap.size ((w.alloc (.cells #[.slice sl n cap, .slice sl2 m cap2] 26)).alloc (.cells #[.int .i64 0, .int .i64 0, .slice none 0 0, .slice none 0 0, .int .i64 0, .int .i64 0] 49)) W → w.heap.size < W.heap.size ∧ W.cell? ⟨w.heap.size, 0, none⟩ = some (.slice sl n cap) ∧ W.cell? ⟨w.heap.size, 1, none⟩ = some (.slice sl2 m cap2)) := fun W hW => by
      have h := (hW.block w.heap.size (by simp <;> omega)).trans T1.out
      exact ⟨(Array.getElem?_eq_some_iff.1 h).1, by simp [World.cell?, h], by simp [World.cell?, h]⟩
    clear T1
    by_cases hP : P
    · rw [B_yes hP] at C1
      by_cases hB : BudR bud
      · have C3 := Lib.hid (fun W => by have := bud_any bud W; rw [B_yes hB] at this; exact this)
        have C4 := Lib.hid (C2.out h4 hP hB)
        have OK : Hid (¬ ¬ (P ∧ BudR bud)) := fun h => h ⟨hP, hB⟩
        clear C2 h4 hP hB
        generalize hX : (¬ (P ∧ BudR bud)) = bz at *
        clear hX
        go_enter Tryz.func21, Tryz.ntmps21
        go_wp2_with fail
        refine (C1.out _ B1.out).mono ?_
        rintro e w1 ⟨rfl, b1⟩
        obtain ⟨t0, t1, t2⟩ := TF.out w1 b1
        have X2 := Lib.hid (X1.out.below b1)
        have B2 := Lib.hid (bT B1.out b1)
        clear TF X1 B1 b1 C1
        go_wp2_with fail
        refine (C3.out _).mono ?_
        rintro e w2 ⟨rfl, rfl⟩
        clear C3
        go_wp2_with fail
        refine (bys_any sl n cap sl2 m cap2 top sl3 q cap3 bud _).mono ?_
        rintro e w3 ⟨rfl, wb, b3⟩
        have W3 := Lib.hid wb
        have X3 := Lib.hid (X2.out.below b3)
        have B3 := Lib.hid (bT B2.out b3)
        clear wb b3 X2 B2 t0 t1 t2
        go_wp2_with fail
        have hcell : (w3.alloc (.cells #[WayV w1.heap.size] 118)).cell? ⟨w3.heap.size, 0, none⟩ = some (WayV w1.heap.size) := cell_new w3 _ 118
        refine (fa_any w3.heap.size w1.heap.size R.1.1 R.1.2.2.2 R.2 (fun s1 n1 c1 s2 n2 c2 s3 n3 c3 B W => FoundQ B R.1 PC k s1 n1 c1 s2 n2 c2 s3 n3 c3 W) (w3.alloc (.cells #[WayV w1.heap.size] 118)) (by simp) hcell (fun W hW => C4.out W w1.heap.size (bT (bA B3.out _) hW) ((W3.out.below (bA0 _ _)).below hW))).mono ?_
        rintro e w5 ⟨s1, n1, c1, s2, n2, c2, s3, n3, c3, rfl, ⟨w4, hq4, hs4, bx4, on4⟩, b5⟩
        have B5 := Lib.hid (bT (bA B3.out _) b5)
        have X5 := Lib.hid ((X3.out.below (bA0 _ _)).below b5)
        have F5 : Hid (FoundQ w.heap.size R.1 PC k s1 n1 c1 s2 n2 c2 s3 n3 c3 w5) := (hq4.onlyK on4 bx4).mono (by have := B3.out.size; simp; omega)
        obtain ⟨x0, r0, r1, r2, r3, r4, r5, f0, f1, f2, f3, f4, f5⟩ := X5.out.facts
        have P1 := Lib.hid (set6_below (b := w.heap.size + 1) B5.out (by omega) (.int .i64 R.1.1) (.int .i64 2) (.slice s3 n3 c3) (.slice s2 n2 c2) (.int .i64 R.1.2.2.2) (.int .i64 0))
        have P2 := Lib.hid (F5.out.onlyK (set6_only w5 (w.heap.size + 1) (.int .i64 R.1.1) (.int .i64 2) (.slice s3 n3 c3) (.slice s2 n2 c2) (.int .i64 R.1.2.2.2) (.int .i64 0)) X5.out)
        unfold set6 at P1 P2
        clear hcell hq4 hs4 bx4 on4 b5 B5 X5 F5 X3 B3 W3 C4
        go_wp2
        exact bodyPost_ret (v := .agg #[.int .i64 R.1.1, .int .i64 2, .slice s3 n3 c3, .slice s2 n2 c2, .int .i64 R.1.2.2.2, .int .i64 0]) (by simp [results, Tryz.results21, go_sem, r0, r1, r2, r3, r4, r5]) rfl ⟨P1.out, .inr (.inr ⟨H4.out, OK.out, s1, n1, c1, s2, n2, c2, s3, n3, c3, rfl, P2.out⟩)⟩
      · have C3 := Lib.hid (fun W => by have := bud_any bud W; rw [B_no hB] at this; exact this)
        have NO : Hid (¬ (P ∧ BudR bud)) := fun h => hB h.2
        clear C2 h4 hP hB
        generalize hX : (¬ (P ∧ BudR bud)) = bz at *
        clear hX
        go_enter Tryz.func21, Tryz.ntmps21
        go_wp2_with fail
        refine (C1.out _ B1.out).mono ?_
        rintro e w1 ⟨rfl, b1⟩
        obtain ⟨x0, r0, r1, r2, r3, r4, r5, f0, f1, f2, f3, f4, f5⟩ := (X1.out.below b1).facts
        have P1 := Lib.hid (set6_below (b := w.heap.size + 1) (bT B1.out b1) (by omega) (.int .i64 0) (.int .i64 0) (.slice none 0 0) (.slice none 0 0) (.int .i64 0) (.int .i64 1))
        unfold set6 at P1
        clear TF X1 B1 b1 C1
        go_wp2_with fail
        refine (C3.out _).mono ?_
        rintro e w2 ⟨rfl, rfl⟩
        clear C3
        go_wp2
        exact bodyPost_ret (v := .agg #[.int .i64 0, .int .i64 0, .slice none 0 0, .slice none 0 0, .int .i64 0, .int .i64 1]) (by simp [results, Tryz.results21, go_sem, r0, r1, r2, r3, r4, r5]) rfl ⟨P1.out, .inr (.inl ⟨H4.out, NO.out, rfl⟩)⟩
    · rw [B_no hP] at C1
      have NO : Hid (¬ (P ∧ BudR bud)) := fun h => hP h.1
      clear C2 h4 hP
      generalize hX : (¬ (P ∧ BudR bud)) = bz at *
      clear hX
      go_enter Tryz.func21, Tryz.ntmps21
      go_wp2_with fail
      refine (C1.out _ B1.out).mono ?_
      rintro e w1 ⟨rfl, b1⟩
      obtain ⟨x0, r0, r1, r2, r3, r4, r5, f0, f1, f2, f3, f4, f5⟩ := (X1.out.below b1).facts
      have P1 := Lib.hid (set6_below (b := w.heap.size + 1) (bT B1.out b1) (by omega) (.int .i64 0) (.int .i64 0) (.slice none 0 0) (.slice none 0 0) (.int .i64 0) (.int .i64 1))
      unfold set6 at P1
      clear TF X1 B1 b1 C1
      go_wp2
      exact bodyPost_ret (v := .agg #[.int .i64 0, .int .i64 0, .slice none 0 0, .slice none 0 0, .int .i64 0, .int .i64 1]) (by simp [results, Tryz.results21, go_sem, r0, r1, r2, r3, r4, r5]) rfl ⟨P1.out, .inr (.inl ⟨H4.out, NO.out, rfl⟩)⟩
set_option linter.unusedSimpArgs false

/-- An answer in its box. -/
def BoxA (w : World) (b : Nat) (v hw st cd : Int) (x2 x3 : Value) : Prop := w.heap[b]? = some (.cells #[.int .i64 v, .int .i64 hw, x2, x3, .int .i64 st, .int .i64 cd] 49)
theorem BoxA.facts {w : World} {b : Nat} {v hw st cd : Int} {x2 x3 : Value} (h : BoxA w b v hw st cd x2 x3) : b < w.heap.size ∧ w.cell? ⟨b, 0, none⟩ = some (.int .i64 v) ∧ w.cell? ⟨b, 1, none⟩ = some (.int .i64 hw) ∧ w.cell? ⟨b, 2, none⟩ = some x2 ∧ w.cell? ⟨b, 3, none⟩ = some x3 ∧ w.cell? ⟨b, 4, none⟩ = some (.int .i64 st) ∧ w.cell? ⟨b, 5, none⟩ = some (.int .i64 cd) ∧ w.frozen? ⟨b, 2, none⟩ = false := by
  unfold BoxA at h
  exact ⟨(Array.getElem?_eq_some_iff.1 h).1, by simp [World.cell?, h], by simp [World.cell?, h], by simp [World.cell?, h], by simp [World.cell?, h], by simp [World.cell?, h], by simp [World.cell?, h], by simp [World.frozen?, h]⟩
theorem BoxA.below {w w' : World} {b : Nat} {v hw st cd : Int} {x2 x3 : Value} (h : BoxA w b v hw st cd x2 x3) (hb : Below w.heap.size w w') : BoxA w' b v hw st cd x2 x3 := (hb.block b h.facts.1).trans h
theorem BoxA.set2 {w : World} {b : Nat} {v hw st cd : Int} {x2 x3 : Value} (h : BoxA w b v hw st cd x2 x3) (y : Value) : BoxA (w.setCell ⟨b, 2, none⟩ y) b v hw st cd y x3 := heap_setCell_same w b 2 _ 49 y h
theorem BoxA.new (w : World) (v hw st cd : Int) (x2 x3 : Value) : BoxA (w.alloc (.cells #[.int .i64 v, .int .i64 hw, x2, x3, .int .i64 st, .int .i64 cd] 49)) w.heap.size v hw st cd x2 x3 := al_new _ _ _ rfl
theorem FoundQ.onlyA {B : Nat} {R : Res} {PC : List Value} {k : Nat} {s1 : Option Addr} {n1 c1 : Nat} {s2 : Option Addr} {n2 c2 : Nat} {s3 : Option Addr} {n3 c3 : Nat} {W W' : World} {b : Nat} {us : Array Value} (h : FoundQ B R PC k s1 n1 c1 s2 n2 c2 s3 n3 c3 W) (ho : Only b W W') (hx : W.heap[b]? = some (.cells us 49)) : FoundQ B R PC k s1 n1 c1 s2 n2 c2 s3 n3 c3 W' := by
  obtain ⟨ls, h1, h2, h3⟩ := h
  exact ⟨ls, SoV.onlyT (by decide) (by decide) h1 ho hx, fun e => own_only (h2 e) ho hx (by decide), h3⟩

set_option maxRecDepth 100000 in
set_option maxHeartbeats 2000000 in
theorem saa_any (sl : Option Addr) (n cap : Nat) (sl2 : Option Addr) (m cap2 : Nat) (top : Int) (sl3 : Option Addr) (q cap3 : Nat) (bud : Int) (P : Prop) (V : Int) (A : List (List Int)) (R : Res × Int) (PC : List Value) (k : Nat) (w : World) (hq : q ≤ maxLen)
    (E1 : ∀ W, Below w.heap.size w W → Calls Tryz.prog 56 #[.agg #[.slice sl n cap, .slice sl2 m cap2], .slice sl3 q cap3] W fun e w' => e = .returned (.bool (B P)) ∧ Below W.heap.size W w')
    (E2 : ∀ W, Below w.heap.size w W → Calls Tryz.prog 72 #[.agg #[.slice sl n cap, .slice sl2 m cap2], .int .i64 top, .slice sl3 q cap3] W fun e w' => ∃ v cs, e = .returned (.agg #[.int .i64 V, v]) ∧ OwC w' W.heap.size v cs ∧ bareC cs = A ∧ Below W.heap.size W w')
    (E3 : ∀ W v cs, Below w.heap.size w W → OwC W w.heap.size v cs → bareC cs = A → Calls Tryz.prog 71 #[.agg #[.int .i64 V, v], .int .i64 bud] W (SPost W R))
    (E4 : ∀ W v, Below w.heap.size w W → W.ownsRow w.heap.size 2 1 v R.1.2.1.length (valsZ R.1.2.1) → R.1.1 = 1 → Calls Tryz.prog 73 #[.agg #[.slice sl n cap, .slice sl2 m cap2], .int .i64 top, .slice sl3 q cap3, v] W fun e w' => ∃ v, e = .returned v ∧ w'.ownsRow W.heap.size 131 2 v k PC ∧ Below W.heap.size W w') :
    Calls Tryz.prog 18 #[.agg #[.slice sl n cap, .slice sl2 m cap2], .int .i64 top, .slice sl3 q cap3, .int .i64 bud] w (AskPost (400 < q) (¬ (P ∧ BudR bud)) R.1 PC k w) := by
  unfold maxLen at hq
  have B1 : Hid (Below w.heap.size w ((w.alloc (.cells #[.slice sl n cap, .slice sl2 m cap2] 26)).alloc (.cells #[.int .i64 0, .int .i64 0, .slice none 0 0, .slice none 0 0, .int .i64 0, .int .i64 0] 49))) := bA (bA0 _ _) _
  have X1 : Hid (BoxK ((w.alloc (.cells #[.slice sl n cap, .slice sl2 m cap2] 26)).alloc (.cells #[.int .i64 0, .int .i64 0, .slice none 0 0, .slice none 0 0, .int .i64 0, .int .i64 0] 49)) (w.heap.size + 1)) := by
    have := BoxK.new (w.alloc (.cells #[.slice sl n cap, .slice sl2 m cap2] 26))
    rwa [show (w.alloc (.cells #[.slice sl n cap, .slice sl2 m cap2] 26)).heap.size = w.heap.size + 1 by simp] at this
  have T1 : Hid (((w.alloc (.cells #[.slice sl n cap, .slice sl2 m cap2] 26)).alloc (.cells #[.int .i64 0, .int .i64 0, .slice none 0 0, .slice none 0 0, .int .i64 0, .int .i64 0] 49)).heap[w.heap.size]? = some (.cells #[.slice sl n cap, .slice sl2 m cap2] 26)) := (al_old _ _ _ (by simp)).trans (al_new _ _ _ rfl)
  have C1 := Lib.hid E1
  have C2 := Lib.hid E2
  have C5 := Lib.hid E3
  have C6 := Lib.hid E4
  clear E1 E2 E3 E4
  by_cases h4 : 400 < q
  · have h4' : (400 : Int) < (q : Int) := by omega
    have H4 := Lib.hid h4
    go_enter Tryz.func18, Tryz.ntmps18
    go_wp2
    exact bodyPost_ret (v := .agg #[.int .i64 0, .int .i64 0, .slice none 0 0, .slice none 0 0, .int .i64 0, .int .i64 2]) (by simp [results, Tryz.results18, go_sem]) rfl ⟨bA (bA0 _ _) _, .inl ⟨H4.out, rfl⟩⟩
  · have h4' : ¬ (400 : Int) < (q : Int) := by omega
    have H4 := Lib.hid h4
    have TF : Hid (∀ W, Below ((w.alloc (.cells #[.slice sl n cap, .slice sl2 m cap2] 26)).alloc (.cells #[.int .i64 0, .int .i64 0, .slice none 0 0, .slice none 0 0, .int .i64 0, .int .i64 0] 49)).heap.size ((w.alloc (.cells #[.slice sl n cap, .slice sl2 m cap2] 26)).alloc (.cells #[.int .i64 0, .int .i64 0, .slice none 0 0, .slice none 0 0, .int .i64 0, .int .i64 0] 49)) W → w.heap.size < W.heap.size ∧ W.cell? ⟨w.heap.size, 0, none⟩ = some (.slice sl n cap) ∧ W.cell? ⟨w.heap.size, 1, none⟩ = some (.slice sl2 m cap2)) := fun W hW => by
      have h := (hW.block w.heap.size (by simp <;> omega)).trans T1.out
      exact ⟨(Array.getElem?_eq_some_iff.1 h).1, by simp [World.cell?, h], by simp [World.cell?, h]⟩
    clear T1
    by_cases hP : P
    · rw [B_yes hP] at C1
      by_cases hB : BudR bud
      · have C3 := Lib.hid (fun W => by have := sbd_any bud W; rw [B_yes hB] at this; exact this)
        have OK : Hid (¬ ¬ (P ∧ BudR bud)) := fun h => h ⟨hP, hB⟩
        clear h4 hP hB
        generalize hX : (¬ (P ∧ BudR bud)) = bz at *
        clear hX
        go_enter Tryz.func18, Tryz.ntmps18
        go_wp2_with fail
        refine (C1.out _ B1.out).mono ?_
        rintro e w1 ⟨rfl, b1⟩
        obtain ⟨t0, t1, t2⟩ := TF.out w1 b1
        have X2 := Lib.hid (X1.out.below b1)
        have B2 := Lib.hid (bT B1.out b1)
        have D1 := Lib.hid b1
        clear X1 B1 b1 C1
        go_wp2_with fail
        refine (C3.out _).mono ?_
        rintro e w2 ⟨rfl, rfl⟩
        clear C3
        go_wp2_with fail
        refine (C2.out _ B2.out).mono ?_
        rintro e w3 ⟨v3, cs, rfl, o3, e3, b3⟩
        have X3 := Lib.hid (X2.out.below b3)
        have B3 := Lib.hid (bT B2.out b3)
        have D3 := Lib.hid (bT D1.out b3)
        have C7 := Lib.hid (C5.out w3 v3 cs B3.out (o3.mono B2.out.size) e3)
        clear X2 B2 D1 o3 e3 b3 C5 C2 t0 t1 t2
        go_wp2_with fail
        refine C7.out.mono ?_
        rintro e w4 ⟨vt, vl, ls, rfl, so, b4⟩
        obtain ⟨s1, c1, rfl⟩ := own_v so.tr
        obtain ⟨s2, c2, rfl⟩ := so.ol.v
        have X4 := Lib.hid (X3.out.below b4)
        have B4 := Lib.hid (bT B3.out b4)
        have D4 := Lib.hid (bT D3.out b4)
        have S4 : Hid (SoV w.heap.size R.1 (.slice s1 R.1.2.1.length c1) (.slice s2 ls.length c2) ls w4) := ⟨own_mono so.tr B3.out.size, so.ol.mono B3.out.size, so.eq, so.ap⟩
        clear X3 B3 D3 C7 so b4
        have X5 : Hid (BoxK ((w4.alloc (.cells #[.int .i64 R.1.1, .slice s1 R.1.2.1.length c1, .slice s2 ls.length c2, .int .i64 R.1.2.2.2, .int .i64 R.2] 107)).alloc (.cells #[.int .i64 R.1.1, .int .i64 2, .slice none 0 0, .slice s2 ls.length c2, .int .i64 R.1.2.2.2, .int .i64 0] 49)) (w.heap.size + 1)) := (X4.out.below (bA0 _ _)).below (bA0 _ _)
        have B5 : Hid (Below w.heap.size w ((w4.alloc (.cells #[.int .i64 R.1.1, .slice s1 R.1.2.1.length c1, .slice s2 ls.length c2, .int .i64 R.1.2.2.2, .int .i64 R.2] 107)).alloc (.cells #[.int .i64 R.1.1, .int .i64 2, .slice none 0 0, .slice s2 ls.length c2, .int .i64 R.1.2.2.2, .int .i64 0] 49))) := bA (bA B4.out _) _
        have S5 : Hid (SoV w.heap.size R.1 (.slice s1 R.1.2.1.length c1) (.slice s2 ls.length c2) ls ((w4.alloc (.cells #[.int .i64 R.1.1, .slice s1 R.1.2.1.length c1, .slice s2 ls.length c2, .int .i64 R.1.2.2.2, .int .i64 R.2] 107)).alloc (.cells #[.int .i64 R.1.1, .int .i64 2, .slice none 0 0, .slice s2 ls.length c2, .int .i64 R.1.2.2.2, .int .i64 0] 49))) := (S4.out.below (bA0 _ _)).below (bA0 _ _)
        have A5 : Hid (BoxA ((w4.alloc (.cells #[.int .i64 R.1.1, .slice s1 R.1.2.1.length c1, .slice s2 ls.length c2, .int .i64 R.1.2.2.2, .int .i64 R.2] 107)).alloc (.cells #[.int .i64 R.1.1, .int .i64 2, .slice none 0 0, .slice s2 ls.length c2, .int .i64 R.1.2.2.2, .int .i64 0] 49)) (w4.heap.size + 1) R.1.1 2 R.1.2.2.2 0 (.slice none 0 0) (.slice s2 ls.length c2)) := by
          have := BoxA.new (w4.alloc (.cells #[.int .i64 R.1.1, .slice s1 R.1.2.1.length c1, .slice s2 ls.length c2, .int .i64 R.1.2.2.2, .int .i64 R.2] 107)) R.1.1 2 R.1.2.2.2 0 (.slice none 0 0) (.slice s2 ls.length c2)
          rwa [show (w4.alloc (.cells #[.int .i64 R.1.1, .slice s1 R.1.2.1.length c1, .slice s2 ls.length c2, .int .i64 R.1.2.2.2, .int .i64 R.2] 107)).heap.size = w4.heap.size + 1 by simp] at this
        have N5 : Hid (w.heap.size + 1 < w4.heap.size) := X4.out.facts.1
        obtain ⟨t0, t1, t2⟩ := TF.out _ (bA (bA D4.out _) _ : Below _ _ ((w4.alloc (.cells #[.int .i64 R.1.1, .slice s1 R.1.2.1.length c1, .slice s2 ls.length c2, .int .i64 R.1.2.2.2, .int .i64 R.2] 107)).alloc (.cells #[.int .i64 R.1.1, .int .i64 2, .slice none 0 0, .slice s2 ls.length c2, .int .i64 R.1.2.2.2, .int .i64 0] 49)))
        clear TF X4 B4 D4 S4
        by_cases hv : R.1.1 = 1
        · have HV := Lib.hid hv
          simp only [hv] at X5 B5 S5 A5 t0 t1 t2
          have C8 := Lib.hid (C6.out _ _ B5.out S5.out.tr hv)
          clear C6
          go_wp2_with fail
          refine C8.out.mono ?_
          rintro e w6 ⟨v6, rfl, o6, b6⟩
          obtain ⟨s3, c3, rfl⟩ := own_v o6
          have X6 := Lib.hid (X5.out.below b6)
          have A6 := Lib.hid (A5.out.below b6)
          obtain ⟨al, a0, a1, a2, a3, a4, a5, af⟩ := A6.out.facts
          obtain ⟨w7, hw7⟩ : ∃ w7, w6.setCell ⟨w4.heap.size + 1, 2, none⟩ (.slice s3 k c3) = w7 := ⟨_, rfl⟩
          have O7 : Only (w4.heap.size + 1) w6 w7 := by rw [← hw7]; exact (Only.refl _ _).setCell 2 _
          have A7 : BoxA w7 (w4.heap.size + 1) 1 2 R.1.2.2.2 0 (.slice s3 k c3) (.slice s2 ls.length c2) := by rw [← hw7]; exact A6.out.set2 _
          have X7 : BoxK w7 (w.heap.size + 1) := (O7.block _ X6.out.facts.1 (by have := N5.out; omega)).trans X6.out
          have B7 : Below w.heap.size w w7 := by rw [← hw7]; exact (bT B5.out b6).setCell (p := ⟨w4.heap.size + 1, 2, none⟩) (by have := N5.out; show w.heap.size ≤ w4.heap.size + 1; omega) _
          have F7 : FoundQ w.heap.size R.1 PC k s1 R.1.2.1.length c1 s2 ls.length c2 s3 k c3 w7 := FoundQ.onlyA ⟨ls, S5.out.below b6, fun _ => own_mono o6 B5.out.size, fun hne => absurd HV.out hne⟩ O7 A6.out
          obtain ⟨el, e0, e1, e2, e3, e4, e5, ef⟩ := A7.facts
          obtain ⟨x0, r0, r1, r2, r3, r4, r5, f0, f1, f2, f3, f4, f5⟩ := X7.facts
          have P1 := Lib.hid (set6_below (b := w.heap.size + 1) B7 (by omega) (.int .i64 1) (.int .i64 2) (.slice s3 k c3) (.slice s2 ls.length c2) (.int .i64 R.1.2.2.2) (.int .i64 0))
          have P2 := Lib.hid (FoundQ.onlyA F7 (set6_only w7 (w.heap.size + 1) (.int .i64 1) (.int .i64 2) (.slice s3 k c3) (.slice s2 ls.length c2) (.int .i64 R.1.2.2.2) (.int .i64 0)) X7)
          unfold set6 at P1 P2
          clear F7 B7 X7 A7 O7 X6 A6 o6 b6 C8 B5 X5 S5 A5 N5 t0 t1 t2
          go_wp2
          exact bodyPost_ret (v := .agg #[.int .i64 1, .int .i64 2, .slice s3 k c3, .slice s2 ls.length c2, .int .i64 R.1.2.2.2, .int .i64 0]) (by simp [results, Tryz.results18, go_sem, r0, r1, r2, r3, r4, r5]) rfl ⟨P1.out, .inr (.inr ⟨H4.out, OK.out, s1, _, c1, s2, _, c2, s3, k, c3, by rw [HV.out], P2.out⟩)⟩
        · obtain ⟨x0, r0, r1, r2, r3, r4, r5, f0, f1, f2, f3, f4, f5⟩ := X5.out.facts
          have F5 : Hid (FoundQ w.heap.size R.1 PC k s1 R.1.2.1.length c1 s2 ls.length c2 none 0 0 ((w4.alloc (.cells #[.int .i64 R.1.1, .slice s1 R.1.2.1.length c1, .slice s2 ls.length c2, .int .i64 R.1.2.2.2, .int .i64 R.2] 107)).alloc (.cells #[.int .i64 R.1.1, .int .i64 2, .slice none 0 0, .slice s2 ls.length c2, .int .i64 R.1.2.2.2, .int .i64 0] 49))) := ⟨ls, S5.out, fun hy => absurd hy hv, fun _ => ⟨rfl, rfl, rfl⟩⟩
          have P1 := Lib.hid (set6_below (b := w.heap.size + 1) B5.out (by omega) (.int .i64 R.1.1) (.int .i64 2) (.slice none 0 0) (.slice s2 ls.length c2) (.int .i64 R.1.2.2.2) (.int .i64 0))
          have P2 := Lib.hid (FoundQ.onlyA F5.out (set6_only ((w4.alloc (.cells #[.int .i64 R.1.1, .slice s1 R.1.2.1.length c1, .slice s2 ls.length c2, .int .i64 R.1.2.2.2, .int .i64 R.2] 107)).alloc (.cells #[.int .i64 R.1.1, .int .i64 2, .slice none 0 0, .slice s2 ls.length c2, .int .i64 R.1.2.2.2, .int .i64 0] 49)) (w.heap.size + 1) (.int .i64 R.1.1) (.int .i64 2) (.slice none 0 0) (.slice s2 ls.length c2) (.int .i64 R.1.2.2.2) (.int .i64 0)) X5.out)
          unfold set6 at P1 P2
          clear F5 B5 X5 S5 A5 N5 C6 t0 t1 t2
          go_wp2
          exact bodyPost_ret (v := .agg #[.int .i64 R.1.1, .int .i64 2, .slice none 0 0, .slice s2 ls.length c2, .int .i64 R.1.2.2.2, .int .i64 0]) (by simp [results, Tryz.results18, go_sem, r0, r1, r2, r3, r4, r5]) rfl ⟨P1.out, .inr (.inr ⟨H4.out, OK.out, s1, _, c1, s2, _, c2, none, 0, 0, rfl, P2.out⟩)⟩
      · have C3 := Lib.hid (fun W => by have := sbd_any bud W; rw [B_no hB] at this; exact this)
        have NO : Hid (¬ (P ∧ BudR bud)) := fun h => hB h.2
        clear C2 h4 hP hB
        generalize hX : (¬ (P ∧ BudR bud)) = bz at *
        clear hX
        go_enter Tryz.func18, Tryz.ntmps18
        go_wp2_with fail
        refine (C1.out _ B1.out).mono ?_
        rintro e w1 ⟨rfl, b1⟩
        obtain ⟨x0, r0, r1, r2, r3, r4, r5, f0, f1, f2, f3, f4, f5⟩ := (X1.out.below b1).facts
        have P1 := Lib.hid (set6_below (b := w.heap.size + 1) (bT B1.out b1) (by omega) (.int .i64 0) (.int .i64 0) (.slice none 0 0) (.slice none 0 0) (.int .i64 0) (.int .i64 1))
        unfold set6 at P1
        clear TF X1 B1 b1 C1 C5 C6
        go_wp2_with fail
        refine (C3.out _).mono ?_
        rintro e w2 ⟨rfl, rfl⟩
        clear C3
        go_wp2
        exact bodyPost_ret (v := .agg #[.int .i64 0, .int .i64 0, .slice none 0 0, .slice none 0 0, .int .i64 0, .int .i64 1]) (by simp [results, Tryz.results18, go_sem, r0, r1, r2, r3, r4, r5]) rfl ⟨P1.out, .inr (.inl ⟨H4.out, NO.out, rfl⟩)⟩
    · rw [B_no hP] at C1
      have NO : Hid (¬ (P ∧ BudR bud)) := fun h => hP h.1
      clear C2 h4 hP C5 C6
      generalize hX : (¬ (P ∧ BudR bud)) = bz at *
      clear hX
      go_enter Tryz.func18, Tryz.ntmps18
      go_wp2_with fail
      refine (C1.out _ B1.out).mono ?_
      rintro e w1 ⟨rfl, b1⟩
      obtain ⟨x0, r0, r1, r2, r3, r4, r5, f0, f1, f2, f3, f4, f5⟩ := (X1.out.below b1).facts
      have P1 := Lib.hid (set6_below (b := w.heap.size + 1) (bT B1.out b1) (by omega) (.int .i64 0) (.int .i64 0) (.slice none 0 0) (.slice none 0 0) (.int .i64 0) (.int .i64 1))
      unfold set6 at P1
      clear TF X1 B1 b1 C1
      go_wp2
      exact bodyPost_ret (v := .agg #[.int .i64 0, .int .i64 0, .slice none 0 0, .slice none 0 0, .int .i64 0, .int .i64 1]) (by simp [results, Tryz.results18, go_sem, r0, r1, r2, r3, r4, r5]) rfl ⟨P1.out, .inr (.inl ⟨H4.out, NO.out, rfl⟩)⟩
end Go.Proofs.YtnihhbfgbilimaaGreatDoor
