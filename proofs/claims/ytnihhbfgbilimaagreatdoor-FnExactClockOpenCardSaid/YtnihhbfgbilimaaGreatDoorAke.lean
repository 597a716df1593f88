import Derived.Test.YtnihhbfgbilimaaGreatDoorAkd
namespace Go.Proofs.YtnihhbfgbilimaaGreatDoor
open Go.RowKit
set_option linter.unusedVariables false
set_option linter.unusedSimpArgs false
def BoxA (w : World) (b : Nat) (v hw st cd : Int) (x2 x3 : Value) : Prop := w.heap[b]? = some (.cells #[.int .i64 v, .int .i64 hw, x2, x3, .int .i64 st, .int .i64 cd] 49)
theorem BoxA.facts {w : World} {b : Nat} {v hw st cd : Int} {x2 x3 : Value} (h : BoxA w b v hw st cd x2 x3) : b < w.heap.size ∧ w.cell? ⟨b, 0, none⟩ = some (.int .i64 v) ∧ w.cell? ⟨b, 1, none⟩ = some (.int .i64 hw) ∧ w.cell? ⟨b, 2, none⟩ = some x2 ∧ w.cell? ⟨b, 3, none⟩ = some x3 ∧ w.cell? ⟨b, 4, none⟩ = some (.int .i64 st) ∧ w.cell? ⟨b, 5, none⟩ = some (.int .i64 cd) ∧ w.frozen? ⟨b, 2, none⟩ = false := by
 unfold BoxA at h
 exact ⟨(Array.getElem?_eq_some_iff.1 h).1, by simp [World.cell?, h], by simp [World.cell?, h], by simp [World.cell?, h], by simp [World.cell?, h], by simp [World.cell?, h], by simp [World.cell?, h], by simp [World.frozen?, h]⟩
theorem BoxA.below {w w' : World} {b : Nat} {v hw st cd : Int} {x2 x3 : Value} (h : BoxA w b v hw st cd x2 x3) (hb : Below w.heap.size w w') : BoxA w' b v hw st cd x2 x3 := (hb.block b h.facts.1).trans h
theorem BoxA.set2 {w : World} {b : Nat} {v hw st cd : Int} {x2 x3 : Value} (h : BoxA w b v hw st cd x2 x3) (y : Value) : BoxA (w.setCell ⟨b, 2, none⟩ y) b v hw st cd y x3 := heap_setCell_same w b 2 _ 49 y h
theorem BoxA.new (w : World) (v hw st cd : Int) (x2 x3 : Value) : BoxA (w.alloc (.cells #[.int .i64 v, .int .i64 hw, x2, x3, .int .i64 st, .int .i64 cd] 49)) w.heap.size v hw st cd x2 x3 := al_new _ _ _ rfl
theorem FoundQ.onlyA {B : Nat} {R : Res} {PC : List Value} {k : Nat} {s1 : Option Addr} {n1 c1 : Nat} {s2 : Option Addr} {n2 c2 : Nat} {s3 : Option Addr} {n3 c3 : Nat} {W W' : World} {b : Nat} {us : Array Value} (h : FoundQ B R PC k s1 n1 c1 s2 n2 c2 s3 n3 c3 W) (ho : Only b W W') (hx : W.heap[b]? = some (.cells us 49)) : FoundQ B R PC k s1 n1 c1 s2 n2 c2 s3 n3 c3 W' := by
 obtain ⟨ls, h1, h2, h3⟩ := h
 exact ⟨ls, SoV.onlyT (by decide) (by decide) h1 ho hx, fun e => own_only (h2 e) ho hx (by decide), h3⟩
set_option maxRecDepth 100000 in
set_option maxHeartbeats 2000000 in
theorem saa_any (sl : Option Addr) (n cap : Nat) (sl2 : Option Addr) (m cap2 : Nat) (top : Int) (sl3 : Option Addr) (q cap3 : Nat) (bud : Int) (P : Prop) (V : Int) (A : List (List Int)) (R : Res × Int) (PC : List Value) (k : Nat) (w : World) (hq : q ≤ maxLen)
  (E1 : ∀ W, Below w.heap.size w W → Calls Tryz.prog 56 #[.agg #[.slice sl n cap, .slice sl2 m cap2], .slice sl3 q cap3] W fun e w' => e = .returned (.bool (B P)) ∧ Below W.heap.size W w')
  (E2 : ∀ W, Below w.heap.size w W → Calls Tryz.prog 72 #[.agg #[.slice sl n cap, .slice sl2 m cap2], .int .i64 top, .slice sl3 q cap3] W fun e w' => ∃ v cs, e = .returned (.agg #[.int .i64 V, v]) ∧ OwC w' W.heap.size v cs ∧ bareC cs = A ∧ Below W.heap.size W w')
  (E3 : ∀ W v cs, Below w.heap.size w W → OwC W w.heap.size v cs → bareC cs = A → Calls Tryz.prog 71 #[.agg #[.int .i64 V, v], .int .i64 bud] W (SPost W R))
  (E4 : ∀ W v, Below w.heap.size w W → W.ownsRow w.heap.size 2 1 v R.1.2.1.length (valsZ R.1.2.1) → R.1.1 = 1 → Calls Tryz.prog 73 #[.agg #[.slice sl n cap, .slice sl2 m cap2], .int .i64 top, .slice sl3 q cap3, v] W fun e w' => ∃ v, e = .returned v ∧ w'.ownsRow W.heap.size 131 2 v k PC ∧ Below W.heap.size W w') :
  Calls Tryz.prog 18 #[.agg #[.slice sl n cap, .slice sl2 m cap2], .int .i64 top, .slice sl3 q cap3, .int .i64 bud] w (AskPost (400 < q) (¬ (P ∧ BudR bud)) R.1 PC k w) := by
 unfold maxLen at hq
 have B1 : Hid (Below w.heap.size w ((w.alloc (.cells #[.slice sl n cap, .slice sl2 m cap2] 26)).alloc (.cells #[.int .i64 0, .int .i64 0, .slice none 0 0, .slice none 0 0, .int .i64 0, .int .i64 0] 49))) := bA (bA0 _ _) _
 have X1 : Hid (BoxK ((w.alloc (.cells #[.slice sl n cap, .slice sl2 m cap2] 26)).alloc (.cells #[.int .i64 0, .int .i64 0, .slice none 0 0, .slice none 0 0, .int .i64 0, .int .i64 0] 49)) (w.heap.size + 1)) := by
  have := BoxK.new (w.alloc (.cells #[.slice sl n cap, .slice sl2 m cap2] 26))
  rwa [show (w.alloc (.cells #[.slice sl n cap, .slice sl2 m cap2] 26)).heap.size = w.heap.size + 1 by simp] at this
 have T1 : Hid (((w.alloc (.cells #[.slice sl n cap, .slice sl2 m cap2] 26)).alloc (.cells #[.int .i64 0, .int .i64 0, .slice none 0 0, .slice none 0 0, .int .i64 0, .int .i64 0] 49)).heap[w.heap.size]? = some (.cells #[.slice sl n cap, .slice sl2 m cap2] 26)) := (al_old _ _ _ (by simp)).trans (al_new _ _ _ rfl)
 have C1 := Lib.hid E1
 have C2 := Lib.hid E2
 have C5 := Lib.hid E3
 have C6 := Lib.hid E4
 clear E1 E2 E3 E4
 by_cases h4 : 400 < q
 ·have h4' : (400 : Int) < (q : Int) := by omega
  have H4 := Lib.hid h4
  go_enter Tryz.func18, Tryz.ntmps18
  go_wp2
  exact bodyPost_ret (v := .agg #[.int .i64 0, .int .i64 0, .slice none 0 0, .slice none 0 0, .int .i64 0, .int .i64 2]) (by simp [results, Tryz.results18, go_sem]) rfl ⟨bA (bA0 _ _) _, .inl ⟨H4.out, rfl⟩⟩
 ·have h4' : ¬ (400 : Int) < (q : Int) := by omega
  have H4 := Lib.hid h4
  have TF : Hid (∀ W, Below ((w.alloc (.cells #[.slice sl n cap, .slice sl2 m cap2] 26)).alloc (.cells #[.int .i64 0, .int .i64 0, .slice none 0 0, .slice none 0 0, .int .i64 0, .int .i64 0] 49)).heap.size ((w.alloc (.cells #[.slice sl n cap, .slice sl2 m cap2] 26)).alloc (.cells #[.int .i64 0, .int .i64 0, .slice none 0 0, .slice none 0 0, .int .i64 0, .int .i64 0] 49)) W → w.heap.size < W.heap.size ∧ W.cell? ⟨w.heap.size, 0, none⟩ = some (.slice sl n cap) ∧ W.cell? ⟨w.heap.size, 1, none⟩ = some (.slice sl2 m cap2)) := fun W hW => by
   have h := (hW.block w.heap.size (by simp <;> omega)).trans T1.out
   exact ⟨(Array.getElem?_eq_some_iff.1 h).1, by simp [World.cell?, h], by simp [World.cell?, h]⟩
  clear T1
  by_cases hP : P
  ·rw [B_yes hP] at C1
   by_cases hB : BudR bud
   ·have C3 := Lib.hid (fun W => by have := sbd_any bud W; rw [B_yes hB] at this; exact this)
    have OK : Hid (¬ ¬ (P ∧ BudR bud)) := fun h => h ⟨hP, hB⟩
    clear h4 hP hB
    generalize hX : (¬ (P ∧ BudR bud)) = bz at *
    clear hX
    go_enter Tryz.func18, Tryz.ntmps18
    go_wp2_with fail
    refine (C1.out _ B1.out).mono ?_
    rintro e w1 ⟨rfl, b1⟩
    obtain ⟨t0, t1, t2⟩ := TF.out w1 b1
    have X2 := Lib.hid (X1.out.below b1)
    have B2 := Lib.hid (bT B1.out b1)
    have D1 := Lib.hid b1
    clear X1 B1 b1 C1
    go_wp2_with fail
    refine (C3.out _).mono ?_
    rintro e w2 ⟨rfl, rfl⟩
    clear C3
    go_wp2_with fail
    refine (C2.out _ B2.out).mono ?_
    rintro e w3 ⟨v3, cs, rfl, o3, e3, b3⟩
    have X3 := Lib.hid (X2.out.below b3)
    have B3 := Lib.hid (bT B2.out b3)
    have D3 := Lib.hid (bT D1.out b3)
    have C7 := Lib.hid (C5.out w3 v3 cs B3.out (o3.mono B2.out.size) e3)
    clear X2 B2 D1 o3 e3 b3 C5 C2 t0 t1 t2
    go_wp2_with fail
    refine C7.out.mono ?_
    rintro e w4 ⟨vt, vl, ls, rfl, so, b4⟩
    obtain ⟨s1, c1, rfl⟩ := own_v so.tr
    obtain ⟨s2, c2, rfl⟩ := so.ol.v
    have X4 := Lib.hid (X3.out.below b4)
    have B4 := Lib.hid (bT B3.out b4)
    have D4 := Lib.hid (bT D3.out b4)
    have S4 : Hid (SoV w.heap.size R.1 (.slice s1 R.1.2.1.length c1) (.slice s2 ls.length c2) ls w4) := ⟨own_mono so.tr B3.out.size, so.ol.mono B3.out.size, so.eq, so.ap⟩
    clear X3 B3 D3 C7 so b4
    have X5 : Hid (BoxK ((w4.alloc (.cells #[.int .i64 R.1.1, .slice s1 R.1.2.1.length c1, .slice s2 ls.length c2, .int .i64 R.1.2.2.2, .int .i64 R.2] 107)).alloc (.cells #[.int .i64 R.1.1, .int .i64 2, .slice none 0 0, .slice s2 ls.length c2, .int .i64 R.1.2.2.2, .int .i64 0] 49)) (w.heap.size + 1)) := (X4.out.below (bA0 _ _)).below (bA0 _ _)
    have B5 : Hid (Below w.heap.size w ((w4.alloc (.cells #[.int .i64 R.1.1, .slice s1 R.1.2.1.length c1, .slice s2 ls.length c2, .int .i64 R.1.2.2.2, .int .i64 R.2] 107)).alloc (.cells #[.int .i64 R.1.1, .int .i64 2, .slice none 0 0, .slice s2 ls.length c2, .int .i64 R.1.2.2.2, .int .i64 0] 49))) := bA (bA B4.out _) _
    have S5 : Hid (SoV w.heap.size R.1 (.slice s1 R.1.2.1.length c1) (.slice s2 ls.length c2) ls ((w4.alloc (.cells #[.int .i64 R.1.1, .slice s1 R.1.2.1.length c1, .slice s2 ls.length c2, .int .i64 R.1.2.2.2, .int .i64 R.2] 107)).alloc (.cells #[.int .i64 R.1.1, .int .i64 2, .slice none 0 0, .slice s2 ls.length c2, .int .i64 R.1.2.2.2, .int .i64 0] 49))) := (S4.out.below (bA0 _ _)).below (bA0 _ _)
    have A5 : Hid (BoxA ((w4.alloc (.cells #[.int .i64 R.1.1, .slice s1 R.1.2.1.length c1, .slice s2 ls.length c2, .int .i64 R.1.2.2.2, .int .i64 R.2] 107)).alloc (.cells #[.int .i64 R.1.1, .int .i64 2, .slice none 0 0, .slice s2 ls.length c2, .int .i64 R.1.2.2.2, .int .i64 0] 49)) (w4.heap.size + 1) R.1.1 2 R.1.2.2.2 0 (.slice none 0 0) (.slice s2 ls.length c2)) := by
     have := BoxA.new (w4.alloc (.cells #[.int .i64 R.1.1, .slice s1 R.1.2.1.length c1, .slice s2 ls.length c2, .int .i64 R.1.2.2.2, .int .i64 R.2] 107)) R.1.1 2 R.1.2.2.2 0 (.slice none 0 0) (.slice s2 ls.length c2)
     rwa [show (w4.alloc (.cells #[.int .i64 R.1.1, .slice s1 R.1.2.1.length c1, .slice s2 ls.length c2, .int .i64 R.1.2.2.2, .int .i64 R.2] 107)).heap.size = w4.heap.size + 1 by simp] at this
    have N5 : Hid (w.heap.size + 1 < w4.heap.size) := X4.out.facts.1
    obtain ⟨t0, t1, t2⟩ := TF.out _ (bA (bA D4.out _) _ : Below _ _ ((w4.alloc (.cells #[.int .i64 R.1.1, .slice s1 R.1.2.1.length c1, .slice s2 ls.length c2, .int .i64 R.1.2.2.2, .int .i64 R.2] 107)).alloc (.cells #[.int .i64 R.1.1, .int .i64 2, .slice none 0 0, .slice s2 ls.length c2, .int .i64 R.1.2.2.2, .int .i64 0] 49)))
    clear TF X4 B4 D4 S4
    by_cases hv : R.1.1 = 1
    ·have HV := Lib.hid hv
     simp only [hv] at X5 B5 S5 A5 t0 t1 t2
     have C8 := Lib.hid (C6.out _ _ B5.out S5.out.tr hv)
     clear C6
     go_wp2_with fail
     refine C8.out.mono ?_
     rintro e w6 ⟨v6, rfl, o6, b6⟩
     obtain ⟨s3, c3, rfl⟩ := own_v o6
     have X6 := Lib.hid (X5.out.below b6)
     have A6 := Lib.hid (A5.out.below b6)
     obtain ⟨al, a0, a1, a2, a3, a4, a5, af⟩ := A6.out.facts
     obtain ⟨w7, hw7⟩ : ∃ w7, w6.setCell ⟨w4.heap.size + 1, 2, none⟩ (.slice s3 k c3) = w7 := ⟨_, rfl⟩
     have O7 : Only (w4.heap.size + 1) w6 w7 := by rw [← hw7]; exact (Only.refl _ _).setCell 2 _
     have A7 : BoxA w7 (w4.heap.size + 1) 1 2 R.1.2.2.2 0 (.slice s3 k c3) (.slice s2 ls.length c2) := by rw [← hw7]; exact A6.out.set2 _
     have X7 : BoxK w7 (w.heap.size + 1) := (O7.block _ X6.out.facts.1 (by have := N5.out; omega)).trans X6.out
     have B7 : Below w.heap.size w w7 := by rw [← hw7]; exact (bT B5.out b6).setCell (p := ⟨w4.heap.size + 1, 2, none⟩) (by have := N5.out; show w.heap.size ≤ w4.heap.size + 1; omega) _
     have F7 : FoundQ w.heap.size R.1 PC k s1 R.1.2.1.length c1 s2 ls.length c2 s3 k c3 w7 := FoundQ.onlyA ⟨ls, S5.out.below b6, fun _ => own_mono o6 B5.out.size, fun hne => absurd HV.out hne⟩ O7 A6.out
     obtain ⟨el, e0, e1, e2, e3, e4, e5, ef⟩ := A7.facts
     obtain ⟨x0, r0, r1, r2, r3, r4, r5, f0, f1, f2, f3, f4, f5⟩ := X7.facts
     have P1 := Lib.hid (set6_below (b := w.heap.size + 1) B7 (by omega) (.int .i64 1) (.int .i64 2) (.slice s3 k c3) (.slice s2 ls.length c2) (.int .i64 R.1.2.2.2) (.int .i64 0))
     have P2 := Lib.hid (FoundQ.onlyA F7 (set6_only w7 (w.heap.size + 1) (.int .i64 1) (.int .i64 2) (.slice s3 k c3) (.slice s2 ls.length c2) (.int .i64 R.1.2.2.2) (.int .i64 0)) X7)
     unfold set6 at P1 P2
     clear F7 B7 X7 A7 O7 X6 A6 o6 b6 C8 B5 X5 S5 A5 N5 t0 t1 t2
     go_wp2
     exact bodyPost_ret (v := .agg #[.int .i64 1, .int .i64 2, .slice s3 k c3, .slice s2 ls.length c2, .int .i64 R.1.2.2.2, .int .i64 0]) (by simp [results, Tryz.results18, go_sem, r0, r1, r2, r3, r4, r5]) rfl ⟨P1.out, .inr (.inr ⟨H4.out, OK.out, s1, _, c1, s2, _, c2, s3, k, c3, by rw [HV.out], P2.out⟩)⟩
    ·obtain ⟨x0, r0, r1, r2, r3, r4, r5, f0, f1, f2, f3, f4, f5⟩ := X5.out.facts
     have F5 : Hid (FoundQ w.heap.size R.1 PC k s1 R.1.2.1.length c1 s2 ls.length c2 none 0 0 ((w4.alloc (.cells #[.int .i64 R.1.1, .slice s1 R.1.2.1.length c1, .slice s2 ls.length c2, .int .i64 R.1.2.2.2, .int .i64 R.2] 107)).alloc (.cells #[.int .i64 R.1.1, .int .i64 2, .slice none 0 0, .slice s2 ls.length c2, .int .i64 R.1.2.2.2, .int .i64 0] 49))) := ⟨ls, S5.out, fun hy => absurd hy hv, fun _ => ⟨rfl, rfl, rfl⟩⟩
     have P1 := Lib.hid (set6_below (b := w.heap.size + 1) B5.out (by omega) (.int .i64 R.1.1) (.int .i64 2) (.slice none 0 0) (.slice s2 ls.length c2) (.int .i64 R.1.2.2.2) (.int .i64 0))
     have P2 := Lib.hid (FoundQ.onlyA F5.out (set6_only ((w4.alloc (.cells #[.int .i64 R.1.1, .slice s1 R.1.2.1.length c1, .slice s2 ls.length c2, .int .i64 R.1.2.2.2, .int .i64 R.2] 107)).alloc (.cells #[.int .i64 R.1.1, .int .i64 2, .slice none 0 0, .slice s2 ls.length c2, .int .i64 R.1.2.2.2, .int .i64 0] 49)) (w.heap.size + 1) (.int .i64 R.1.1) (.int .i64 2) (.slice none 0 0) (.slice s2 ls.length c2) (.int .i64 R.1.2.2.2) (.int .i64 0)) X5.out)
     unfold set6 at P1 P2
     clear F5 B5 X5 S5 A5 N5 C6 t0 t1 t2
     go_wp2
     exact bodyPost_ret (v := .agg #[.int .i64 R.1.1, .int .i64 2, .slice none 0 0, .slice s2 ls.length c2, .int .i64 R.1.2.2.2, .int .i64 0]) (by simp [results, Tryz.results18, go_sem, r0, r1, r2, r3, r4, r5]) rfl ⟨P1.out, .inr (.inr ⟨H4.out, OK.out, s1, _, c1, s2, _, c2, none, 0, 0, rfl, P2.out⟩)⟩
   ·have C3 := Lib.hid (fun W => by have := sbd_any bud W; rw [B_no hB] at this; exact this)
    have NO : Hid (¬ (P ∧ BudR bud)) := fun h => hB h.2
    clear C2 h4 hP hB
    generalize hX : (¬ (P ∧ BudR bud)) = bz at *
    clear hX
    go_enter Tryz.func18, Tryz.ntmps18
    go_wp2_with fail
    refine (C1.out _ B1.out).mono ?_
    rintro e w1 ⟨rfl, b1⟩
    obtain ⟨x0, r0, r1, r2, r3, r4, r5, f0, f1, f2, f3, f4, f5⟩ := (X1.out.below b1).facts
    have P1 := Lib.hid (set6_below (b := w.heap.size + 1) (bT B1.out b1) (by omega) (.int .i64 0) (.int .i64 0) (.slice none 0 0) (.slice none 0 0) (.int .i64 0) (.int .i64 1))
    unfold set6 at P1
    clear TF X1 B1 b1 C1 C5 C6
    go_wp2_with fail
    refine (C3.out _).mono ?_
    rintro e w2 ⟨rfl, rfl⟩
    clear C3
    go_wp2
    exact bodyPost_ret (v := .agg #[.int .i64 0, .int .i64 0, .slice none 0 0, .slice none 0 0, .int .i64 0, .int .i64 1]) (by simp [results, Tryz.results18, go_sem, r0, r1, r2, r3, r4, r5]) rfl ⟨P1.out, .inr (.inl ⟨H4.out, NO.out, rfl⟩)⟩
  ·rw [B_no hP] at C1
   have NO : Hid (¬ (P ∧ BudR bud)) := fun h => hP h.1
   clear C2 h4 hP C5 C6
   generalize hX : (¬ (P ∧ BudR bud)) = bz at *
   clear hX
   go_enter Tryz.func18, Tryz.ntmps18
   go_wp2_with fail
   refine (C1.out _ B1.out).mono ?_
   rintro e w1 ⟨rfl, b1⟩
   obtain ⟨x0, r0, r1, r2, r3, r4, r5, f0, f1, f2, f3, f4, f5⟩ := (X1.out.below b1).facts
   have P1 := Lib.hid (set6_below (b := w.heap.size + 1) (bT B1.out b1) (by omega) (.int .i64 0) (.int .i64 0) (.slice none 0 0) (.slice none 0 0) (.int .i64 0) (.int .i64 1))
   unfold set6 at P1
   clear TF X1 B1 b1 C1
   go_wp2
   exact bodyPost_ret (v := .agg #[.int .i64 0, .int .i64 0, .slice none 0 0, .slice none 0 0, .int .i64 0, .int .i64 1]) (by simp [results, Tryz.results18, go_sem, r0, r1, r2, r3, r4, r5]) rfl ⟨P1.out, .inr (.inl ⟨H4.out, NO.out, rfl⟩)⟩
end Go.Proofs.YtnihhbfgbilimaaGreatDoor
