import Derived.Test.YtnihhbfgbilimaaGreatDoorAkc
namespace Go.Proofs.YtnihhbfgbilimaaGreatDoor
open Go.RowKit
set_option linter.unusedVariables false
set_option linter.unusedSimpArgs false
theorem SoV.onlyT {t : TypeId} (h1 : t ≠ 2) (h2 : t ≠ 34) {B : Nat} {R : Res} {vt vl : Value} {ls : List LCl} {W W' : World} {b : Nat} {us : Array Value} (h : SoV B R vt vl ls W) (ho : Only b W W') (hx : W.heap[b]? = some (.cells us t)) : SoV B R vt vl ls W' :=
 ⟨own_only h.tr ho hx (by first | exact h1 | exact Ne.symm h1), owc_only h.ol ho hx (by first | exact h1 | exact h2 | exact Ne.symm h1 | exact Ne.symm h2) (by first | exact h1 | exact h2 | exact Ne.symm h1 | exact Ne.symm h2), h.eq, h.ap⟩
theorem FoundQ.onlyK {B : Nat} {R : Res} {PC : List Value} {k : Nat} {s1 : Option Addr} {n1 c1 : Nat} {s2 : Option Addr} {n2 c2 : Nat} {s3 : Option Addr} {n3 c3 : Nat} {W W' : World} {b : Nat} (h : FoundQ B R PC k s1 n1 c1 s2 n2 c2 s3 n3 c3 W) (ho : Only b W W') (hx : BoxK W b) : FoundQ B R PC k s1 n1 c1 s2 n2 c2 s3 n3 c3 W' := by
 obtain ⟨ls, h1, h2, h3⟩ := h
 exact ⟨ls, SoV.onlyT (by decide) (by decide) h1 ho hx, fun e => own_only (h2 e) ho hx (by decide), h3⟩
theorem FoundQ.mono {B B' : Nat} {R : Res} {PC : List Value} {k : Nat} {s1 : Option Addr} {n1 c1 : Nat} {s2 : Option Addr} {n2 c2 : Nat} {s3 : Option Addr} {n3 c3 : Nat} {W : World} (h : FoundQ B R PC k s1 n1 c1 s2 n2 c2 s3 n3 c3 W) (hB : B' ≤ B) : FoundQ B' R PC k s1 n1 c1 s2 n2 c2 s3 n3 c3 W := by
 obtain ⟨ls, h1, h2, h3⟩ := h
 exact ⟨ls, ⟨own_mono h1.tr hB, h1.ol.mono hB, h1.eq, h1.ap⟩, fun e => own_mono (h2 e) hB, h3⟩
theorem cell_new (w : World) (v : Value) (t : TypeId) : (w.alloc (.cells #[v] t)).cell? ⟨w.heap.size, 0, none⟩ = some v := by
 have h := al_new w (.cells #[v] t) _ rfl
 unfold World.cell?
 rw [h]
 rfl
def AskPost (b2 b1 : Prop) (R : Res) (PC : List Value) (k : Nat) (w : World) (e : Ending) (w' : World) : Prop :=
 Below w.heap.size w w' ∧ ((b2 ∧ e = .returned (.agg #[.int .i64 0, .int .i64 0, .slice none 0 0, .slice none 0 0, .int .i64 0, .int .i64 2])) ∨ (¬ b2 ∧ b1 ∧ e = .returned (.agg #[.int .i64 0, .int .i64 0, .slice none 0 0, .slice none 0 0, .int .i64 0, .int .i64 1])) ∨
  (¬ b2 ∧ ¬ b1 ∧ ∃ s1 n1 c1 s2 n2 c2 s3 n3 c3, e = .returned (.agg #[.int .i64 R.1, .int .i64 2, .slice s3 n3 c3, .slice s2 n2 c2, .int .i64 R.2.2.2, .int .i64 0]) ∧ FoundQ w.heap.size R PC k s1 n1 c1 s2 n2 c2 s3 n3 c3 w'))
set_option maxRecDepth 100000 in
set_option maxHeartbeats 2000000 in
theorem iaa_any (sl : Option Addr) (n cap : Nat) (sl2 : Option Addr) (m cap2 : Nat) (top : Int) (sl3 : Option Addr) (q cap3 : Nat) (bud : Int) (P : Prop) (R : Res × Int) (PC : List Value) (k : Nat) (w : World) (hq : q ≤ maxLen)
  (E1 : ∀ W, Below w.heap.size w W → Calls Tryz.prog 65 #[.agg #[.slice sl n cap, .slice sl2 m cap2], .slice sl3 q cap3] W fun e w' => e = .returned (.bool (B P)) ∧ Below W.heap.size W w')
  (E2 : ¬ 400 < q → P → BudR bud → ∀ W h, Below w.heap.size w W → WayB W h sl n cap sl2 m cap2 top sl3 q cap3 bud → Calls Tryz.prog 138 #[.pointer (some ⟨h, 0, none⟩), .pointer (some ⟨h + 1, 0, none⟩), .pointer (some ⟨h + 2, 0, none⟩), .pointer (some ⟨h + 3, 0, none⟩)] W fun e w' => ∃ s1 n1 c1 s2 n2 c2 s3 n3 c3, e = .returned (.iface 183 (SVK R.1.1 (.slice s1 n1 c1) (.slice s2 n2 c2) R.1.2.2.2 R.2 (.slice s3 n3 c3))) ∧ FoundQ W.heap.size R.1 PC k s1 n1 c1 s2 n2 c2 s3 n3 c3 w' ∧ Below W.heap.size W w') :
  Calls Tryz.prog 21 #[.agg #[.slice sl n cap, .slice sl2 m cap2], .int .i64 top, .slice sl3 q cap3, .int .i64 bud] w (AskPost (400 < q) (¬ (P ∧ BudR bud)) R.1 PC k w) := by
 unfold maxLen at hq
 have TN := new_at w (.cells #[.slice sl n cap, .slice sl2 m cap2] 26)
 have B1 : Hid (Below w.heap.size w ((w.alloc (.cells #[.slice sl n cap, .slice sl2 m cap2] 26)).alloc (.cells #[.int .i64 0, .int .i64 0, .slice none 0 0, .slice none 0 0, .int .i64 0, .int .i64 0] 49))) := bA (bA0 _ _) _
 have X1 : Hid (BoxK ((w.alloc (.cells #[.slice sl n cap, .slice sl2 m cap2] 26)).alloc (.cells #[.int .i64 0, .int .i64 0, .slice none 0 0, .slice none 0 0, .int .i64 0, .int .i64 0] 49)) (w.heap.size + 1)) := by
  have := BoxK.new (w.alloc (.cells #[.slice sl n cap, .slice sl2 m cap2] 26))
  rwa [show (w.alloc (.cells #[.slice sl n cap, .slice sl2 m cap2] 26)).heap.size = w.heap.size + 1 by simp] at this
 have T1 : Hid (((w.alloc (.cells #[.slice sl n cap, .slice sl2 m cap2] 26)).alloc (.cells #[.int .i64 0, .int .i64 0, .slice none 0 0, .slice none 0 0, .int .i64 0, .int .i64 0] 49)).heap[w.heap.size]? = some (.cells #[.slice sl n cap, .slice sl2 m cap2] 26)) := (al_old _ _ _ (by simp)).trans (al_new _ _ _ rfl)
 clear TN
 have C1 := Lib.hid E1
 have C2 := Lib.hid E2
 clear E1 E2
 by_cases h4 : 400 < q
 ·have h4' : (400 : Int) < (q : Int) := by omega
  have H4 := Lib.hid h4
  go_enter Tryz.func21, Tryz.ntmps21
  go_wp2
  exact bodyPost_ret (v := .agg #[.int .i64 0, .int .i64 0, .slice none 0 0, .slice none 0 0, .int .i64 0, .int .i64 2]) (by simp [results, Tryz.results21, go_sem]) rfl ⟨bA (bA0 _ _) _, .inl ⟨H4.out, rfl⟩⟩
 ·have h4' : ¬ (400 : Int) < (q : Int) := by omega
  have H4 := Lib.hid h4
  have TF : Hid (∀ W, Below ((w.alloc (.cells #[.slice sl n cap, .slice sl2 m cap2] 26)).alloc (.cells #[.int .i64 0, .int .i64 0, .slice none 0 0, .slice none 0 0, .int .i64 0, .int .i64 0] 49)).heap.size ((w.alloc (.cells #[.slice sl n cap, .slice sl2 m cap2] 26)).alloc (.cells #[.int .i64 0, .int .i64 0, .slice none 0 0, .slice none 0 0, .int .i64 0, .int .i64 0] 49)) W → w.heap.size < W.heap.size ∧ W.cell? ⟨w.heap.size, 0, none⟩ = some (.slice sl n cap) ∧ W.cell? ⟨w.heap.size, 1, none⟩ = some (.slice sl2 m cap2)) := fun W hW => by
   have h := (hW.block w.heap.size (by simp <;> omega)).trans T1.out
   exact ⟨(Array.getElem?_eq_some_iff.1 h).1, by simp [World.cell?, h], by simp [World.cell?, h]⟩
  clear T1
  by_cases hP : P
  ·rw [B_yes hP] at C1
   by_cases hB : BudR bud
   ·have C3 := Lib.hid (fun W => by have := bud_any bud W; rw [B_yes hB] at this; exact this)
    have C4 := Lib.hid (C2.out h4 hP hB)
    have OK : Hid (¬ ¬ (P ∧ BudR bud)) := fun h => h ⟨hP, hB⟩
    clear C2 h4 hP hB
    generalize hX : (¬ (P ∧ BudR bud)) = bz at *
    clear hX
    go_enter Tryz.func21, Tryz.ntmps21
    go_wp2_with fail
    refine (C1.out _ B1.out).mono ?_
    rintro e w1 ⟨rfl, b1⟩
    obtain ⟨t0, t1, t2⟩ := TF.out w1 b1
    have X2 := Lib.hid (X1.out.below b1)
    have B2 := Lib.hid (bT B1.out b1)
    clear TF X1 B1 b1 C1
    go_wp2_with fail
    refine (C3.out _).mono ?_
    rintro e w2 ⟨rfl, rfl⟩
    clear C3
    go_wp2_with fail
    refine (bys_any sl n cap sl2 m cap2 top sl3 q cap3 bud _).mono ?_
    rintro e w3 ⟨rfl, wb, b3⟩
    have W3 := Lib.hid wb
    have X3 := Lib.hid (X2.out.below b3)
    have B3 := Lib.hid (bT B2.out b3)
    clear wb b3 X2 B2 t0 t1 t2
    go_wp2_with fail
    have hcell : (w3.alloc (.cells #[WayV w1.heap.size] 118)).cell? ⟨w3.heap.size, 0, none⟩ = some (WayV w1.heap.size) := cell_new w3 _ 118
    refine (fa_any w3.heap.size w1.heap.size R.1.1 R.1.2.2.2 R.2 (fun s1 n1 c1 s2 n2 c2 s3 n3 c3 B W => FoundQ B R.1 PC k s1 n1 c1 s2 n2 c2 s3 n3 c3 W) (w3.alloc (.cells #[WayV w1.heap.size] 118)) (by simp) hcell (fun W hW => C4.out W w1.heap.size (bT (bA B3.out _) hW) ((W3.out.below (bA0 _ _)).below hW))).mono ?_
    rintro e w5 ⟨s1, n1, c1, s2, n2, c2, s3, n3, c3, rfl, ⟨w4, hq4, hs4, bx4, on4⟩, b5⟩
    have B5 := Lib.hid (bT (bA B3.out _) b5)
    have X5 := Lib.hid ((X3.out.below (bA0 _ _)).below b5)
    have F5 : Hid (FoundQ w.heap.size R.1 PC k s1 n1 c1 s2 n2 c2 s3 n3 c3 w5) := (hq4.onlyK on4 bx4).mono (by have := B3.out.size; simp; omega)
    obtain ⟨x0, r0, r1, r2, r3, r4, r5, f0, f1, f2, f3, f4, f5⟩ := X5.out.facts
    have P1 := Lib.hid (set6_below (b := w.heap.size + 1) B5.out (by omega) (.int .i64 R.1.1) (.int .i64 2) (.slice s3 n3 c3) (.slice s2 n2 c2) (.int .i64 R.1.2.2.2) (.int .i64 0))
    have P2 := Lib.hid (F5.out.onlyK (set6_only w5 (w.heap.size + 1) (.int .i64 R.1.1) (.int .i64 2) (.slice s3 n3 c3) (.slice s2 n2 c2) (.int .i64 R.1.2.2.2) (.int .i64 0)) X5.out)
    unfold set6 at P1 P2
    clear hcell hq4 hs4 bx4 on4 b5 B5 X5 F5 X3 B3 W3 C4
    go_wp2
    exact bodyPost_ret (v := .agg #[.int .i64 R.1.1, .int .i64 2, .slice s3 n3 c3, .slice s2 n2 c2, .int .i64 R.1.2.2.2, .int .i64 0]) (by simp [results, Tryz.results21, go_sem, r0, r1, r2, r3, r4, r5]) rfl ⟨P1.out, .inr (.inr ⟨H4.out, OK.out, s1, n1, c1, s2, n2, c2, s3, n3, c3, rfl, P2.out⟩)⟩
   ·have C3 := Lib.hid (fun W => by have := bud_any bud W; rw [B_no hB] at this; exact this)
    have NO : Hid (¬ (P ∧ BudR bud)) := fun h => hB h.2
    clear C2 h4 hP hB
    generalize hX : (¬ (P ∧ BudR bud)) = bz at *
    clear hX
    go_enter Tryz.func21, Tryz.ntmps21
    go_wp2_with fail
    refine (C1.out _ B1.out).mono ?_
    rintro e w1 ⟨rfl, b1⟩
    obtain ⟨x0, r0, r1, r2, r3, r4, r5, f0, f1, f2, f3, f4, f5⟩ := (X1.out.below b1).facts
    have P1 := Lib.hid (set6_below (b := w.heap.size + 1) (bT B1.out b1) (by omega) (.int .i64 0) (.int .i64 0) (.slice none 0 0) (.slice none 0 0) (.int .i64 0) (.int .i64 1))
    unfold set6 at P1
    clear TF X1 B1 b1 C1
    go_wp2_with fail
    refine (C3.out _).mono ?_
    rintro e w2 ⟨rfl, rfl⟩
    clear C3
    go_wp2
    exact bodyPost_ret (v := .agg #[.int .i64 0, .int .i64 0, .slice none 0 0, .slice none 0 0, .int .i64 0, .int .i64 1]) (by simp [results, Tryz.results21, go_sem, r0, r1, r2, r3, r4, r5]) rfl ⟨P1.out, .inr (.inl ⟨H4.out, NO.out, rfl⟩)⟩
  ·rw [B_no hP] at C1
   have NO : Hid (¬ (P ∧ BudR bud)) := fun h => hP h.1
   clear C2 h4 hP
   generalize hX : (¬ (P ∧ BudR bud)) = bz at *
   clear hX
   go_enter Tryz.func21, Tryz.ntmps21
   go_wp2_with fail
   refine (C1.out _ B1.out).mono ?_
   rintro e w1 ⟨rfl, b1⟩
   obtain ⟨x0, r0, r1, r2, r3, r4, r5, f0, f1, f2, f3, f4, f5⟩ := (X1.out.below b1).facts
   have P1 := Lib.hid (set6_below (b := w.heap.size + 1) (bT B1.out b1) (by omega) (.int .i64 0) (.int .i64 0) (.slice none 0 0) (.slice none 0 0) (.int .i64 0) (.int .i64 1))
   unfold set6 at P1
   clear TF X1 B1 b1 C1
   go_wp2
   exact bodyPost_ret (v := .agg #[.int .i64 0, .int .i64 0, .slice none 0 0, .slice none 0 0, .int .i64 0, .int .i64 1]) (by simp [results, Tryz.results21, go_sem, r0, r1, r2, r3, r4, r5]) rfl ⟨P1.out, .inr (.inl ⟨H4.out, NO.out, rfl⟩)⟩
end Go.Proofs.YtnihhbfgbilimaaGreatDoor
