import Derived.Test.YtnihhbfgbilimaaGreatDoorZJa
import Derived.Test.YtnihhbfgbilimaaGreatDoorXak
import Derived.Ground.SlsfProg
import Derived.Shelf.SlSortCmp.WholeK
import Derived.Shelf.SlSortCmp.NoneTotal
import Derived.Shelf.RegionOpenPlain
import Derived.Lib.Overlaps
import Derived.Laws.Externs
import Derived.WalkMore
import Derived.Test.YtnihhbfgbilimaaGreatDoorZTw
import Derived.Test.YtnihhbfgbilimaaGreatDoorPu
import Derived.Test.YtnihhbfgbilimaaGreatDoorZWa
import Derived.Test.YtnihhbfgbilimaaGreatDoorZAk
namespace Go.Proofs.YtnihhbfgbilimaaGreatDoor
open Go.RowKit
set_option linter.unusedVariables false
set_option linter.unusedSimpArgs false
theorem ansA_any (s : Option Addr) (n c : Nat) (w : World) : Calls Tryz.prog 277 #[.agg #[.slice s n c]] w fun e w' => e = .returned (.agg #[.int .i64 1, .int .i64 1, .slice s n c, .slice none 0 0, .int .i64 0, .int .i64 0]) ∧ Below w.heap.size w w' := by
 go_enter Tryz.func277, Tryz.ntmps277
 go_wp2
 exact bodyPost_ret (v := .agg #[.int .i64 1, .int .i64 1, .slice s n c, .slice none 0 0, .int .i64 0, .int .i64 0]) (by simp [results, Tryz.results277, go_sem]) rfl ⟨rfl, bA (bA0 _ _) _⟩
abbrev WayU (h : Nat) : Value := .func (.func 148) #[] #[.pointer (some ⟨h, 0, none⟩), .pointer (some ⟨h + 1, 0, none⟩), .pointer (some ⟨h + 2, 0, none⟩), .pointer (some ⟨h + 3, 0, none⟩)]
structure WayA (w : World) (h : Nat) (sl : Option Addr) (n cap : Nat) (sl2 : Option Addr) (m cap2 : Nat) (top : Int) (sl3 : Option Addr) (q cap3 : Nat) (id : Int) : Prop where
 b0 : w.heap[h]? = some (.cells #[.slice sl n cap, .slice sl2 m cap2] 26)
 b1 : w.heap[h + 1]? = some (.cells #[.int .i64 top] 2)
 b2 : w.heap[h + 2]? = some (.cells #[.slice sl3 q cap3] 28)
 b3 : w.heap[h + 3]? = some (.cells #[.int .i64 id] 2)
theorem WayA.facts {w : World} {h : Nat} {sl : Option Addr} {n cap : Nat} {sl2 : Option Addr} {m cap2 : Nat} {top : Int} {sl3 : Option Addr} {q cap3 : Nat} {id : Int} (H : WayA w h sl n cap sl2 m cap2 top sl3 q cap3 id) :
  (h < w.heap.size ∧ w.cell? ⟨h, 0, none⟩ = some (.slice sl n cap) ∧ w.cell? ⟨h, 1, none⟩ = some (.slice sl2 m cap2)) ∧ (h + 1 < w.heap.size ∧ w.cell? ⟨h + 1, 0, none⟩ = some (.int .i64 top)) ∧ (h + 2 < w.heap.size ∧ w.cell? ⟨h + 2, 0, none⟩ = some (.slice sl3 q cap3)) ∧ (h + 3 < w.heap.size ∧ w.cell? ⟨h + 3, 0, none⟩ = some (.int .i64 id)) := by
 obtain ⟨b0, b1, b2, b3⟩ := H
 exact ⟨⟨(Array.getElem?_eq_some_iff.1 b0).1, by simp [World.cell?, b0], by simp [World.cell?, b0]⟩, ⟨(Array.getElem?_eq_some_iff.1 b1).1, by simp [World.cell?, b1]⟩, ⟨(Array.getElem?_eq_some_iff.1 b2).1, by simp [World.cell?, b2]⟩, ⟨(Array.getElem?_eq_some_iff.1 b3).1, by simp [World.cell?, b3]⟩⟩
theorem WayA.below {w w' : World} {h : Nat} {sl : Option Addr} {n cap : Nat} {sl2 : Option Addr} {m cap2 : Nat} {top : Int} {sl3 : Option Addr} {q cap3 : Nat} {id : Int} (H : WayA w h sl n cap sl2 m cap2 top sl3 q cap3 id) (hb : Below w.heap.size w w') : WayA w' h sl n cap sl2 m cap2 top sl3 q cap3 id := by
 obtain ⟨⟨l0, -⟩, ⟨l1, -⟩, ⟨l2, -⟩, ⟨l3, -⟩⟩ := H.facts
 exact ⟨(hb.block _ l0).trans H.b0, (hb.block _ l1).trans H.b1, (hb.block _ l2).trans H.b2, (hb.block _ l3).trans H.b3⟩
theorem bya_any (sl : Option Addr) (n cap : Nat) (sl2 : Option Addr) (m cap2 : Nat) (top : Int) (sl3 : Option Addr) (q cap3 : Nat) (id : Int) (w : World) :
  Calls Tryz.prog 94 #[.agg #[.slice sl n cap, .slice sl2 m cap2], .int .i64 top, .slice sl3 q cap3, .int .i64 id] w fun e w' => e = .returned (.agg #[WayU w.heap.size]) ∧ WayA w' w.heap.size sl n cap sl2 m cap2 top sl3 q cap3 id ∧ Below w.heap.size w w' := by
 go_enter Tryz.func94, Tryz.ntmps94
 go_wp2
 exact bodyPost_ret (v := .agg #[WayU w.heap.size]) (by simp [results, Tryz.results94, go_sem]) rfl ⟨rfl, ⟨by rw [al_old _ _ _ (by simp <;> omega), al_old _ _ _ (by simp <;> omega), al_old _ _ _ (by simp <;> omega), al_old _ _ _ (by simp <;> omega)]; exact al_new _ _ _ (by simp), by rw [al_old _ _ _ (by simp <;> omega), al_old _ _ _ (by simp <;> omega), al_old _ _ _ (by simp <;> omega)]; exact al_new _ _ _ (by simp), by rw [al_old _ _ _ (by simp <;> omega), al_old _ _ _ (by simp <;> omega)]; exact al_new _ _ _ (by simp), by rw [al_old _ _ _ (by simp <;> omega)]; exact al_new _ _ _ (by simp)⟩, bA (bA (bA (bA (bA0 _ _) _) _) _) _⟩
def FoundA (B : Nat) (P : List LPl) (x : Value) (W : World) : Prop := (P = [] ∧ x = .nilIface) ∨ (P ≠ [] ∧ ∃ s c, x = .iface 190 (.agg #[.slice s P.length c]) ∧ W.ownsRow B 131 2 (.slice s P.length c) P.length (enCells P))
set_option maxRecDepth 100000 in
set_option maxHeartbeats 2000000 in
theorem bac_any (h : Nat) (sl : Option Addr) (n cap : Nat) (sl2 : Option Addr) (m cap2 : Nat) (top : Int) (sl3 : Option Addr) (q cap3 : Nat) (id : Int) (P : List LPl) (w : World) (H : WayA w h sl n cap sl2 m cap2 top sl3 q cap3 id) (hP : P.length ≤ 1048577)
  (E1 : ∀ W, Below w.heap.size w W → Calls Tryz.prog 149 #[.agg #[.slice sl n cap, .slice sl2 m cap2], .int .i64 top, .slice sl3 q cap3, .int .i64 id] W fun e w' => ∃ v, e = .returned v ∧ w'.ownsRow W.heap.size 131 2 v P.length (enCells P) ∧ Below W.heap.size W w') :
  Calls Tryz.prog 148 #[.pointer (some ⟨h, 0, none⟩), .pointer (some ⟨h + 1, 0, none⟩), .pointer (some ⟨h + 2, 0, none⟩), .pointer (some ⟨h + 3, 0, none⟩)] w fun e w' => ∃ x, e = .returned x ∧ FoundA w.heap.size P x w' ∧ Below w.heap.size w w' := by
 have HF := Lib.hid (fun W (hW : Below w.heap.size w W) => (H.below hW).facts)
 have C1 := Lib.hid E1
 obtain ⟨⟨l0, d0, d1⟩, ⟨l1, d2⟩, ⟨l2, d3⟩, ⟨l3, d4⟩⟩ := H.facts
 clear E1 H
 go_enter Tryz.func148, Tryz.ntmps148
 go_wp2_with fail
 refine (C1.out _ (Below.refl _ _)).mono ?_
 rintro e w1 ⟨v1, rfl, o1, b1⟩
 obtain ⟨s1, c1, rfl⟩ := own_v o1
 by_cases hp : P = []
 ·have F := Lib.hid (show FoundA w.heap.size P .nilIface w1 ∧ Below w.heap.size w w1 from ⟨.inl ⟨hp, rfl⟩, b1⟩)
  have hl : P.length = 0 := by rw [hp]; rfl
  rw [hl]
  clear o1 b1 C1 HF
  go_wp2
  go_ret
  exact ⟨_, rfl, F.out⟩
 ·have F := Lib.hid (show FoundA w.heap.size P (.iface 190 (.agg #[.slice s1 P.length c1])) w1 ∧ Below w.heap.size w w1 from ⟨.inr ⟨hp, s1, c1, rfl, o1⟩, b1⟩)
  have hl : 0 < P.length := List.length_pos_iff.2 hp
  have hl' : ¬ (P.length : Int) = 0 := by omega
  clear o1 b1 C1 HF
  generalize P.length = k at *
  go_wp2
  go_ret
  exact ⟨_, rfl, F.out⟩
theorem ta_nil (w : World) : (Instr.typeAssert .nilIface 20 179 true).run Tryz.prog w = .ok (.tuple #[.nilIface, .bool false]) w := by kernel_rfl
theorem ta_add (x : Value) (w : World) : (Instr.typeAssert (.iface 190 x) 20 179 true).run Tryz.prog w = .ok (.tuple #[.iface 190 x, .bool true]) w := by kernel_rfl
theorem me_add (x : Value) (w : World) : (method 421 190 x "loop.example/g00144/impl.answer").run Tryz.prog w = .ok (277, x) w := by kernel_rfl
set_option linter.unusedSimpArgs false
set_option maxRecDepth 100000 in
set_option maxHeartbeats 1000000 in
theorem fa2_add (g h : Nat) (P : List LPl) (hP : P ≠ []) (w : World) (hg : g < w.heap.size) (hc : w.cell? ⟨g, 0, none⟩ = some (WayU h))
  (C : ∀ W, Below w.heap.size w W → Calls Tryz.prog 148 #[.pointer (some ⟨h, 0, none⟩), .pointer (some ⟨h + 1, 0, none⟩), .pointer (some ⟨h + 2, 0, none⟩), .pointer (some ⟨h + 3, 0, none⟩)] W fun e w' => ∃ x, e = .returned x ∧ FoundA W.heap.size P x w' ∧ Below W.heap.size W w') :
  Calls Tryz.prog 77 #[.slice (some ⟨g, 0, none⟩) 2 2] w fun e w' => ∃ s c, e = .returned (.agg #[.int .i64 1, .int .i64 1, .slice s P.length c, .slice none 0 0, .int .i64 0, .int .i64 0]) ∧ w'.ownsRow w.heap.size 131 2 (.slice s P.length c) P.length (enCells P) ∧ Below w.heap.size w w' := by
 have C' := Lib.hid C
 clear C
 go_enter Tryz.func77, Tryz.ntmps77
 go_wp2_with fail
 go_loopw [9] (fun i wr => i = .int .i64 0 ∧ wr = w.alloc (.cells #[.int .i64 0, .int .i64 0, .slice none 0 0, .slice none 0 0, .int .i64 0, .int .i64 0] 49)) (fun i _ => 0)
 case atStart => exact ⟨rfl, rfl⟩
 case round =>
  obtain ⟨rfl, rfl⟩ := hrel
  go_wp2_with fail
  refine (C'.out _ (bA (bA0 _ _) _)).mono ?_
  rintro e w1 ⟨x, rfl, hx, hb⟩
  rcases hx with ⟨h0, _⟩ | ⟨_, s, c, rfl, ho⟩
  ·exact absurd h0 hP
  have X1 : Hid (BoxK w1 w.heap.size) := ((BoxK.new w).below (bA0 _ _)).below hb
  have HB : Hid (Below w.heap.size w w1) := bT (bA (bA0 _ _) _) hb
  have HO : Hid (w1.ownsRow w.heap.size 131 2 (.slice s P.length c) P.length (enCells P)) := own_mono ho (by simp; omega)
  clear ho hb C'
  have hta := ta_add
  have hme := me_add
  go_wp2_with fail
  refine (ansA_any s P.length c _).mono ?_
  rintro e w2 ⟨rfl, hb2⟩
  obtain ⟨x0, r0, r1, r2, r3, r4, r5, f0, f1, f2, f3, f4, f5⟩ := (X1.out.below hb2).facts
  have P1 := Lib.hid (set6_below (bT HB.out hb2) (Nat.le_refl _) (.int .i64 1) (.int .i64 1) (.slice s P.length c) (.slice none 0 0) (.int .i64 0) (.int .i64 0))
  have P2 := Lib.hid (own_only (own_below HO.out hb2) (set6_only w2 w.heap.size (.int .i64 1) (.int .i64 1) (.slice s P.length c) (.slice none 0 0) (.int .i64 0) (.int .i64 0)) (X1.out.below hb2) (by decide))
  unfold set6 at P1 P2
  clear hb2 hta hme HB HO
  go_wp2
  exact bodyPost_ret (v := .agg #[.int .i64 1, .int .i64 1, .slice s P.length c, .slice none 0 0, .int .i64 0, .int .i64 0]) (by simp [results, Tryz.results77, go_sem, r0, r1, r2, r3, r4, r5]) rfl ⟨s, c, rfl, P2.out, P1.out⟩
set_option maxRecDepth 100000 in
set_option maxHeartbeats 1000000 in
theorem fa2_sol (g h h2 : Nat) (v st cd : Int) (Q : Option Addr → Nat → Nat → Option Addr → Nat → Nat → Option Addr → Nat → Nat → Nat → World → Prop) (P : List LPl) (hP : P = []) (w : World) (hg : g < w.heap.size) (hc : w.cell? ⟨g, 0, none⟩ = some (WayU h)) (hc1 : w.cell? ⟨g, 1, none⟩ = some (WayV h2))
  (C : ∀ W, Below w.heap.size w W → Calls Tryz.prog 148 #[.pointer (some ⟨h, 0, none⟩), .pointer (some ⟨h + 1, 0, none⟩), .pointer (some ⟨h + 2, 0, none⟩), .pointer (some ⟨h + 3, 0, none⟩)] W fun e w' => ∃ x, e = .returned x ∧ FoundA W.heap.size P x w' ∧ Below W.heap.size W w')
  (C2 : ∀ W, Below w.heap.size w W → Calls Tryz.prog 138 #[.pointer (some ⟨h2, 0, none⟩), .pointer (some ⟨h2 + 1, 0, none⟩), .pointer (some ⟨h2 + 2, 0, none⟩), .pointer (some ⟨h2 + 3, 0, none⟩)] W fun e w' => ∃ s1 n1 c1 s2 n2 c2 s3 n3 c3, e = .returned (.iface 183 (SVK v (.slice s1 n1 c1) (.slice s2 n2 c2) st cd (.slice s3 n3 c3))) ∧ Q s1 n1 c1 s2 n2 c2 s3 n3 c3 W.heap.size w' ∧ Below W.heap.size W w') :
  Calls Tryz.prog 77 #[.slice (some ⟨g, 0, none⟩) 2 2] w fun e w' => ∃ s1 n1 c1 s2 n2 c2 s3 n3 c3, e = .returned (.agg #[.int .i64 v, .int .i64 2, .slice s3 n3 c3, .slice s2 n2 c2, .int .i64 st, .int .i64 0]) ∧ (∃ w1 B, w.heap.size ≤ B ∧ Q s1 n1 c1 s2 n2 c2 s3 n3 c3 B w1 ∧ BoxK w1 w.heap.size ∧ Only w.heap.size w1 w') ∧ Below w.heap.size w w' := by
 have C' := Lib.hid C
 have D' := Lib.hid C2
 have HC : Hid (∀ W, Below w.heap.size w W → g < W.heap.size ∧ W.cell? ⟨g, 1, none⟩ = some (WayV h2)) := fun W hW => ⟨Nat.lt_of_lt_of_le hg hW.size, by rw [← hc1]; simp only [World.cell?]; rw [hW.block g hg]⟩
 clear C C2 hc1
 go_enter Tryz.func77, Tryz.ntmps77
 go_wp2_with fail
 go_loopw [9] (fun i wr => (i = .int .i64 0 ∧ wr = w.alloc (.cells #[.int .i64 0, .int .i64 0, .slice none 0 0, .slice none 0 0, .int .i64 0, .int .i64 0] 49)) ∨ (i = .int .i64 1 ∧ Hid (BoxK wr w.heap.size ∧ Below w.heap.size w wr))) (fun i _ => 2 - (intOf i).toNat)
 case atStart => exact .inl ⟨rfl, rfl⟩
 case round =>
  rcases hrel with ⟨rfl, rfl⟩ | ⟨rfl, HK⟩
  ·clear D' HC
   go_wp2_with fail
   refine (C'.out _ (bA (bA0 _ _) _)).mono ?_
   rintro e w1 ⟨x, rfl, hx, hb⟩
   rcases hx with ⟨_, rfl⟩ | ⟨h0, _⟩
   rotate_left
   ·exact absurd hP h0
   have X1 : Hid (BoxK w1 w.heap.size ∧ Below w.heap.size w w1) := ⟨((BoxK.new w).below (bA0 _ _)).below hb, bT (bA (bA0 _ _) _) hb⟩
   clear hb C'
   have hta := ta_nil
   go_wp2_with fail
   go_roundw
   case rel => exact .inr ⟨by go_num, X1⟩
   case measure => simp [intOf]
  ·obtain ⟨g1, g2⟩ := HC.out _ HK.out.2
   clear C' HC hc hg
   go_wp2_with fail
   refine (D'.out _ (bA HK.out.2 _)).mono ?_
   rintro e w1 ⟨s1, n1, c1, s2, n2, c2, s3, n3, c3, rfl, hq, hb⟩
   have X1 : Hid (BoxK w1 w.heap.size) := (HK.out.1.below (bA0 _ _)).below hb
   have HB : Hid (Below w.heap.size w w1) := bT (bA HK.out.2 _) hb
   have HQ : Hid (∃ B, w.heap.size ≤ B ∧ Q s1 n1 c1 s2 n2 c2 s3 n3 c3 B w1) := ⟨_, (bA HK.out.2 _).size, hq⟩
   clear hq hb D' g1 g2 HK
   have hta := ta_run
   have hme := me_run
   go_wp2_with fail
   refine (ans_any v st cd s1 s2 s3 n1 c1 n2 c2 n3 c3 _).mono ?_
   rintro e w2 ⟨rfl, hb2⟩
   obtain ⟨x0, r0, r1, r2, r3, r4, r5, f0, f1, f2, f3, f4, f5⟩ := (X1.out.below hb2).facts
   have P1 := Lib.hid (set6_below (bT HB.out hb2) (Nat.le_refl _) (.int .i64 v) (.int .i64 2) (.slice s3 n3 c3) (.slice s2 n2 c2) (.int .i64 st) (.int .i64 0))
   have P2 := Lib.hid ((Only.of_below (b := w.heap.size) hb2).trans (set6_only w2 w.heap.size (.int .i64 v) (.int .i64 2) (.slice s3 n3 c3) (.slice s2 n2 c2) (.int .i64 st) (.int .i64 0)))
   unfold set6 at P1 P2
   clear hb2 hta hme HB
   go_wp2
   obtain ⟨B, hB, hq⟩ := HQ.out
   exact bodyPost_ret (v := .agg #[.int .i64 v, .int .i64 2, .slice s3 n3 c3, .slice s2 n2 c2, .int .i64 st, .int .i64 0]) (by simp [results, Tryz.results77, go_sem, r0, r1, r2, r3, r4, r5]) rfl ⟨s1, n1, c1, s2, n2, c2, s3, n3, c3, rfl, ⟨w1, B, hB, hq, X1.out, P2.out⟩, P1.out⟩
set_option linter.unusedSimpArgs false
theorem cell2_new (w : World) (x y : Value) (t : TypeId) : (w.alloc (.cells #[x, y] t)).cell? ⟨w.heap.size, 0, none⟩ = some x ∧ (w.alloc (.cells #[x, y] t)).cell? ⟨w.heap.size, 1, none⟩ = some y := by
 have h := al_new w (.cells #[x, y] t) _ rfl
 unfold World.cell?
 rw [h]
 exact ⟨rfl, rfl⟩
def OnePost (b2 b1 : Prop) (P : List LPl) (R : Res × Int) (PC : List Value) (k : Nat) (w : World) (e : Ending) (w' : World) : Prop :=
 Below w.heap.size w w' ∧ ((b2 ∧ e = .returned (.agg #[.int .i64 0, .int .i64 0, .slice none 0 0, .slice none 0 0, .int .i64 0, .int .i64 2])) ∨ (¬ b2 ∧ b1 ∧ e = .returned (.agg #[.int .i64 0, .int .i64 0, .slice none 0 0, .slice none 0 0, .int .i64 0, .int .i64 1])) ∨
  (¬ b2 ∧ ¬ b1 ∧ P ≠ [] ∧ ∃ s c, e = .returned (.agg #[.int .i64 1, .int .i64 1, .slice s P.length c, .slice none 0 0, .int .i64 0, .int .i64 0]) ∧ w'.ownsRow w.heap.size 131 2 (.slice s P.length c) P.length (enCells P)) ∨
  (¬ b2 ∧ ¬ b1 ∧ P = [] ∧ ∃ s1 n1 c1 s2 n2 c2 s3 n3 c3, e = .returned (.agg #[.int .i64 R.1.1, .int .i64 2, .slice s3 n3 c3, .slice s2 n2 c2, .int .i64 R.1.2.2.2, .int .i64 0]) ∧ FoundQ w.heap.size R.1 PC k s1 n1 c1 s2 n2 c2 s3 n3 c3 w'))
set_option maxRecDepth 100000 in
set_option maxHeartbeats 2000000 in
theorem iao_any (sl : Option Addr) (n cap : Nat) (sl2 : Option Addr) (m cap2 : Nat) (top : Int) (sl3 : Option Addr) (q cap3 : Nat) (id bud : Int) (ids : List Int) (P1 P2 : Prop) (P : List LPl) (R : Res × Int) (PC : List Value) (k : Nat) (w : World) (hq : q ≤ maxLen)
  (E0 : ∀ W, Below w.heap.size w W → Calls Tryz.prog 92 #[.slice sl3 q cap3, .int .i64 id] W fun e w' => ∃ v, e = .returned v ∧ w'.ownsRow W.heap.size 2 1 v ids.length (valsZ ids) ∧ Below W.heap.size W w')
  (E1 : ∀ W, Below w.heap.size w W → Calls Tryz.prog 93 #[.agg #[.slice sl n cap, .slice sl2 m cap2], .int .i64 top, .slice sl3 q cap3] W fun e w' => e = .returned (.bool (B P1)) ∧ Below W.heap.size W w')
  (E2 : ∀ W s c, Below w.heap.size w W → W.ownsRow w.heap.size 2 1 (.slice s ids.length c) ids.length (valsZ ids) → Calls Tryz.prog 65 #[.agg #[.slice sl n cap, .slice sl2 m cap2], .slice s ids.length c] W fun e w' => e = .returned (.bool (B P2)) ∧ Below W.heap.size W w')
  (E3 : ¬ 400 < q → P1 → P2 → BudR bud → ∀ W h, Below w.heap.size w W → WayA W h sl n cap sl2 m cap2 top sl3 q cap3 id → Calls Tryz.prog 148 #[.pointer (some ⟨h, 0, none⟩), .pointer (some ⟨h + 1, 0, none⟩), .pointer (some ⟨h + 2, 0, none⟩), .pointer (some ⟨h + 3, 0, none⟩)] W fun e w' => ∃ x, e = .returned x ∧ FoundA W.heap.size P x w' ∧ Below W.heap.size W w')
  (E4 : ¬ 400 < q → P1 → P2 → BudR bud → ∀ W h s c, Below w.heap.size w W → W.ownsRow w.heap.size 2 1 (.slice s ids.length c) ids.length (valsZ ids) → WayB W h sl n cap sl2 m cap2 top s ids.length c bud → Calls Tryz.prog 138 #[.pointer (some ⟨h, 0, none⟩), .pointer (some ⟨h + 1, 0, none⟩), .pointer (some ⟨h + 2, 0, none⟩), .pointer (some ⟨h + 3, 0, none⟩)] W fun e w' => ∃ s1 n1 c1 s2 n2 c2 s3 n3 c3, e = .returned (.iface 183 (SVK R.1.1 (.slice s1 n1 c1) (.slice s2 n2 c2) R.1.2.2.2 R.2 (.slice s3 n3 c3))) ∧ FoundQ W.heap.size R.1 PC k s1 n1 c1 s2 n2 c2 s3 n3 c3 w' ∧ Below W.heap.size W w') :
  Calls Tryz.prog 32 #[.agg #[.slice sl n cap, .slice sl2 m cap2], .int .i64 top, .slice sl3 q cap3, .int .i64 id, .int .i64 bud] w (OnePost (400 < q) (¬ (P1 ∧ P2 ∧ BudR bud)) P R PC k w) := by
 unfold maxLen at hq
 have B1 : Hid (Below w.heap.size w ((w.alloc (.cells #[.slice sl n cap, .slice sl2 m cap2] 26)).alloc (.cells #[.int .i64 0, .int .i64 0, .slice none 0 0, .slice none 0 0, .int .i64 0, .int .i64 0] 49))) := bA (bA0 _ _) _
 have X1 : Hid (BoxK ((w.alloc (.cells #[.slice sl n cap, .slice sl2 m cap2] 26)).alloc (.cells #[.int .i64 0, .int .i64 0, .slice none 0 0, .slice none 0 0, .int .i64 0, .int .i64 0] 49)) (w.heap.size + 1)) := by
  have := BoxK.new (w.alloc (.cells #[.slice sl n cap, .slice sl2 m cap2] 26))
  rwa [show (w.alloc (.cells #[.slice sl n cap, .slice sl2 m cap2] 26)).heap.size = w.heap.size + 1 by simp] at this
 have T1 : Hid (((w.alloc (.cells #[.slice sl n cap, .slice sl2 m cap2] 26)).alloc (.cells #[.int .i64 0, .int .i64 0, .slice none 0 0, .slice none 0 0, .int .i64 0, .int .i64 0] 49)).heap[w.heap.size]? = some (.cells #[.slice sl n cap, .slice sl2 m cap2] 26)) := (al_old _ _ _ (by simp)).trans (al_new _ _ _ rfl)
 have C0 := Lib.hid E0
 have C1 := Lib.hid E1
 have C2 := Lib.hid E2
 have C3 := Lib.hid E3
 have C4 := Lib.hid E4
 clear E0 E1 E2 E3 E4
 by_cases h4 : 400 < q
 ·have h4' : (400 : Int) < (q : Int) := by omega
  have H4 := Lib.hid h4
  clear C0 C1 C2 C3 C4
  go_enter Tryz.func32, Tryz.ntmps32
  go_wp2
  exact bodyPost_ret (v := .agg #[.int .i64 0, .int .i64 0, .slice none 0 0, .slice none 0 0, .int .i64 0, .int .i64 2]) (by simp [results, Tryz.results32, go_sem]) rfl ⟨bA (bA0 _ _) _, .inl ⟨H4.out, rfl⟩⟩
 ·have h4' : ¬ (400 : Int) < (q : Int) := by omega
  have H4 := Lib.hid h4
  have TF : Hid (∀ W, Below ((w.alloc (.cells #[.slice sl n cap, .slice sl2 m cap2] 26)).alloc (.cells #[.int .i64 0, .int .i64 0, .slice none 0 0, .slice none 0 0, .int .i64 0, .int .i64 0] 49)).heap.size ((w.alloc (.cells #[.slice sl n cap, .slice sl2 m cap2] 26)).alloc (.cells #[.int .i64 0, .int .i64 0, .slice none 0 0, .slice none 0 0, .int .i64 0, .int .i64 0] 49)) W → w.heap.size < W.heap.size ∧ W.cell? ⟨w.heap.size, 0, none⟩ = some (.slice sl n cap) ∧ W.cell? ⟨w.heap.size, 1, none⟩ = some (.slice sl2 m cap2)) := fun W hW => by
   have h := (hW.block w.heap.size (by simp <;> omega)).trans T1.out
   exact ⟨(Array.getElem?_eq_some_iff.1 h).1, by simp [World.cell?, h], by simp [World.cell?, h]⟩
  clear T1
  by_cases hP : P1
  ·rw [B_yes hP] at C1
   by_cases hP2 : P2
   ·rw [B_yes hP2] at C2
    by_cases hB : BudR bud
    ·have C5 := Lib.hid (fun W => by have := bud_any bud W; rw [B_yes hB] at this; exact this)
     have D3 := Lib.hid (C3.out h4 hP hP2 hB)
     have D4 := Lib.hid (C4.out h4 hP hP2 hB)
     have OK : Hid (¬ ¬ (P1 ∧ P2 ∧ BudR bud)) := fun h => h ⟨hP, hP2, hB⟩
     clear C3 C4 h4 hP hP2 hB
     generalize hX : (¬ (P1 ∧ P2 ∧ BudR bud)) = bz at *
     clear hX
     have TG : Hid (∀ W' W, Below ((w.alloc (.cells #[.slice sl n cap, .slice sl2 m cap2] 26)).alloc (.cells #[.int .i64 0, .int .i64 0, .slice none 0 0, .slice none 0 0, .int .i64 0, .int .i64 0] 49)).heap.size ((w.alloc (.cells #[.slice sl n cap, .slice sl2 m cap2] 26)).alloc (.cells #[.int .i64 0, .int .i64 0, .slice none 0 0, .slice none 0 0, .int .i64 0, .int .i64 0] 49)) W → Only (w.heap.size + 1) W W' → (fun W => w.heap.size < W.heap.size ∧ W.cell? ⟨w.heap.size, 0, none⟩ = some (.slice sl n cap) ∧ W.cell? ⟨w.heap.size, 1, none⟩ = some (.slice sl2 m cap2)) W') := fun W' W hW ho => by
      have h := TF.out W hW
      have e : W'.heap[w.heap.size]? = W.heap[w.heap.size]? := ho.block _ (by omega) (by omega)
      exact ⟨Nat.lt_of_lt_of_le h.1 ho.size, by rw [← h.2.1]; simp only [World.cell?]; rw [e], by rw [← h.2.2]; simp only [World.cell?]; rw [e]⟩
     go_enter Tryz.func32, Tryz.ntmps32
     go_wp2_with fail
     refine (C0.out _ B1.out).mono ?_
     rintro e w1 ⟨v, rfl, o, b1⟩
     obtain ⟨s, c, rfl⟩ := own_v o
     obtain ⟨t0, t1, t2⟩ := TF.out w1 b1
     go_wp2_with fail
     refine (C1.out _ (bT B1.out b1)).mono ?_
     rintro e w2 ⟨rfl, b2⟩
     obtain ⟨u0, u1, u2⟩ := TF.out w2 (bT b1 b2)
     have O2 := Lib.hid (own_below (own_mono o B1.out.size) b2)
     have BB := Lib.hid (bT b1 b2)
     clear C0 C1 o b1 b2 t0 t1 t2
     go_wp2_with fail
     refine (C2.out _ s c (bT B1.out BB.out) O2.out).mono ?_
     rintro e w3 ⟨rfl, b3⟩
     have BC := Lib.hid (bT BB.out b3)
     have O3 := Lib.hid (own_below O2.out b3)
     clear C2 BB b3 O2 u0 u1 u2
     go_wp2_with fail
     refine (C5.out _).mono ?_
     rintro e w4 ⟨rfl, rfl⟩
     clear C5
     go_wp2_with fail
     refine wp_region_held_drew (S := fun W => w.heap.size < W.heap.size ∧ W.cell? ⟨w.heap.size, 0, none⟩ = some (.slice sl n cap) ∧ W.cell? ⟨w.heap.size, 1, none⟩ = some (.slice sl2 m cap2)) (by kernel_rfl) ?_ (fun hHeld => ?_)
     ·exact TF.out _ (bT BC.out (below_drew' w3))
     have BC4 := Lib.hid (bT BC.out (below_drew' w3))
     have O4 := Lib.hid (own_below O3.out (below_drew' w3))
     clear BC O3
     generalize w3.drew = wd at *
     refine tw (i := 0) rfl ?_
     refine tw (i := 1) rfl ?_
     refine tw (i := 2) rfl ?_
     refine tw (i := 3) rfl ?_
     try simp only [Act.put, List.setIfInBounds_toArray, List.set_cons_zero, List.set_cons_succ, List.getElem_toArray, List.getElem_cons_succ, List.getElem_cons_zero]
     refine tw (i := 5) rfl ?_
     refine tw (i := 6) rfl ?_
     refine tw (i := 7) rfl ?_
     refine tw (i := 8) rfl ?_
     try simp only [Act.put, List.setIfInBounds_toArray, List.set_cons_zero, List.set_cons_succ, List.getElem_toArray, List.getElem_cons_succ, List.getElem_cons_zero]
     refine wpAnyH_ready (rs := [4]) (by kernel_rfl) (by simp) ?_
     refine AllReadyH.cons rfl (fun K hK => ?_) AllReadyH.nil
     go_simp
     go_wp2_with (go_at_call 94; refine (bya_any sl n cap sl2 m cap2 top sl3 q cap3 id _).mono ?_; rintro e w5 ⟨rfl, wa, b5⟩)
     have BC5 := Lib.hid (bT BC4.out b5)
     have O5 := Lib.hid (own_below O4.out b5)
     have WA := Lib.hid wa
     clear wa b5 BC4 O4
     refine hK.out _ _ (TF.out _ BC5.out) (fun hHeld => ?_)
     clear hK K
     refine wpAnyH_ready (rs := [9]) (by kernel_rfl) (by simp) ?_
     refine AllReadyH.cons rfl (fun K hK => ?_) AllReadyH.nil
     go_simp
     go_wp2_with (go_at_call 78; refine (bys_any sl n cap sl2 m cap2 top s ids.length c bud _).mono ?_; rintro e w6 ⟨rfl, wb, b6⟩)
     have BC6 := Lib.hid (bT BC5.out b6)
     have O6 := Lib.hid (own_below O5.out b6)
     have WA6 := Lib.hid (WA.out.below b6)
     have WB := Lib.hid wb
     clear wb b6 BC5 O5 WA
     generalize wd.heap.size = hA at *
     generalize w5.heap.size = hS at *
     refine hK.out _ _ (TF.out _ BC6.out) (fun hHeld => ?_)
     clear hK K
     refine wpAnyH_ready (rs := [10]) (by kernel_rfl) (by simp) ?_
     refine AllReadyH.cons rfl (fun K hK => ?_) AllReadyH.nil
     have al := bA0 w6 (.cells #[WayU hA, WayV hS] 118)
     have BC7 := Lib.hid (bT BC6.out al)
     have O7 := Lib.hid (own_below O6.out al)
     have WA7 := Lib.hid (WA6.out.below al)
     have WB7 := Lib.hid (WB.out.below al)
     have HN := Lib.hid (show w6.heap.size < (w6.alloc (.cells #[WayU hA, WayV hS] 118)).heap.size from by simp)
     have HC0 := Lib.hid (cell2_new w6 (WayU hA) (WayV hS) 118)
     clear al BC6 O6 WA6 WB
     go_simp
     refine hK.out _ _ (TF.out _ BC7.out) (fun hHeld => ?_)
     clear hK K
     generalize w6.alloc (.cells #[WayU hA, WayV hS] 118) = w7 at *
     generalize w6.heap.size = g at *
     have X7 := Lib.hid (X1.out.below BC7.out)
     have B7 := Lib.hid (bT B1.out BC7.out)
     refine wpAnyH_ready (rs := [11]) (by kernel_rfl) (by simp) ?_
     refine AllReadyH.cons rfl (fun K hK => ?_) AllReadyH.nil
     by_cases hP : P = []
     ·have NP := Lib.hid hP
      have E := Lib.hid (fa2_sol g hA hS R.1.1 R.1.2.2.2 R.2 (fun s1 n1 c1 s2 n2 c2 s3 n3 c3 B W => FoundQ B R.1 PC k s1 n1 c1 s2 n2 c2 s3 n3 c3 W) P hP w7 HN.out HC0.out.1 HC0.out.2 (fun W hW => D3.out W hA (bT B7.out hW) (WA7.out.below hW)) (fun W hW => D4.out W hS s c (bT B7.out hW) (own_below O7.out hW) (WB7.out.below hW)))
      clear D3 D4 hP
      go_simp
      go_wp2_with (go_at_call 77; refine E.out.mono ?_; rintro e w8 ⟨s1, n1, c1, s2, n2, c2, s3, n3, c3, rfl, ⟨wq, Bq, hBq, hq4, bx4, on4⟩, b8⟩)
      have P1 := Lib.hid (set6_below (b := w.heap.size + 1) (bT B7.out b8) (by omega) (.int .i64 R.1.1) (.int .i64 2) (.slice s3 n3 c3) (.slice s2 n2 c2) (.int .i64 R.1.2.2.2) (.int .i64 0))
      have P2 := Lib.hid ((((hq4.onlyK on4 bx4).mono (Nat.le_trans B7.out.size hBq)).onlyK (set6_only w8 (w.heap.size + 1) (.int .i64 R.1.1) (.int .i64 2) (.slice s3 n3 c3) (.slice s2 n2 c2) (.int .i64 R.1.2.2.2) (.int .i64 0)) (X7.out.below b8)))
      have X8 := Lib.hid (X7.out.below b8)
      have S8 := Lib.hid (fun (W : World) (h : Only (w.heap.size + 1) w8 W) => TG.out W w8 (bT BC7.out b8) h)
      refine hK.out _ _ (TF.out _ (bT BC7.out b8)) (fun hHeld => ?_)
      clear hK K
      refine wpAnyH_ready (rs := [12]) (by kernel_rfl) (by simp) ?_
      refine AllReadyH.cons rfl (fun K hK => ?_) AllReadyH.nil
      obtain ⟨x0, r0, r1, r2, r3, r4, r5, f0, f1, f2, f3, f4, f5⟩ := X8.out.facts
      have S9 := Lib.hid (S8.out _ (set6_only w8 (w.heap.size + 1) (.int .i64 R.1.1) (.int .i64 2) (.slice s3 n3 c3) (.slice s2 n2 c2) (.int .i64 R.1.2.2.2) (.int .i64 0)))
      unfold set6 at P1 P2 S9
      go_simp
      refine hK.out _ _ S9.out (fun hHeld => ?_)
      clear hK K
      refine wpAnyH_done (by kernel_rfl) ?_ _
      go_wp2
      exact bodyPost_ret (v := .agg #[.int .i64 R.1.1, .int .i64 2, .slice s3 n3 c3, .slice s2 n2 c2, .int .i64 R.1.2.2.2, .int .i64 0]) (by simp [results, Tryz.results32, go_sem, r0, r1, r2, r3, r4, r5]) rfl ⟨P1.out, .inr (.inr (.inr ⟨H4.out, OK.out, NP.out, s1, n1, c1, s2, n2, c2, s3, n3, c3, rfl, P2.out⟩))⟩
     ·have NP := Lib.hid hP
      have E := Lib.hid (fa2_add g hA P hP w7 HN.out HC0.out.1 (fun W hW => D3.out W hA (bT B7.out hW) (WA7.out.below hW)))
      clear D3 D4 hP
      go_simp
      go_wp2_with (go_at_call 77; refine E.out.mono ?_; rintro e w8 ⟨sa, ca, rfl, o8, b8⟩)
      have P1 := Lib.hid (set6_below (b := w.heap.size + 1) (bT B7.out b8) (by omega) (.int .i64 1) (.int .i64 1) (.slice sa P.length ca) (.slice none 0 0) (.int .i64 0) (.int .i64 0))
      have P2 := Lib.hid ((own_only (own_mono o8 B7.out.size) (set6_only w8 (w.heap.size + 1) (.int .i64 1) (.int .i64 1) (.slice sa P.length ca) (.slice none 0 0) (.int .i64 0) (.int .i64 0)) (X7.out.below b8) (by decide)))
      have X8 := Lib.hid (X7.out.below b8)
      have S8 := Lib.hid (fun (W : World) (h : Only (w.heap.size + 1) w8 W) => TG.out W w8 (bT BC7.out b8) h)
      refine hK.out _ _ (TF.out _ (bT BC7.out b8)) (fun hHeld => ?_)
      clear hK K
      refine wpAnyH_ready (rs := [12]) (by kernel_rfl) (by simp) ?_
      refine AllReadyH.cons rfl (fun K hK => ?_) AllReadyH.nil
      obtain ⟨x0, r0, r1, r2, r3, r4, r5, f0, f1, f2, f3, f4, f5⟩ := X8.out.facts
      have S9 := Lib.hid (S8.out _ (set6_only w8 (w.heap.size + 1) (.int .i64 1) (.int .i64 1) (.slice sa P.length ca) (.slice none 0 0) (.int .i64 0) (.int .i64 0)))
      unfold set6 at P1 P2 S9
      go_simp
      refine hK.out _ _ S9.out (fun hHeld => ?_)
      clear hK K
      refine wpAnyH_done (by kernel_rfl) ?_ _
      go_wp2
      exact bodyPost_ret (v := .agg #[.int .i64 1, .int .i64 1, .slice sa P.length ca, .slice none 0 0, .int .i64 0, .int .i64 0]) (by simp [results, Tryz.results32, go_sem, r0, r1, r2, r3, r4, r5]) rfl ⟨P1.out, .inr (.inr (.inl ⟨H4.out, OK.out, NP.out, sa, ca, rfl, P2.out⟩))⟩
    ·have C5 := Lib.hid (fun W => by have := bud_any bud W; rw [B_no hB] at this; exact this)
     have NO : Hid (¬ (P1 ∧ P2 ∧ BudR bud)) := fun h => hB h.2.2
     clear C3 C4 h4 hP hP2 hB
     generalize hX : (¬ (P1 ∧ P2 ∧ BudR bud)) = bz at *
     clear hX
     go_enter Tryz.func32, Tryz.ntmps32
     go_wp2_with fail
     refine (C0.out _ B1.out).mono ?_
     rintro e w1 ⟨v, rfl, o, b1⟩
     obtain ⟨s, c, rfl⟩ := own_v o
     obtain ⟨t0, t1, t2⟩ := TF.out w1 b1
     go_wp2_with fail
     refine (C1.out _ (bT B1.out b1)).mono ?_
     rintro e w2 ⟨rfl, b2⟩
     obtain ⟨u0, u1, u2⟩ := TF.out w2 (bT b1 b2)
     have O2 := Lib.hid (own_below (own_mono o B1.out.size) b2)
     have BB := Lib.hid (bT b1 b2)
     clear C0 C1 o b1 b2 t0 t1 t2
     go_wp2_with fail
     refine (C2.out _ s c (bT B1.out BB.out) O2.out).mono ?_
     rintro e w3 ⟨rfl, b3⟩
     have X3 := Lib.hid (X1.out.below (bT BB.out b3))
     have B3 := Lib.hid (bT B1.out (bT BB.out b3))
     clear X1 B1 C2 BB b3 O2 u0 u1 u2
     obtain ⟨x0, r0, r1, r2, r3, r4, r5, f0, f1, f2, f3, f4, f5⟩ := X3.out.facts
     have P1 := Lib.hid (set6_below (b := w.heap.size + 1) B3.out (by omega) (.int .i64 0) (.int .i64 0) (.slice none 0 0) (.slice none 0 0) (.int .i64 0) (.int .i64 1))
     unfold set6 at P1
     clear TF X3 B3
     go_wp2_with fail
     refine (C5.out _).mono ?_
     rintro e w4 ⟨rfl, rfl⟩
     clear C5
     go_wp2
     exact bodyPost_ret (v := .agg #[.int .i64 0, .int .i64 0, .slice none 0 0, .slice none 0 0, .int .i64 0, .int .i64 1]) (by simp [results, Tryz.results32, go_sem, r0, r1, r2, r3, r4, r5]) rfl ⟨P1.out, .inr (.inl ⟨H4.out, NO.out, rfl⟩)⟩
   ·rw [B_no hP2] at C2
    have NO : Hid (¬ (P1 ∧ P2 ∧ BudR bud)) := fun h => hP2 h.2.1
    clear C3 C4 h4 hP hP2
    generalize hX : (¬ (P1 ∧ P2 ∧ BudR bud)) = bz at *
    clear hX
    go_enter Tryz.func32, Tryz.ntmps32
    go_wp2_with fail
    refine (C0.out _ B1.out).mono ?_
    rintro e w1 ⟨v, rfl, o, b1⟩
    obtain ⟨s, c, rfl⟩ := own_v o
    obtain ⟨t0, t1, t2⟩ := TF.out w1 b1
    go_wp2_with fail
    refine (C1.out _ (bT B1.out b1)).mono ?_
    rintro e w2 ⟨rfl, b2⟩
    obtain ⟨u0, u1, u2⟩ := TF.out w2 (bT b1 b2)
    have O2 := Lib.hid (own_below (own_mono o B1.out.size) b2)
    have BB := Lib.hid (bT b1 b2)
    clear C0 C1 o b1 b2 t0 t1 t2
    go_wp2_with fail
    refine (C2.out _ s c (bT B1.out BB.out) O2.out).mono ?_
    rintro e w3 ⟨rfl, b3⟩
    have X3 := Lib.hid (X1.out.below (bT BB.out b3))
    have B3 := Lib.hid (bT B1.out (bT BB.out b3))
    clear X1 B1 C2 BB b3 O2 u0 u1 u2
    obtain ⟨x0, r0, r1, r2, r3, r4, r5, f0, f1, f2, f3, f4, f5⟩ := X3.out.facts
    have P1 := Lib.hid (set6_below (b := w.heap.size + 1) B3.out (by omega) (.int .i64 0) (.int .i64 0) (.slice none 0 0) (.slice none 0 0) (.int .i64 0) (.int .i64 1))
    unfold set6 at P1
    clear TF X3 B3
    go_wp2
    exact bodyPost_ret (v := .agg #[.int .i64 0, .int .i64 0, .slice none 0 0, .slice none 0 0, .int .i64 0, .int .i64 1]) (by simp [results, Tryz.results32, go_sem, r0, r1, r2, r3, r4, r5]) rfl ⟨P1.out, .inr (.inl ⟨H4.out, NO.out, rfl⟩)⟩
  ·rw [B_no hP] at C1
   have NO : Hid (¬ (P1 ∧ P2 ∧ BudR bud)) := fun h => hP h.1
   clear C2 C3 C4 h4 hP
   generalize hX : (¬ (P1 ∧ P2 ∧ BudR bud)) = bz at *
   clear hX
   go_enter Tryz.func32, Tryz.ntmps32
   go_wp2_with fail
   refine (C0.out _ B1.out).mono ?_
   rintro e w1 ⟨v, rfl, o, b1⟩
   obtain ⟨s, c, rfl⟩ := own_v o
   obtain ⟨t0, t1, t2⟩ := TF.out w1 b1
   go_wp2_with fail
   refine (C1.out _ (bT B1.out b1)).mono ?_
   rintro e w2 ⟨rfl, b2⟩
   have X3 := Lib.hid (X1.out.below (bT b1 b2))
   have B3 := Lib.hid (bT B1.out (bT b1 b2))
   clear X1 B1 C0 C1 o b1 b2 t0 t1 t2
   obtain ⟨x0, r0, r1, r2, r3, r4, r5, f0, f1, f2, f3, f4, f5⟩ := X3.out.facts
   have P1 := Lib.hid (set6_below (b := w.heap.size + 1) B3.out (by omega) (.int .i64 0) (.int .i64 0) (.slice none 0 0) (.slice none 0 0) (.int .i64 0) (.int .i64 1))
   unfold set6 at P1
   clear TF X3 B3
   go_wp2
   exact bodyPost_ret (v := .agg #[.int .i64 0, .int .i64 0, .slice none 0 0, .slice none 0 0, .int .i64 0, .int .i64 1]) (by simp [results, Tryz.results32, go_sem, r0, r1, r2, r3, r4, r5]) rfl ⟨P1.out, .inr (.inl ⟨H4.out, NO.out, rfl⟩)⟩
set_option linter.unusedSimpArgs false
set_option maxRecDepth 100000 in
set_option maxHeartbeats 2000000 in
theorem sao_any (sl : Option Addr) (n cap : Nat) (sl2 : Option Addr) (m cap2 : Nat) (top : Int) (sl3 : Option Addr) (q cap3 : Nat) (id bud x : Int) (ids0 ids : List Int) (P1 P3 : Prop) (P : List LPl) (R : Res × Int) (PC : List Value) (k : Nat) (w : World) (hq : q ≤ maxLen)
  (E1 : ∀ W, Below w.heap.size w W → Calls Tryz.prog 85 #[.agg #[.slice sl n cap, .slice sl2 m cap2], .int .i64 top, .slice sl3 q cap3] W fun e w' => e = .returned (.bool (B P1)) ∧ Below W.heap.size W w')
  (E2 : ∀ W, Below w.heap.size w W → Calls Tryz.prog 86 #[.agg #[.slice sl n cap, .slice sl2 m cap2], .int .i64 id] W fun e w' => e = .returned (.int .i64 x) ∧ Below W.heap.size W w')
  (E3 : ∀ W, Below w.heap.size w W → Calls Tryz.prog 88 #[.slice sl3 q cap3] W fun e w' => ∃ v, e = .returned v ∧ w'.ownsRow W.heap.size 2 1 v ids0.length (valsZ ids0) ∧ Below W.heap.size W w')
  (E4 : ∀ W s c, Below w.heap.size w W → W.ownsRow w.heap.size 2 1 (.slice s ids0.length c) ids0.length (valsZ ids0) → Calls Tryz.prog 87 #[.slice s ids0.length c, .int .i64 id] W fun e w' => e = .returned (.bool (B P3)) ∧ Below W.heap.size W w')
  (E6 : ¬ 400 < q → P1 → 0 ≤ x → ¬ P3 → BudR bud → ∀ W, Below w.heap.size w W → Calls Tryz.prog 89 #[.agg #[.slice sl n cap, .slice sl2 m cap2], .int .i64 top, .slice sl3 q cap3, .int .i64 id] W fun e w' => ∃ v, e = .returned v ∧ w'.ownsRow W.heap.size 131 2 v P.length (enCells P) ∧ Below W.heap.size W w')
  (E7 : ¬ 400 < q → P1 → 0 ≤ x → ¬ P3 → BudR bud → ∀ W, Below w.heap.size w W → Calls Tryz.prog 90 #[.slice sl3 q cap3, .agg #[.int .i64 id, .int .i64 0]] W fun e w' => ∃ v, e = .returned v ∧ (∀ W', Below w'.heap.size w' W' → Calls Tryz.prog 88 #[v] W' fun e w'' => ∃ v, e = .returned v ∧ w''.ownsRow W'.heap.size 2 1 v ids.length (valsZ ids) ∧ Below W'.heap.size W' w'') ∧ Below W.heap.size W w')
  (E8 : ¬ 400 < q → P1 → 0 ≤ x → ¬ P3 → BudR bud → ∀ W s c, Below w.heap.size w W → W.ownsRow w.heap.size 2 1 (.slice s ids.length c) ids.length (valsZ ids) → Calls Tryz.prog 18 #[.agg #[.slice sl n cap, .slice sl2 m cap2], .int .i64 top, .slice s ids.length c, .int .i64 bud] W fun e w' => ∃ s1 n1 c1 s2 n2 c2 s3 n3 c3, e = .returned (.agg #[.int .i64 R.1.1, .int .i64 2, .slice s3 n3 c3, .slice s2 n2 c2, .int .i64 R.1.2.2.2, .int .i64 0]) ∧ FoundQ W.heap.size R.1 PC k s1 n1 c1 s2 n2 c2 s3 n3 c3 w' ∧ Below W.heap.size W w') :
  Calls Tryz.prog 30 #[.agg #[.slice sl n cap, .slice sl2 m cap2], .int .i64 top, .slice sl3 q cap3, .int .i64 id, .int .i64 bud] w (OnePost (400 < q) (¬ (P1 ∧ 0 ≤ x ∧ ¬ P3 ∧ BudR bud)) P R PC k w) := by
 unfold maxLen at hq
 have B1 : Hid (Below w.heap.size w ((w.alloc (.cells #[.slice sl n cap, .slice sl2 m cap2] 26)).alloc (.cells #[.int .i64 0, .int .i64 0, .slice none 0 0, .slice none 0 0, .int .i64 0, .int .i64 0] 49))) := bA (bA0 _ _) _
 have X1 : Hid (BoxK ((w.alloc (.cells #[.slice sl n cap, .slice sl2 m cap2] 26)).alloc (.cells #[.int .i64 0, .int .i64 0, .slice none 0 0, .slice none 0 0, .int .i64 0, .int .i64 0] 49)) (w.heap.size + 1)) := by
  have := BoxK.new (w.alloc (.cells #[.slice sl n cap, .slice sl2 m cap2] 26))
  rwa [show (w.alloc (.cells #[.slice sl n cap, .slice sl2 m cap2] 26)).heap.size = w.heap.size + 1 by simp] at this
 have T1 : Hid (((w.alloc (.cells #[.slice sl n cap, .slice sl2 m cap2] 26)).alloc (.cells #[.int .i64 0, .int .i64 0, .slice none 0 0, .slice none 0 0, .int .i64 0, .int .i64 0] 49)).heap[w.heap.size]? = some (.cells #[.slice sl n cap, .slice sl2 m cap2] 26)) := (al_old _ _ _ (by simp)).trans (al_new _ _ _ rfl)
 have C1 := Lib.hid E1
 have C2 := Lib.hid E2
 have C3 := Lib.hid E3
 have C4 := Lib.hid E4
 have C6 := Lib.hid E6
 have C7 := Lib.hid E7
 have C8 := Lib.hid E8
 clear E1 E2 E3 E4 E6 E7 E8
 by_cases h4 : 400 < q
 ·have h4' : (400 : Int) < (q : Int) := by omega
  have H4 := Lib.hid h4
  clear C1 C2 C3 C4 C6 C7 C8
  go_enter Tryz.func30, Tryz.ntmps30
  go_wp2
  exact bodyPost_ret (v := .agg #[.int .i64 0, .int .i64 0, .slice none 0 0, .slice none 0 0, .int .i64 0, .int .i64 2]) (by simp [results, Tryz.results30, go_sem]) rfl ⟨bA (bA0 _ _) _, .inl ⟨H4.out, rfl⟩⟩
 ·have h4' : ¬ (400 : Int) < (q : Int) := by omega
  have H4 := Lib.hid h4
  have TF : Hid (∀ W, Below ((w.alloc (.cells #[.slice sl n cap, .slice sl2 m cap2] 26)).alloc (.cells #[.int .i64 0, .int .i64 0, .slice none 0 0, .slice none 0 0, .int .i64 0, .int .i64 0] 49)).heap.size ((w.alloc (.cells #[.slice sl n cap, .slice sl2 m cap2] 26)).alloc (.cells #[.int .i64 0, .int .i64 0, .slice none 0 0, .slice none 0 0, .int .i64 0, .int .i64 0] 49)) W → w.heap.size < W.heap.size ∧ W.cell? ⟨w.heap.size, 0, none⟩ = some (.slice sl n cap) ∧ W.cell? ⟨w.heap.size, 1, none⟩ = some (.slice sl2 m cap2)) := fun W hW => by
   have h := (hW.block w.heap.size (by simp <;> omega)).trans T1.out
   exact ⟨(Array.getElem?_eq_some_iff.1 h).1, by simp [World.cell?, h], by simp [World.cell?, h]⟩
  clear T1
  by_cases hP : P1
  ·rw [B_yes hP] at C1
   by_cases hx : 0 ≤ x
   ·by_cases h3 : P3
    ·rw [B_yes h3] at C4
     have NO : Hid (¬ (P1 ∧ 0 ≤ x ∧ ¬ P3 ∧ BudR bud)) := fun h => h.2.2.1 h3
     have hx' : ¬ x < 0 := by omega
     clear C6 C7 C8 h4 hP hx h3
     generalize hX : (¬ (P1 ∧ 0 ≤ x ∧ ¬ P3 ∧ BudR bud)) = bz at *
     clear hX
     go_enter Tryz.func30, Tryz.ntmps30
     obtain ⟨t0, t1, t2⟩ := TF.out _ (Below.refl _ _)
     go_wp2_with fail
     refine (C1.out _ B1.out).mono ?_
     rintro e w1 ⟨rfl, b1⟩
     clear t0 t1 t2
     obtain ⟨t0, t1, t2⟩ := TF.out w1 b1
     go_wp2_with fail
     refine (C2.out _ (bT B1.out b1)).mono ?_
     rintro e w2 ⟨rfl, b2⟩
     have BB2 := Lib.hid (bT b1 b2)
     clear t0 t1 t2 b1 b2
     go_wp2_with fail
     refine (C3.out _ (bT B1.out BB2.out)).mono ?_
     rintro e w3 ⟨v0, rfl, o3, b3⟩
     obtain ⟨s0, c0, rfl⟩ := own_v o3
     have O3 := Lib.hid (own_mono o3 (bT B1.out BB2.out).size)
     have BB3 := Lib.hid (bT BB2.out b3)
     clear o3 b3 BB2
     go_wp2_with fail
     refine (C4.out _ s0 c0 (bT B1.out BB3.out) O3.out).mono ?_
     rintro e w4 ⟨rfl, b4⟩
     have BB4 := Lib.hid (bT BB3.out b4)
     clear b4 BB3 O3
     have X3 := Lib.hid (X1.out.below BB4.out)
     have B3 := Lib.hid (bT B1.out BB4.out)
     obtain ⟨x0, r0, r1, r2, r3, r4, r5, f0, f1, f2, f3, f4, f5⟩ := X3.out.facts
     have P1 := Lib.hid (set6_below (b := w.heap.size + 1) B3.out (by omega) (.int .i64 0) (.int .i64 0) (.slice none 0 0) (.slice none 0 0) (.int .i64 0) (.int .i64 1))
     unfold set6 at P1
     clear TF X3 B3 X1 B1 C1 C2 C3 C4 BB4
     go_wp2
     exact bodyPost_ret (v := .agg #[.int .i64 0, .int .i64 0, .slice none 0 0, .slice none 0 0, .int .i64 0, .int .i64 1]) (by simp [results, Tryz.results30, go_sem, r0, r1, r2, r3, r4, r5]) rfl ⟨P1.out, .inr (.inl ⟨H4.out, NO.out, rfl⟩)⟩
    ·rw [B_no h3] at C4
     by_cases hB : BudR bud
     ·have C5 := Lib.hid (fun W => by have := sbd_any bud W; rw [B_yes hB] at this; exact this)
      have OK : Hid (¬ ¬ (P1 ∧ 0 ≤ x ∧ ¬ P3 ∧ BudR bud)) := fun h => h ⟨hP, hx, h3, hB⟩
      have D6 := Lib.hid (C6.out h4 hP hx h3 hB)
      have D7 := Lib.hid (C7.out h4 hP hx h3 hB)
      have D8 := Lib.hid (C8.out h4 hP hx h3 hB)
      have hx' : ¬ x < 0 := by omega
      clear C6 C7 C8 h4 hP hx h3 hB
      generalize hX : (¬ (P1 ∧ 0 ≤ x ∧ ¬ P3 ∧ BudR bud)) = bz at *
      clear hX
      go_enter Tryz.func30, Tryz.ntmps30
      obtain ⟨t0, t1, t2⟩ := TF.out _ (Below.refl _ _)
      go_wp2_with fail
      refine (C1.out _ B1.out).mono ?_
      rintro e w1 ⟨rfl, b1⟩
      clear t0 t1 t2
      obtain ⟨t0, t1, t2⟩ := TF.out w1 b1
      go_wp2_with fail
      refine (C2.out _ (bT B1.out b1)).mono ?_
      rintro e w2 ⟨rfl, b2⟩
      have BB2 := Lib.hid (bT b1 b2)
      clear t0 t1 t2 b1 b2
      go_wp2_with fail
      refine (C3.out _ (bT B1.out BB2.out)).mono ?_
      rintro e w3 ⟨v0, rfl, o3, b3⟩
      obtain ⟨s0, c0, rfl⟩ := own_v o3
      have O3 := Lib.hid (own_mono o3 (bT B1.out BB2.out).size)
      have BB3 := Lib.hid (bT BB2.out b3)
      clear o3 b3 BB2
      go_wp2_with fail
      refine (C4.out _ s0 c0 (bT B1.out BB3.out) O3.out).mono ?_
      rintro e w4 ⟨rfl, b4⟩
      have BB4 := Lib.hid (bT BB3.out b4)
      clear b4 BB3 O3
      go_wp2_with fail
      refine (C5.out _).mono ?_
      rintro e w5 ⟨rfl, rfl⟩
      clear C5
      obtain ⟨t0, t1, t2⟩ := TF.out w4 BB4.out
      go_wp2_with fail
      refine (D6.out _ (bT B1.out BB4.out)).mono ?_
      rintro e w6 ⟨v6, rfl, o6, b6⟩
      obtain ⟨sa, ca, rfl⟩ := own_v o6
      have BB6 := Lib.hid (bT BB4.out b6)
      have O6 := Lib.hid (own_mono o6 (bT B1.out BB4.out).size)
      clear t0 t1 t2 o6 b6 BB4 D6
      by_cases hp : P = []
      ·have NP := Lib.hid hp
       have hl : P.length = 0 := by rw [hp]; rfl
       rw [hl]
       clear O6 hp hl
       go_wp2_with fail
       refine (D7.out _ (bT B1.out BB6.out)).mono ?_
       rintro e w7 ⟨v7, rfl, hC, b7⟩
       have HC := Lib.hid hC
       have BB7 := Lib.hid (bT BB6.out b7)
       clear hC b7 BB6 D7
       go_wp2_with fail
       refine (HC.out _ (Below.refl _ _)).mono ?_
       rintro e w8 ⟨v8, rfl, o8, b8⟩
       obtain ⟨s8, c8, rfl⟩ := own_v o8
       have BB8 := Lib.hid (bT BB7.out b8)
       have O8 := Lib.hid (own_mono o8 (bT B1.out BB7.out).size)
       obtain ⟨t0, t1, t2⟩ := TF.out w8 BB8.out
       clear o8 b8 BB7 HC TF
       go_wp2_with fail
       refine (D8.out _ s8 c8 (bT B1.out BB8.out) O8.out).mono ?_
       rintro e w9 ⟨s1, n1, c1, s2, n2, c2, s3, n3, c3, rfl, hf, b9⟩
       have X9 := Lib.hid (X1.out.below (bT BB8.out b9))
       have Q1 := Lib.hid (set6_below (b := w.heap.size + 1) (bT (bT B1.out BB8.out) b9) (by omega) (.int .i64 R.1.1) (.int .i64 2) (.slice s3 n3 c3) (.slice s2 n2 c2) (.int .i64 R.1.2.2.2) (.int .i64 0))
       have Q2 := Lib.hid ((hf.mono (bT B1.out BB8.out).size).onlyK (set6_only w9 (w.heap.size + 1) (.int .i64 R.1.1) (.int .i64 2) (.slice s3 n3 c3) (.slice s2 n2 c2) (.int .i64 R.1.2.2.2) (.int .i64 0)) X9.out)
       obtain ⟨x0, r0, r1, r2, r3, r4, r5, f0, f1, f2, f3, f4, f5⟩ := X9.out.facts
       unfold set6 at Q1 Q2
       clear X9 X1 B1 BB8 O8 D8 t0 t1 t2 hf b9
       go_wp2
       exact bodyPost_ret (v := .agg #[.int .i64 R.1.1, .int .i64 2, .slice s3 n3 c3, .slice s2 n2 c2, .int .i64 R.1.2.2.2, .int .i64 0]) (by simp [results, Tryz.results30, go_sem, r0, r1, r2, r3, r4, r5]) rfl ⟨Q1.out, .inr (.inr (.inr ⟨H4.out, OK.out, NP.out, s1, n1, c1, s2, n2, c2, s3, n3, c3, rfl, Q2.out⟩))⟩
      ·have NP := Lib.hid hp
       have hl : 0 < P.length := List.length_pos_iff.2 hp
       have hl' : (0 : Int) < (P.length : Int) := by omega
       obtain ⟨x0, r0, r1, r2, r3, r4, r5, f0, f1, f2, f3, f4, f5⟩ := (X1.out.below BB6.out).facts
       have Q1 := Lib.hid (set6_below (b := w.heap.size + 1) (bT B1.out BB6.out) (by omega) (.int .i64 1) (.int .i64 1) (.slice sa P.length ca) (.slice none 0 0) (.int .i64 0) (.int .i64 0))
       have Q2 := Lib.hid (own_only O6.out (set6_only w6 (w.heap.size + 1) (.int .i64 1) (.int .i64 1) (.slice sa P.length ca) (.slice none 0 0) (.int .i64 0) (.int .i64 0)) (X1.out.below BB6.out) (by decide))
       unfold set6 at Q1 Q2
       clear TF X1 B1 BB6 O6 D7 D8 hp
       generalize hk : P.length = kk at *
       go_wp2
       exact bodyPost_ret (v := .agg #[.int .i64 1, .int .i64 1, .slice sa kk ca, .slice none 0 0, .int .i64 0, .int .i64 0]) (by simp [results, Tryz.results30, go_sem, r0, r1, r2, r3, r4, r5]) rfl ⟨Q1.out, .inr (.inr (.inl ⟨H4.out, OK.out, NP.out, sa, ca, by rw [hk], by rw [hk]; exact Q2.out⟩))⟩
     ·have C5 := Lib.hid (fun W => by have := sbd_any bud W; rw [B_no hB] at this; exact this)
      have NO : Hid (¬ (P1 ∧ 0 ≤ x ∧ ¬ P3 ∧ BudR bud)) := fun h => hB h.2.2.2
      have hx' : ¬ x < 0 := by omega
      clear C6 C7 C8 h4 hP hx h3 hB
      generalize hX : (¬ (P1 ∧ 0 ≤ x ∧ ¬ P3 ∧ BudR bud)) = bz at *
      clear hX
      go_enter Tryz.func30, Tryz.ntmps30
      obtain ⟨t0, t1, t2⟩ := TF.out _ (Below.refl _ _)
      go_wp2_with fail
      refine (C1.out _ B1.out).mono ?_
      rintro e w1 ⟨rfl, b1⟩
      clear t0 t1 t2
      obtain ⟨t0, t1, t2⟩ := TF.out w1 b1
      go_wp2_with fail
      refine (C2.out _ (bT B1.out b1)).mono ?_
      rintro e w2 ⟨rfl, b2⟩
      have BB2 := Lib.hid (bT b1 b2)
      clear t0 t1 t2 b1 b2
      go_wp2_with fail
      refine (C3.out _ (bT B1.out BB2.out)).mono ?_
      rintro e w3 ⟨v0, rfl, o3, b3⟩
      obtain ⟨s0, c0, rfl⟩ := own_v o3
      have O3 := Lib.hid (own_mono o3 (bT B1.out BB2.out).size)
      have BB3 := Lib.hid (bT BB2.out b3)
      clear o3 b3 BB2
      go_wp2_with fail
      refine (C4.out _ s0 c0 (bT B1.out BB3.out) O3.out).mono ?_
      rintro e w4 ⟨rfl, b4⟩
      have BB4 := Lib.hid (bT BB3.out b4)
      clear b4 BB3 O3
      have X3 := Lib.hid (X1.out.below BB4.out)
      have B3 := Lib.hid (bT B1.out BB4.out)
      obtain ⟨x0, r0, r1, r2, r3, r4, r5, f0, f1, f2, f3, f4, f5⟩ := X3.out.facts
      have P1 := Lib.hid (set6_below (b := w.heap.size + 1) B3.out (by omega) (.int .i64 0) (.int .i64 0) (.slice none 0 0) (.slice none 0 0) (.int .i64 0) (.int .i64 1))
      unfold set6 at P1
      clear TF X3 B3 X1 B1 C1 C2 C3 C4 BB4
      go_wp2_with fail
      refine (C5.out _).mono ?_
      rintro e w5 ⟨rfl, rfl⟩
      clear C5
      go_wp2
      exact bodyPost_ret (v := .agg #[.int .i64 0, .int .i64 0, .slice none 0 0, .slice none 0 0, .int .i64 0, .int .i64 1]) (by simp [results, Tryz.results30, go_sem, r0, r1, r2, r3, r4, r5]) rfl ⟨P1.out, .inr (.inl ⟨H4.out, NO.out, rfl⟩)⟩
   ·have NO : Hid (¬ (P1 ∧ 0 ≤ x ∧ ¬ P3 ∧ BudR bud)) := fun h => hx h.2.1
    have hx' : x < 0 := by omega
    clear C3 C4 C6 C7 C8 h4 hP hx
    generalize hX : (¬ (P1 ∧ 0 ≤ x ∧ ¬ P3 ∧ BudR bud)) = bz at *
    clear hX
    go_enter Tryz.func30, Tryz.ntmps30
    obtain ⟨t0, t1, t2⟩ := TF.out _ (Below.refl _ _)
    go_wp2_with fail
    refine (C1.out _ B1.out).mono ?_
    rintro e w1 ⟨rfl, b1⟩
    clear t0 t1 t2
    obtain ⟨t0, t1, t2⟩ := TF.out w1 b1
    go_wp2_with fail
    refine (C2.out _ (bT B1.out b1)).mono ?_
    rintro e w2 ⟨rfl, b2⟩
    have BB2 := Lib.hid (bT b1 b2)
    clear t0 t1 t2 b1 b2
    have X3 := Lib.hid (X1.out.below BB2.out)
    have B3 := Lib.hid (bT B1.out BB2.out)
    obtain ⟨x0, r0, r1, r2, r3, r4, r5, f0, f1, f2, f3, f4, f5⟩ := X3.out.facts
    have P1 := Lib.hid (set6_below (b := w.heap.size + 1) B3.out (by omega) (.int .i64 0) (.int .i64 0) (.slice none 0 0) (.slice none 0 0) (.int .i64 0) (.int .i64 1))
    unfold set6 at P1
    clear TF X3 B3 X1 B1 C1 C2 BB2
    go_wp2
    exact bodyPost_ret (v := .agg #[.int .i64 0, .int .i64 0, .slice none 0 0, .slice none 0 0, .int .i64 0, .int .i64 1]) (by simp [results, Tryz.results30, go_sem, r0, r1, r2, r3, r4, r5]) rfl ⟨P1.out, .inr (.inl ⟨H4.out, NO.out, rfl⟩)⟩
  ·rw [B_no hP] at C1
   have NO : Hid (¬ (P1 ∧ 0 ≤ x ∧ ¬ P3 ∧ BudR bud)) := fun h => hP h.1
   clear C2 C3 C4 C6 C7 C8 h4 hP
   generalize hX : (¬ (P1 ∧ 0 ≤ x ∧ ¬ P3 ∧ BudR bud)) = bz at *
   clear hX
   go_enter Tryz.func30, Tryz.ntmps30
   obtain ⟨t0, t1, t2⟩ := TF.out _ (Below.refl _ _)
   go_wp2_with fail
   refine (C1.out _ B1.out).mono ?_
   rintro e w1 ⟨rfl, b1⟩
   clear t0 t1 t2
   have X3 := Lib.hid (X1.out.below b1)
   have B3 := Lib.hid (bT B1.out b1)
   obtain ⟨x0, r0, r1, r2, r3, r4, r5, f0, f1, f2, f3, f4, f5⟩ := X3.out.facts
   have P1 := Lib.hid (set6_below (b := w.heap.size + 1) B3.out (by omega) (.int .i64 0) (.int .i64 0) (.slice none 0 0) (.slice none 0 0) (.int .i64 0) (.int .i64 1))
   unfold set6 at P1
   clear TF X3 B3 X1 B1 C1 b1
   go_wp2
   exact bodyPost_ret (v := .agg #[.int .i64 0, .int .i64 0, .slice none 0 0, .slice none 0 0, .int .i64 0, .int .i64 1]) (by simp [results, Tryz.results30, go_sem, r0, r1, r2, r3, r4, r5]) rfl ⟨P1.out, .inr (.inl ⟨H4.out, NO.out, rfl⟩)⟩
end Go.Proofs.YtnihhbfgbilimaaGreatDoor
