import Derived.Test.YtnihhbfgbilimaaGreatDoorKAla
import Derived.Test.YtnihhbfgbilimaaGreatDoorZKa
import Derived.Test.YtnihhbfgbilimaaGreatDoorZOa
import Derived.Test.YtnihhbfgbilimaaGreatDoorKOba
namespace Go.Proofs.YtnihhbfgbilimaaGreatDoor
open Go.RowKit
set_option linter.unusedVariables false
theorem dom_bareR (id top : Int) {rs rs' : List LSt} (h : bareS rs = bareS rs') : rs.flatMap (domF id top) = rs'.flatMap (domF id top) := by
 have e : ∀ l : List LSt, l.flatMap (domF id top) = (bareS l).flatMap (fun r => domF id top (r.1, r.2.1, .slice none 0 0, r.2.2)) := fun l => by
  unfold bareS
  rw [List.flatMap_map]
  rfl
 rw [e, e, h]
theorem idsR_bare {rs rs' : List LSt} (ps : List LPr) (zs : List Int) (h : bareS rs = bareS rs') : IdsR rs ps zs = IdsR rs' ps zs := by
 apply propext
 unfold IdsR
 rw [idsL_bare h]
 constructor
 ·rintro ⟨a, b, c⟩; exact ⟨a, TabR_bare ps h b, c⟩
 ·rintro ⟨a, b, c⟩; exact ⟨a, TabR_bare ps h.symm b, c⟩
theorem chF_bareR {rs rs' : List LSt} (top : Int) (h : bareS rs = bareS rs') : chF rs top = chF rs' top := by
 funext id
 unfold chF
 rw [dom_bareR id top h]
theorem askR_bare {rs rs' : List LSt} (ps : List LPr) (top : Int) (ids : List Int) (bud : Int) (h : bareS rs = bareS rs') : askR rs ps top ids bud = askR rs' ps top ids bud := by
 have h1 : cnA rs ps top ids = cnA rs' ps top ids := by unfold cnA; rw [idsR_bare ps ids h, chF_bareR top h]
 have h2 : cnN rs ps top ids = cnN rs' ps top ids := by unfold cnN plF; rw [idsR_bare ps ids h, chF_bareR top h]
 unfold askR
 rw [h1, h2]
abbrev AV (x hw : Int) (vp vl : Value) (st c : Int) : Value := .agg #[.int .i64 x, .int .i64 hw, vp, vl, .int .i64 st, .int .i64 c]
abbrev AC (x hw : Int) (vp vl : Value) (st c : Int) : Obj := .cells #[.int .i64 x, .int .i64 hw, vp, vl, .int .i64 st, .int .i64 c] 49
theorem cells6a {w : World} {b : Nat} {t : TypeId} {a0 a1 a2 a3 a4 a5 : Value} (h : w.heap[b]? = some (.cells #[a0, a1, a2, a3, a4, a5] t)) :
  w.cell? ⟨b, 0, none⟩ = some a0 ∧ w.cell? ⟨b, 1, none⟩ = some a1 ∧ w.cell? ⟨b, 2, none⟩ = some a2 ∧ w.cell? ⟨b, 3, none⟩ = some a3 ∧ w.cell? ⟨b, 4, none⟩ = some a4 ∧ w.cell? ⟨b, 5, none⟩ = some a5 ∧ b < w.heap.size := by
 refine ⟨?_, ?_, ?_, ?_, ?_, ?_, (Array.getElem?_eq_some_iff.1 h).1⟩ <;> simp [World.cell?, h]
theorem kept_type {W W' : World} {B : Nat} {e : TypeId} {m : Nat} {v : Value} {n : Nat} {xs : List Value} (hv : W.ownsRow B e m v n xs) (hg : W.grownBy W' v.ownBlock) {k : Nat} {us : Array Value} {t : TypeId} (ht : t ≠ e) (hk : W.heap[k]? = some (.cells us t)) : W'.heap[k]? = some (.cells us t) := by
 refine (hg.block k (Array.getElem?_eq_some_iff.1 hk).1 (fun e0 => ?_)).trans hk
 rcases hv.2 with ⟨hv0, _⟩ | ⟨g, kk, cur, hv0, hB, hh, _⟩
 ·rw [hv0] at e0; cases e0
 ·rw [hv0] at e0
  have e' : k = g := by simpa [Value.ownBlock] using e0
  subst e'
  rw [hk] at hh
  cases hh
  exact ht rfl
theorem own_k2 {w w' : World} {B : Nat} {e : TypeId} {m : Nat} {v : Value} {n : Nat} {xs : List Value} (h : w.ownsRow B e m v n xs) (he : e ≠ 2) (k : K2x w w') : w'.ownsRow B e m v n xs := by
 refine ⟨h.1, ?_⟩
 rcases h.2 with h | ⟨g, cap, cur, hv, hb, hg, r⟩
 ·exact .inl h
 ·exact .inr ⟨g, cap, cur, hv, hb, k g cur e he hg, r⟩
set_option maxRecDepth 100000 in
set_option maxHeartbeats 2000000 in
theorem eqAO_any (x hw st c : Int) (P : List LPl) (s1 s2 : Option Addr) (k1 k2 : Nat) (l1 l2 : Option Addr) (j1 j2 : Nat) (ls ls' : List LCl) (w : World) (hP : P.length ≤ 1048576) (hl : ls.length ≤ 1048576) (he : bareC ls = bareC ls') (i1 : Pls w s1 P) (i2 : Pls w s2 P) (c1 : Cls w l1 ls) (c2 : Cls w l2 ls') :
  Calls Tryz.prog 22 #[AV x hw (.slice s1 P.length k1) (.slice l1 ls.length j1) st c, AV x hw (.slice s2 P.length k2) (.slice l2 ls'.length j2) st c] w fun e w' => e = .returned (.bool true) ∧ Below w.heap.size w w' := by
 have E1 : Hid (∀ W, Below w.heap.size w W → Calls Tryz.prog 33 #[.slice s1 P.length k1, .slice s2 P.length k2] W fun e w' => e = .returned (.bool true) ∧ Below W.heap.size W w') := fun W hW => eqPlS_any s1 s2 k1 k2 P W hP (i1.below hW) (i2.below hW)
 have E2 : Hid (∀ W, Below w.heap.size w W → Calls Tryz.prog 49 #[.slice l1 ls.length j1, .slice l2 ls'.length j2] W fun e w' => e = .returned (.bool true) ∧ Below W.heap.size W w') := fun W hW => eqL_any l1 l2 j1 j2 ls ls' W hl he (c1.below hW) (c2.below hW)
 clear i1 i2 c1 c2 he
 have hx : (x != x) = false := by simp
 have hh : (hw != hw) = false := by simp
 have hst : (st != st) = false := by simp
 have hc' : (c != c) = false := by simp
 generalize P.length = p at *
 generalize ls.length = n at *
 generalize ls'.length = n' at *
 go_enter Tryz.func22, Tryz.ntmps22
 go_wp2_with fail
 refine (E1.out _ (bA (bA0 _ _) _)).mono ?_
 rintro e w1 ⟨rfl, b1⟩
 have D1 := Lib.hid (bT (bA (bA0 w _) _) b1)
 have A1 := Lib.hid b1
 obtain ⟨hc, hf⟩ := bcell b1
 clear b1
 go_wp2_with fail
 refine (E2.out _ D1.out).mono ?_
 rintro e w2 ⟨rfl, b2⟩
 have D2 := Lib.hid (bT D1.out b2)
 have A2 := Lib.hid (bT A1.out b2)
 clear hc hf
 obtain ⟨hc, hf⟩ := bcell A2.out
 clear b2 A1
 go_wp2
 go_ret
 exact ⟨rfl, D2.out⟩
def K49 (w w' : World) : Prop := ∀ (k : Nat) (us : Array Value), w.heap[k]? = some (.cells us 49) → w'.heap[k]? = some (.cells us 49)
set_option maxRecDepth 100000 in
set_option maxHeartbeats 2000000 in
theorem mkAO_any (B : Nat) (x hw st c : Int) (n : Nat) (xs : List Value) (vp vl : Value) (ls : List LCl) (W : World) (hP : n ≤ 1048576) (hl : ls.length ≤ 1000) (hr : ∀ r ∈ ls, r.2.length ≤ 1000) (ht : totC ls ≤ 500000000) (hB : B ≤ W.heap.size) (o : W.ownsRow B 131 2 vp n xs) (oc : OwC W B vl ls) :
  Calls Tryz.prog 27 #[AV x hw vp vl st c, .int .i64 1] W fun e w' => e = .returned (.int .i64 (1 + 2 * (n : Int) + (totC ls : Int))) ∧ w'.ownsRow B 131 2 vp n (valsZ (marks 1 (n * 2))) ∧ OwC w' B vl (mkC (1 + 2 * (n : Int)) ls) ∧ Below B W w' ∧ K49 W w' := by
 obtain ⟨ps, pk, rfl⟩ := own_v o
 obtain ⟨lv, lk, rfl⟩ := oc.v
 have b1 := bA0 W (AC x hw (.slice ps n pk) (.slice lv ls.length lk) st c)
 have X1 : (W.alloc (AC x hw (.slice ps n pk) (.slice lv ls.length lk) st c)).heap[W.heap.size]? = some (AC x hw (.slice ps n pk) (.slice lv ls.length lk) st c) := new_at _ _
 have C1 := Lib.hid (mark2_row B (.slice ps n pk) n xs 1 hP (by omega) (by omega) (W.alloc (AC x hw (.slice ps n pk) (.slice lv ls.length lk) st c)) (own_below o b1))
 have C2 : Hid (∀ w', (W.alloc (AC x hw (.slice ps n pk) (.slice lv ls.length lk) st c)).grownBy w' (Value.slice ps n pk).ownBlock → w'.ownsRow B 131 2 (.slice ps n pk) n (valsZ (marks 1 (n * 2))) → w'.heap[W.heap.size]? = some (AC x hw (.slice ps n pk) (.slice lv ls.length lk) st c) ∧ (K49 W w' ∧ Below B W w') ∧ Calls Tryz.prog 50 #[.slice lv ls.length lk, .int .i64 (1 + 2 * (n : Int))] w' fun e w'' => e = .returned (.int .i64 (1 + 2 * (n : Int) + (totC ls : Int))) ∧ OwC w'' B (.slice lv ls.length lk) (mkC (1 + 2 * (n : Int)) ls) ∧ Below B w' w'' ∧ K2x w' w'') := fun w' hg ho => by
  have o1 := own_below o b1
  have oc1 := oc.below b1
  have oc' : OwC w' B (.slice lv ls.length lk) ls := ⟨oc1.row.kept hg (own_diff oc1.row o1 (by decide)), fun r hr => (oc1.each r hr).kept hg (own_diff (oc1.each r hr) o1 (by decide)), oc1.diff⟩
  refine ⟨kept_type o1 hg (by decide) X1, ⟨fun k us hk => kept_type o1 hg (by decide) ((b1.block k (Array.getElem?_eq_some_iff.1 hk).1).trans hk), (b1.mono hB).grown hg (by have := b1.size; omega) (fun j hj => (o1.lt j hj).1)⟩, ?_⟩
  refine (mkL_any B _ ls (1 + 2 * (n : Int)) w' (.slice none 0 0) 0 [] ⟨rfl, .inl ⟨rfl, rfl⟩⟩ (fun r _ j _ e => by cases e) (by omega) (fun r hr' => by have := hr r hr'; omega) ht (by omega) (by omega) (by have := hg.size; have := b1.size; omega) oc').mono ?_
  rintro e w'' ⟨h1, h2, h3, h4, h5⟩
  exact ⟨h1, h2, h3, h4⟩
 obtain ⟨p0, p1, p2, p3, p4, p5, y1⟩ := cells6a X1
 clear b1 X1 o oc hr
 generalize ls.length = ln at *
 go_enter Tryz.func27, Tryz.ntmps27
 go_wp2_with fail
 refine C1.out.mono ?_
 rintro e w1 ⟨rfl, o1, g1⟩
 obtain ⟨X, K1, C3⟩ := C2.out w1 g1 o1
 have CC := Lib.hid C3
 have KK := Lib.hid K1
 have O1 := Lib.hid o1
 clear C2 C1 C3 o1 g1 y1 p0 p1 p2 p3 p4 p5 K1
 obtain ⟨p0, p1, p2, p3, p4, p5, y1⟩ := cells6a X
 clear X
 go_wp2_with fail
 refine CC.out.mono ?_
 rintro e w2 ⟨rfl, oc2, b2, k2⟩
 have P := Lib.hid (show w2.ownsRow B 131 2 (.slice ps n pk) n (valsZ (marks 1 (n * 2))) ∧ OwC w2 B (.slice lv ln lk) (mkC (1 + 2 * (n : Int)) ls) ∧ Below B W w2 ∧ K49 W w2 from ⟨own_k2 O1.out (by decide) k2, oc2, KK.out.2.trans b2, fun k us hk => k2 k us 49 (by decide) (KK.out.1 k us hk)⟩)
 clear oc2 b2 k2 CC KK O1
 go_wp2
 go_ret
 exact ⟨rfl, P.out⟩
set_option maxRecDepth 100000 in
set_option maxHeartbeats 2000000 in
theorem hdAO_any (B : Nat) (x hw st c : Int) (n : Nat) (vp vl : Value) (ls : List LCl) (W : World) (hP : n ≤ 1048576) (hl : ls.length ≤ 1000) (hr : ∀ r ∈ ls, r.2.length ≤ 1000) (ht : totC ls ≤ 500000000) (o : W.ownsRow B 131 2 vp n (valsZ (marks 1 (n * 2)))) (oc : OwC W B vl (mkC (1 + 2 * (n : Int)) ls)) :
  Calls Tryz.prog 28 #[AV x hw vp vl st c, .int .i64 1] W fun e w' => e = .returned (.int .i64 (1 + 2 * (n : Int) + (totC ls : Int))) ∧ Below W.heap.size W w' := by
 obtain ⟨ps, pk, rfl⟩ := own_v o
 obtain ⟨lv, lk, e9⟩ := oc.v
 rw [mkC_len] at e9
 subst e9
 have b1 := bA0 W (AC x hw (.slice ps n pk) (.slice lv ls.length lk) st c)
 have X1 : (W.alloc (AC x hw (.slice ps n pk) (.slice lv ls.length lk) st c)).heap[W.heap.size]? = some (AC x hw (.slice ps n pk) (.slice lv ls.length lk) st c) := new_at _ _
 have C1 := Lib.hid (held2_row B (.slice ps n pk) n 1 hP (by omega) (by omega) (W.alloc (AC x hw (.slice ps n pk) (.slice lv ls.length lk) st c)) (own_below o b1))
 have C2 := Lib.hid (hdL_any B (.slice lv ls.length lk) ls (1 + 2 * (n : Int)) (W.alloc (AC x hw (.slice ps n pk) (.slice lv ls.length lk) st c)) (by omega) (fun r hr' => by have := hr r hr'; omega) ht (by omega) (by omega) (oc.below b1))
 have B1 := Lib.hid b1
 obtain ⟨p0, p1, p2, p3, p4, p5, y1⟩ := cells6a X1
 have h1 : ¬ (1 + 2 * (n : Int)) < 0 := by omega
 have h2 : ¬ (1 + 2 * (n : Int) + (totC ls : Int)) < 0 := by omega
 clear b1 X1 o oc hr
 generalize 1 + 2 * (n : Int) + (totC ls : Int) = kk at *
 generalize 1 + 2 * (n : Int) = kj at *
 generalize ls.length = ln at *
 go_enter Tryz.func28, Tryz.ntmps28
 go_wp2_with fail
 refine C1.out.mono ?_
 rintro e w1 ⟨rfl, rfl⟩
 go_wp2_with fail
 refine C2.out.mono ?_
 rintro e w2 ⟨rfl, rfl⟩
 go_wp2
 go_ret
 exact ⟨rfl, B1.out⟩
def AOw (B : Nat) (P : List LPl) (L : List (List Int)) (vp vl : Value) (W : World) : Prop := W.ownsRow B 131 2 vp P.length (enCells P) ∧ ∃ ls, OwC W B vl ls ∧ bareC ls = L
def AOm (B : Nat) (n : Nat) (L : List (List Int)) (vp vl : Value) (W : World) : Prop := W.ownsRow B 131 2 vp n (valsZ (marks 1 (n * 2))) ∧ ∃ ls, OwC W B vl (mkC (1 + 2 * (n : Int)) ls) ∧ bareC ls = L
theorem AOw.below {B : Nat} {P : List LPl} {L : List (List Int)} {vp vl : Value} {W W' : World} (h : AOw B P L vp vl W) (hb : Below W.heap.size W W') : AOw B P L vp vl W' := ⟨own_below h.1 hb, by obtain ⟨ls, o, e⟩ := h.2; exact ⟨ls, o.below hb, e⟩⟩
theorem AOm.below {B n : Nat} {L : List (List Int)} {vp vl : Value} {W W' : World} (h : AOm B n L vp vl W) (hb : Below W.heap.size W W') : AOm B n L vp vl W' := ⟨own_below h.1 hb, by obtain ⟨ls, o, e⟩ := h.2; exact ⟨ls, o.below hb, e⟩⟩
theorem AOw.btw {X Y B : Nat} {P : List LPl} {L : List (List Int)} {vp vl : Value} {W W' : World} (h : AOw B P L vp vl W) (hb : Btw X Y W W') (hY : Y ≤ B) : AOw B P L vp vl W' :=
 ⟨own_btw h.1 hb (fun j hj => .inr (Nat.le_trans hY (h.1.lt j hj).1)), by
  obtain ⟨ls, o, e⟩ := h.2
  exact ⟨ls, o.btw hb (fun j hj => .inr (Nat.le_trans hY (o.row.lt j hj).1)) (fun r hr j hj => .inr (Nat.le_trans hY ((o.each r hr).lt j hj).1)), e⟩⟩
def AOl (T : Nat) (P : List LPl) (L : List (List Int)) (vp vl : Value) (W : World) : Prop := (∃ B, W.ownsRow B 131 2 vp P.length (enCells P)) ∧ (∀ j, vp.ownBlock = some j → j < T) ∧ ∃ B ls, OwC W B vl ls ∧ bareC ls = L ∧ (∀ j, vl.ownBlock = some j → j < T) ∧ ∀ r ∈ ls, ∀ j, r.1.ownBlock = some j → j < T
theorem AOw.low {B : Nat} {P : List LPl} {L : List (List Int)} {vp vl : Value} {W : World} (h : AOw B P L vp vl W) : AOl W.heap.size P L vp vl W :=
 ⟨⟨B, h.1⟩, fun j hj => (h.1.lt j hj).2, by
  obtain ⟨ls, o, e⟩ := h.2
  exact ⟨B, ls, o, e, fun j hj => (o.row.lt j hj).2, fun r hr j hj => ((o.each r hr).lt j hj).2⟩⟩
theorem AOl.btw {X Y T : Nat} {P : List LPl} {L : List (List Int)} {vp vl : Value} {W W' : World} (h : AOl T P L vp vl W) (hb : Btw X Y W W') (hX : T ≤ X) : AOl T P L vp vl W' := by
 obtain ⟨⟨B, o⟩, l1, B', ls, oc, e, l2, l3⟩ := h
 exact ⟨⟨B, own_btw o hb (fun j hj => .inl (Nat.lt_of_lt_of_le (l1 j hj) hX))⟩, l1, B', ls, oc.btw hb (fun j hj => .inl (Nat.lt_of_lt_of_le (l2 j hj) hX)) (fun r hr j hj => .inl (Nat.lt_of_lt_of_le (l3 r hr j hj) hX)), e, l2, l3⟩
theorem AOl.below {C T : Nat} {P : List LPl} {L : List (List Int)} {vp vl : Value} {W W' : World} (h : AOl T P L vp vl W) (hb : Below C W W') (hC : T ≤ C) (hC' : C ≤ W.heap.size) : AOl T P L vp vl W' :=
 h.btw (X := C) (Y := W.heap.size) ⟨hb.os, hb.tape, hb.output, hb.size, fun k hk g => hb.block k (by omega)⟩ hC
theorem pls_of2 {w : World} {sl : Option Addr} {B : Nat} {pl : List LPl} (h : pl = [] ∨ ∃ c, sl = some ⟨c, 0, none⟩ ∧ PlAt w c 0 pl ∧ B ≤ c) : Pls w sl pl := by
 rcases h with h | ⟨c, e, h, _⟩
 ·exact .inl h
 ·exact .inr ⟨c, 0, e, h⟩
theorem AOl.eq {T C : Nat} {P : List LPl} {L : List (List Int)} {vp vl vp' vl' : Value} {W : World} (x hw st c : Int) (h' : AOw C P L vp' vl' W) (h : AOl T P L vp vl W) (hP : P.length ≤ 1048576) (hL : L.length ≤ 1048576) :
  Calls Tryz.prog 22 #[AV x hw vp' vl' st c, AV x hw vp vl st c] W fun e w' => e = .returned (.bool true) ∧ Below W.heap.size W w' := by
 obtain ⟨⟨B, o⟩, l1, B', ls, oc, e, l2, l3⟩ := h
 obtain ⟨o', ls', oc', e'⟩ := h'
 obtain ⟨s1, k1, rfl, i1⟩ := own_pls o
 obtain ⟨s2, k2, rfl, i2⟩ := own_pls o'
 obtain ⟨t1, j1, rfl, q1⟩ := oc.cls
 obtain ⟨t2, j2, rfl, q2⟩ := oc'.cls
 have hl : ls'.length ≤ 1048576 := by rw [← bareC_length, e']; exact hL
 exact eqAO_any x hw st c P s2 s1 k2 k1 t2 t1 j2 j1 ls' ls W hP hl (e'.trans e.symm) (pls_of2 i2) (pls_of2 i1) q2 q1
def totQ (L : List (List Int)) : Nat := (L.map List.length).sum
theorem totC_q (ls : List LCl) : totC ls = totQ (bareC ls) := by simp [totC, totQ, bareC, Function.comp_def]
theorem AOw.mark {B : Nat} {P : List LPl} {L : List (List Int)} {vp vl : Value} {W : World} (x hw st c : Int) (h : AOw B P L vp vl W) (hB : B ≤ W.heap.size) (hP : P.length ≤ 1048576) (hL : L.length ≤ 1000) (hr : ∀ l ∈ L, l.length ≤ 1000) :
  Calls Tryz.prog 27 #[AV x hw vp vl st c, .int .i64 1] W fun e w' => e = .returned (.int .i64 (1 + 2 * (P.length : Int) + (totQ L : Int))) ∧ AOm B P.length L vp vl w' ∧ Below B W w' ∧ K49 W w' := by
 obtain ⟨o, ls, oc, e⟩ := h
 subst e
 have hl : ls.length ≤ 1000 := by rw [← bareC_length]; exact hL
 have h2 : ∀ r ∈ ls, r.2.length ≤ 1000 := fun r hr2 => hr r.2 (List.mem_map.2 ⟨r, hr2, rfl⟩)
 have h3 := tot_le h2
 refine (mkAO_any B x hw st c P.length _ vp vl ls W hP hl h2 (by omega) hB o oc).mono ?_
 rintro e w' ⟨h1, h2, h3, h4, h5⟩
 rw [totC_q] at h1
 exact ⟨h1, ⟨h2, ls, h3, rfl⟩, h4, h5⟩
theorem AOm.held {B n : Nat} {L : List (List Int)} {vp vl : Value} {W : World} (x hw st c : Int) (h : AOm B n L vp vl W) (hP : n ≤ 1048576) (hL : L.length ≤ 1000) (hr : ∀ l ∈ L, l.length ≤ 1000) :
  Calls Tryz.prog 28 #[AV x hw vp vl st c, .int .i64 1] W fun e w' => e = .returned (.int .i64 (1 + 2 * (n : Int) + (totQ L : Int))) ∧ Below W.heap.size W w' := by
 obtain ⟨o, ls, oc, e⟩ := h
 subst e
 have hl : ls.length ≤ 1000 := by rw [← bareC_length]; exact hL
 have h2 : ∀ r ∈ ls, r.2.length ≤ 1000 := fun r hr2 => hr r.2 (List.mem_map.2 ⟨r, hr2, rfl⟩)
 have h3 := tot_le h2
 have := hdAO_any B x hw st c n vp vl ls W hP hl h2 (by omega) o oc
 rwa [totC_q] at this
structure AskF where
 x : Int
 hw : Int
 st : Int
 c : Int
 P : List LPl
 L : List (List Int)
theorem askP_bare {rs rs' : List LSt} (ps : List LPr) (top : Int) (ids : List Int) (bud : Int) (h : bareS rs = bareS rs') : askP rs ps top ids bud = askP rs' ps top ids bud := by
 have hc := chF_bareR top h
 have hp : plF rs top ids = plF rs' top ids := by unfold plF; rw [hc]
 unfold askP
 rw [askR_bare ps top ids bud h]
 unfold poA
 rw [show PoOK rs ps top ids (askR rs' ps top ids bud).1.2.1 = PoOK rs' ps top ids (askR rs' ps top ids bud).1.2.1 by unfold PoOK; rw [idsR_bare ps ids h, hp], hp]
theorem btw_only {c : Nat} {w w' : World} (h : Only c w w') : Btw c (c + 1) w w' := (Btw.refl c (c + 1) w).only h (Nat.le_refl _) (Nat.lt_succ_self _)
theorem AOw.form {B : Nat} {P : List LPl} {L : List (List Int)} {vp vl : Value} {W : World} (h : AOw B P L vp vl W) : ∃ s1 k1 s2 k2, vp = .slice s1 P.length k1 ∧ vl = .slice s2 L.length k2 := by
 obtain ⟨o, ls, oc, e⟩ := h
 obtain ⟨s1, k1, e1⟩ := own_v o
 obtain ⟨s2, k2, e2⟩ := oc.v
 exact ⟨s1, k1, s2, k2, e1, by rw [e2, ← e, bareC_length]⟩
end Go.Proofs.YtnihhbfgbilimaaGreatDoor
