import Derived.Test.YtnihhbfgbilimaaGreatDoorPs
import Derived.Test.YtnihhbfgbilimaaGreatDoorPt
namespace Go.Proofs.YtnihhbfgbilimaaGreatDoor
open Go.RowKit
set_option linter.unusedVariables false
set_option linter.unusedSimpArgs false
variable {d : Nat} {bt : TypeId} {fh : List Value}
structure P1 (wc : World) (lb c n m : Nat) (css : List (List Int)) (k : Nat) (L : List Int) (ws : List (BitVec 64)) (W : World) : Prop where
 lf : LAt W lb L
 wf : WAt W c ws
 ln : L.length = n
 mn : ws.length = m
 left : ∀ p, p < n → L.getD p 0 = if p < k then ((css.getD p []).length : Int) else 0
 mark : ∀ q, bitM ws q = decide (q < k ∧ ((css.getD q []).length : Int) < 2)
 two : Two lb c wc W
theorem P1.new {wc : World} {lb c n m : Nat} (css : List (List Int)) (h1 : LAt wc lb (List.replicate n 0)) (h2 : WAt wc c (List.replicate m 0#64)) : P1 wc lb c n m css 0 (List.replicate n 0) (List.replicate m 0#64) wc :=
 ⟨h1, h2, List.length_replicate, List.length_replicate, fun p hp => by simp [List.getD_eq_getElem?_getD, List.getElem?_replicate, hp], fun q => by
  rw [bitM_none (fun w hw => (List.mem_replicate.1 hw).2)]; simp, ⟨rfl, rfl, rfl, Nat.le_refl _, fun _ _ _ _ => rfl⟩⟩
theorem P1.next {wc : World} {lb c n m : Nat} {css : List (List Int)} {k : Nat} {L : List Int} {ws : List (BitVec 64)} {W W' : World} (h : P1 wc lb c n m css k L ws W) (hk : k < n) (hq : k / 64 < m) {x : Int} (hx : x = ((css.getD k []).length : Int)) (hl : LAt W' lb (L.set k x)) (hm : WAt W' c (if (L.set k x).getD k 0 < 2 then putM ws k else ws)) (ht : Two lb c W W') :
  P1 wc lb c n m css (k + 1) (L.set k x) (if (L.set k x).getD k 0 < 2 then putM ws k else ws) W' := by
 have hkl : k < L.length := by rw [h.ln]; exact hk
 have e1 : (L.set k x).getD k 0 = x := by rw [getD_set _ _ _ _ _ hkl, if_pos rfl]
 refine ⟨hl, hm, by rw [List.length_set]; exact h.ln, by split <;> simp [putM_len, h.mn], fun p hp => ?_, fun q => ?_, h.two.trans ht⟩
 ·rw [getD_set _ _ _ _ _ hkl]
  by_cases e : p = k
  ·subst e; rw [if_pos rfl, if_pos (by omega), hx]
  ·rw [if_neg e, h.left p hp]
   have : p < k + 1 ↔ p < k := by omega
   simp only [this]
 ·rw [e1, hx]
  by_cases e : q = k
  ·subst e
   by_cases g : ((css.getD q []).length : Int) < 2
   ·rw [if_pos g, putM_at _ _ _ (by rw [h.mn]; exact hq), if_pos rfl]; exact (decide_eq_true ⟨by omega, g⟩).symm
   ·rw [if_neg g, h.mark q, decide_eq_false (fun r => by omega), decide_eq_false (fun r => g r.2)]
  ·have : q < k + 1 ↔ q < k := by omega
   by_cases g : ((css.getD k []).length : Int) < 2
   ·rw [if_pos g, putM_at _ _ _ (by rw [h.mn]; exact hq), if_neg e, h.mark q]; simp only [this]
   ·rw [if_neg g, h.mark q]; simp only [this]
structure P2 (wc : World) (lb c n m : Nat) (css : List (List Int)) (T : List Int) (v : Nat) (L : List Int) (ws : List (BitVec 64)) (W : World) : Prop where
 lf : LAt W lb L
 wf : WAt W c ws
 ln : L.length = n
 mn : ws.length = m
 pv : PV css T v (fun p => L.getD p 0) (bitM ws)
 out : ∀ q, n ≤ q → bitM ws q = false
 two : Two lb c wc W
theorem P1.fin {wc : World} {lb c n m : Nat} {css : List (List Int)} {L : List Int} {ws : List (BitVec 64)} {W : World} (h : P1 wc lb c n m css n L ws W) (T : List Int) (hn : css.length = n) (hw : ∀ l ∈ css, ∀ z ∈ l, z ≠ 0) : P2 wc lb c n m css T 0 L ws W :=
 ⟨h.lf, h.wf, h.ln, h.mn, ⟨fun p hp => by rw [nfv_zero T _ (hw _ (by simp [List.getD_eq_getElem?_getD, hp])), h.left p (by omega), if_pos (by omega)], fun p hp => by
  rw [h.mark p, h.left p (by omega), if_pos (by omega)]; simp; omega⟩, fun q hq => by rw [h.mark q]; simp; omega, h.two⟩
theorem P2.low {wc : World} {lb c n m : Nat} {css : List (List Int)} {T : List Int} {v : Nat} {L : List Int} {ws : List (BitVec 64)} {W : World} (h : P2 wc lb c n m css T v L ws W) (hn : css.length = n) (hl : ∀ l ∈ css, l.length ≤ 1000) : ∀ q, q < n → -1000000 ≤ L.getD q 0 ∧ L.getD q 0 ≤ 1000000 := fun q hq => by
 have := h.pv.left q (by omega)
 have h1 := hl (css.getD q []) (by simp [List.getD_eq_getElem?_getD, show q < css.length by omega])
 have h2 : (nfv T v (css.getD q [])).length ≤ (css.getD q []).length := List.length_filter_le _ _
 have h3 : L.getD q 0 = ((nfv T v (css.getD q [])).length : Int) := this
 omega
theorem PV.ext {css : List (List Int)} {T : List Int} {v : Nat} {L L' : Nat → Int} {M M' : Nat → Bool} (h : PV css T v L M) (e1 : ∀ p, p < css.length → L' p = L p) (e2 : ∀ p, p < css.length → M' p = M p) : PV css T v L' M' :=
 ⟨fun p hp => by rw [e1 p hp]; exact h.left p hp, fun p hp => by rw [e1 p hp, e2 p hp]; exact h.mark p hp⟩
structure PG (w : World) (bb n m : Nat) (css : List (List Int)) (T : List Int) (lb c : Nat) (L : List Int) (ws : List (BitVec 64)) (W : World) : Prop where
 lf : LAt W lb L
 wf : WAt W c ws
 ln : L.length = n
 mn : ws.length = m
 pi : PI css T (fun p => L.getD p 0) (bitM ws)
 out : ∀ q, n ≤ q → bitM ws q = false
 hl : w.heap.size ≤ lb
 hc : w.heap.size ≤ c
 ne : lb ≠ c
 bel : Below w.heap.size w W
theorem set3_at {W : World} {b : Nat} {a0 a1 a2 : Value} {t : TypeId} (h : W.heap[b]? = some (.cells #[a0, a1, a2] t)) (v0 v1 v2 : Value) : (set3 W b v0 v1 v2).heap[b]? = some (.cells #[v0, v1, v2] t) := by
 have h1 := heap_setCell_same W b 0 _ t v0 h
 have h2 := heap_setCell_same _ b 1 _ t v1 h1
 have h3 := heap_setCell_same _ b 2 _ t v2 h2
 unfold set3
 rw [h3]
 rfl
theorem set3_other (W : World) {b k : Nat} (hk : k ≠ b) (v0 v1 v2 : Value) : (set3 W b v0 v1 v2).heap[k]? = W.heap[k]? := by
 unfold set3
 rw [Below.heap_setCell _ _ _ _ hk, Below.heap_setCell _ _ _ _ hk, Below.heap_setCell _ _ _ _ hk]
theorem fz3 {W : World} {b : Nat} {us : Array Value} {t : TypeId} (h : W.heap[b]? = some (.cells us t)) : ∀ k, W.frozen? ⟨b, k, none⟩ = false := fun k => by simp [World.frozen?, h]
theorem val_struck {T : List Int} (hc : Cons T) {y : Int} (h : ¬ val T y = 0) : val T (-y * val T y) = -1 ∧ (-y * val T y).natAbs = y.natAbs := by
 rcases val_cases T y with ⟨e, _⟩ | ⟨e, _⟩ | ⟨e, _⟩
 ·rw [e]
  have := val_minus hc y
  refine ⟨?_, by omega⟩
  rw [Int.mul_one]; omega
 ·rw [e]
  refine ⟨?_, by omega⟩
  rw [show -y * -1 = y by omega]; exact e
 ·exact absurd e h
set_option maxRecDepth 100000 in
set_option maxHeartbeats 8000000 in
theorem purs_any {b B bb : Nat} {vc : Value} {hs : List Value} {ms : List LCl} (T : List Int) (w : World) (hv : VAt d bt fh w b T) (hbt : bt ≠ 241 ∧ bt ≠ 289 ∧ bt ≠ 3) (hcn : Cons T) (hK : Bk B bb vc hs ms (occI (bareC ms)) w) (hms : ms.length ≤ 90000) (hw : ∀ r ∈ ms, LitOk r.2 ∧ ∀ z ∈ r.2, z ≠ 0) (hhd : ∀ r ∈ ms, ∃ s k, r.1 = .slice s r.2.length k) :
  Calls Tryz.prog 237 #[.pointer (some ⟨bb, 0, none⟩), .pointer (some ⟨b, d, none⟩)] w fun e w' => ∃ lb c, e = .returned (PVl bb lb ms.length c (ms.length / 64 + 1)) ∧ ∃ L ws, PG w bb ms.length (ms.length / 64 + 1) (bareC ms) T lb c L ws w' := by
 obtain ⟨cs, ck, rfl⟩ := own_v hK.rc
 have HB := Lib.hid (fun V (h : KeepB b w V) => hK.keep hv.2 hbt h)
 have hbl0 := hK.lt
 have hblt := hv.lt
 have HV := Lib.hid hv
 have HC := Lib.hid hcn
 have LC := Lib.hid (bareC_length ms)
 have hall : ∀ l ∈ bareC ms, LitOk l ∧ ∀ z ∈ l, z ≠ 0 := fun l hl => by
  obtain ⟨r, hr, rfl⟩ := List.mem_map.1 hl
  exact hw r hr
 have HZ := Lib.hid (show ∀ l ∈ bareC ms, ∀ z ∈ l, z ≠ 0 from fun l hl => (hall l hl).2)
 have HN := Lib.hid (show ∀ l ∈ bareC ms, l.Nodup from fun l hl => (hall l hl).1.2.1)
 have HL := Lib.hid (show ∀ l ∈ bareC ms, l.length ≤ 1000 from fun l hl => (hall l hl).1.2.2)
 have H96 := Lib.hid (show ∀ l ∈ bareC ms, ∀ z ∈ l, z.natAbs ≤ 96 from fun l hl z hz => by have := (hall l hl).1.1 z hz; omega)
 have HD := Lib.hid (show ∀ V, KeepB b w V → ∀ k, k < ms.length → ∃ g s kc, cs = some ⟨g, 0, none⟩ ∧ g < V.heap.size ∧ V.cell? ⟨g, k, none⟩ = some (.slice s ((bareC ms).getD k []).length kc) from fun V hV k hk => by
  obtain ⟨s, kc, e⟩ := hhd ms[k] (List.getElem_mem hk)
  have hr := (HB.out V hV).rc
  rcases hr.2 with ⟨_, h0⟩ | ⟨g, cp, cur, hv, hb, hg, h5, h6, h7, h8⟩
  ·omega
  ·cases hv
   refine ⟨g, s, kc, rfl, (Array.getElem?_eq_some_iff.1 hg).1, ?_⟩
   have hc : V.cell? ⟨g, k, none⟩ = (hdC ms)[k]? := by
    rw [← h8, List.getElem?_take_of_lt (by omega)]
    simp [World.cell?, hg]
   rw [hc, show (bareC ms).getD k [] = ms[k].2 by simp [bareC, List.getD_eq_getElem?_getD, hk], ← e]
   simp [hdC, hk])
 have b0 := bA0 w (.cells #[.pointer none, .slice none 0 0, .slice none 0 0] 285)
 have nw := new_at w (.cells #[.pointer none, .slice none 0 0, .slice none 0 0] 285)
 have hz1 : (w.alloc (.cells #[.pointer none, .slice none 0 0, .slice none 0 0] 285)).heap.size = w.heap.size + 1 := by simp
 have hmk := fun W => make120 ms.length (by omega) W
 have hmk2 : ∀ W : World, Sem.run Tryz.prog (Instr.makeSlice 283 (.int .i64 ((ms.length : Int) / 64 + 1)) (.int .i64 ((ms.length : Int) / 64 + 1))) W = .ok (.slice (some ⟨W.heap.size, 0, none⟩) (ms.length / 64 + 1) (ms.length / 64 + 1)) (W.alloc (.cells (List.replicate (ms.length / 64 + 1) (Value.int .u64 0)).toArray 87)) := fun W => by
  have := make122 (ms.length / 64 + 1) (by omega) W
  rwa [show ((ms.length / 64 + 1 : Nat) : Int) = (ms.length : Int) / 64 + 1 by omega] at this
 obtain ⟨hbl, hb0, _⟩ := (hK.below b0).facts
 have HM := Lib.hid (show ms.length ≤ 64 * (ms.length / 64 + 1) by omega)
 have ST := Lib.hid (fun (z : Int) (z1 : -96 ≤ z) (z2 : z ≤ 96) (lb c : Nat) (L : List Int) (ws : List (BitVec 64)) (W : World) (h1 : KeepB b w W) (h2 : LAt W lb L) (h3 : WAt W c ws) (h4 : L.length = ms.length) (h5 : ws.length = ms.length / 64 + 1) (h6 : lb ≠ c) (h7 : w.heap.size ≤ lb) (h8 : w.heap.size ≤ c) (h9 : ∀ q, q < ms.length → -1000000 ≤ L.getD q 0 ∧ L.getD q 0 ≤ 1000000) => strike_book z z1 z2 HB.out h1 h2 h3 h4 h5 rfl hms h6 h7 h8 HM.out h9)
 have hkk := Lib.hid hK
 clear hK hv hcn hw hall hhd
 generalize bareC ms = css at *
 generalize ms.length = n at *
 generalize n / 64 + 1 = m at *
 go_enter Tryz.func237, Tryz.ntmps237
 go_wp2_with fail
 have B0 := Lib.hid b0
 have N0 := Lib.hid nw
 have Z0 := Lib.hid hz1
 clear b0 nw hz1
 generalize w.alloc (.cells #[.pointer none, .slice none 0 0, .slice none 0 0] 285) = w1 at *
 go_cut [5] (fun v W => ∃ pb lb c, v = .pointer (some ⟨pb, 0, none⟩) ∧ Hid (PNew w bb n m pb lb c W))
 case first =>
  go_region
  all_goals
   go_wp2_with fail
   go_meet
   first
    | exact ⟨_, _, _, rfl, pnew3 B0.out N0.out Z0.out (three_at _ _ _ _).2.2.2 (three_at _ _ _ _).2.2.1 (three_at _ _ _ _).1 (three_at _ _ _ _).2.1 (by omega)⟩
    | exact ⟨_, _, _, rfl, pnew3 B0.out N0.out Z0.out (three_at _ _ _ _).2.2.2 (three_at _ _ _ _).2.1 (three_at _ _ _ _).1 (three_at _ _ _ _).2.2.1 (by omega)⟩
    | exact ⟨_, _, _, rfl, pnew3 B0.out N0.out Z0.out (three_at _ _ _ _).2.2.2 (three_at _ _ _ _).2.2.1 (three_at _ _ _ _).2.1 (three_at _ _ _ _).1 (by omega)⟩
    | exact ⟨_, _, _, rfl, pnew3 B0.out N0.out Z0.out (three_at _ _ _ _).2.2.2 (three_at _ _ _ _).2.1 (three_at _ _ _ _).2.2.1 (three_at _ _ _ _).1 (by omega)⟩
    | exact ⟨_, _, _, rfl, pnew3 B0.out N0.out Z0.out (three_at _ _ _ _).2.2.2 (three_at _ _ _ _).1 (three_at _ _ _ _).2.1 (three_at _ _ _ _).2.2.1 (by omega)⟩
    | exact ⟨_, _, _, rfl, pnew3 B0.out N0.out Z0.out (three_at _ _ _ _).2.2.2 (three_at _ _ _ _).1 (three_at _ _ _ _).2.2.1 (three_at _ _ _ _).2.1 (by omega)⟩
 case rest =>
  obtain ⟨pb, lb, c, rfl, HP⟩ := hcut
  have KW := Lib.hid (fun W (h : Two lb c wc W) => And.intro ((KeepB.of HP.out.bel).two (by have := HP.out.hl; omega) (by have := HP.out.hc; omega) h : KeepB b w W) (HP.out.box.kept (h.block pb HP.out.box.facts.1 HP.out.n1 HP.out.n2)))
  have P0 := Lib.hid (P1.new css HP.out.lf HP.out.wf)
  have hne := HP.out.n3
  obtain ⟨x0, x1, x2, x3⟩ := HP.out.box.facts
  have kw0 := (HB.out wc (KW.out wc ⟨rfl, rfl, rfl, Nat.le_refl _, fun _ _ _ _ => rfl⟩).1).facts
  have hbw := kw0.1
  have hb1 := kw0.2.1
  clear kw0 hmk hmk2 hbl hb0 B0 N0 Z0 hkk
  go_wp2
  clear x0 x1 x2 x3 hbw hb1
  go_loopw [30] (fun a wr => ∃ (k : Nat) (y : Int) (L : List Int) (ws : List (BitVec 64)), a = .int .i64 y ∧ Hid (y = (k : Int) ∧ k ≤ n) ∧ Hid (P1 wc lb c n m css k L ws wr)) (fun a _ => ((n : Int) - intOf a).toNat)
  case atStart => exact ⟨0, 0, _, _, rfl, ⟨rfl, Nat.zero_le _⟩, P0⟩
  case round =>
   obtain ⟨k, y, L, ws, rfl, HK, G1⟩ := hrel
   clear P0
   by_cases hk : k < n
   ·have hlt : y < (n : Int) := by have := HK.out.1; omega
    have hy0 : 0 ≤ y := by have := HK.out.1; omega
    have hyk : y.toNat = k := by have := HK.out.1; omega
    obtain ⟨kk1, bx1⟩ := KW.out wr G1.out.two
    obtain ⟨g, s, kc, hcs, hg, hcell⟩ := HD.out wr kk1 k hk
    subst hcs
    obtain ⟨ln, hln⟩ : ∃ ln : Nat, (css.getD k []).length = ln := ⟨_, rfl⟩
    rw [hln] at hcell
    have hc2 : wr.cell? ⟨g, y.toNat, none⟩ = some (.slice s ln kc) := by rw [hyk]; exact hcell
    have hlp : wr.cell? ⟨lb, y.toNat, none⟩ = some (.int .i64 (L.getD k 0)) := by rw [hyk]; exact G1.out.lf.cell k (by rw [G1.out.ln]; exact hk)
    have hfp : wr.frozen? ⟨lb, y.toNat, none⟩ = false := G1.out.lf.frozen _
    have hll := G1.out.lf.lt
    have hp64 : k / 64 < m := by have := HM.out; omega
    have LS := G1.out.lf.set k (ln : Int)
    have WS : WAt (wr.setCell ⟨lb, k, none⟩ (.int .i64 (ln : Int))) c ws := G1.out.wf.kept (Below.heap_setCell _ _ _ _ (fun e => hne e.symm))
    have TS2 : Two lb c wr (wr.setCell ⟨lb, k, none⟩ (.int .i64 (ln : Int))) := Two.of' ((Only.refl lb wr).setCell k _)
    have MK0 := mark_any bb lb c n m _ ws k _ LS WS (by rw [List.length_set]; exact G1.out.ln) G1.out.mn hk hp64 hne (by omega)
    have NX : Hid (∀ W', WAt W' c (if (L.set k (ln : Int)).getD k 0 < 2 then putM ws k else ws) → Only c (wr.setCell ⟨lb, k, none⟩ (.int .i64 (ln : Int))) W' → (∃ (k2 : Nat) (y2 : Int) (L2 : List Int) (w2 : List (BitVec 64)), Value.int .i64 (y + 1) = .int .i64 y2 ∧ Hid (y2 = (k2 : Int) ∧ k2 ≤ n) ∧ Hid (P1 wc lb c n m css k2 L2 w2 W'))) := fun W' h1 h2 =>
     ⟨k + 1, y + 1, _, _, rfl, ⟨by have := HK.out.1; omega, by omega⟩, G1.out.next hk hp64 (by rw [hln]) (LS.kept (h2.block lb LS.lt hne)) h1 (TS2.trans (Two.of h2))⟩
    obtain ⟨x0, x1, x2, x3⟩ := bx1.facts
    obtain ⟨z0, z1, z2, z3⟩ := (KW.out _ (G1.out.two.trans TS2)).2.facts
    rw [← hyk] at z0 z1 z2 z3
    have MK : Hid (Calls Tryz.prog 253 #[PVl bb lb n c m, .int .i64 y] (wr.setCell ⟨lb, y.toNat, none⟩ (.int .i64 (ln : Int))) fun e w' => e = .returned (.tuple #[]) ∧ WAt w' c (if (L.set k (ln : Int)).getD k 0 < 2 then putM ws k else ws) ∧ Only c (wr.setCell ⟨lb, k, none⟩ (.int .i64 (ln : Int))) w') := by
     show Calls _ _ _ _ _
     rw [hyk, HK.out.1]
     exact MK0
    clear MK0
    have hwy : wrap64 (y + 1) = y + 1 := wrap_in _ ⟨by omega, by omega⟩
    have MES : Hid (((n : Int) - (y + 1)).toNat < ((n : Int) - y).toNat) := by show _ < _; omega
    have hln9 : (ln : Int) < 9223372036854775807 := by
     have := HL.out (css.getD k []) (by simp [List.getD_eq_getElem?_getD, show k < css.length by rw [LC.out]; exact hk])
     omega
    clear hcell hyk LS WS TS2 G1 HK kk1 bx1 hln KW HD HB ST HZ HN HL H96 HM HV HC HP LC
    generalize (L.set k (ln : Int)).getD k 0 = xx at *
    generalize L.getD k 0 = x at *
    go_wp2_with fail
    refine MK.out.mono ?_
    rintro e w5 ⟨rfl, h5, o5⟩
    have PF := Lib.hid (NX.out w5 h5 o5)
    clear h5 o5 NX MK x0 x1 x2 x3 z0 z1 z2 z3 hc2 hlp hfp
    go_wp2
    try rw [hwy]
    exact ⟨PF.out, MES.out⟩
   ·have hlt : ¬ y < (n : Int) := by have := HK.out.1; omega
    have hkn : k = n := by have := HK.out.2; omega
    subst hkn
    have Q0 := Lib.hid (G1.out.fin T LC.out HZ.out)
    clear G1 HK
    go_wp2
    go_loopw [8] (fun a wr => ∃ (i : Nat) (y : Int) (L : List Int) (ws : List (BitVec 64)), a = .int .i64 y ∧ Hid (y = (i : Int) + 1 ∧ i ≤ 96) ∧ Hid (P2 wc lb c k m css T i L ws wr)) (fun a _ => (97 - intOf a).toNat)
    case atStart => exact ⟨0, 1, _, _, rfl, ⟨rfl, by omega⟩, Q0⟩
    case round =>
     obtain ⟨i, y, L, ws, rfl, HK, G1⟩ := hrel
     clear Q0
     have VW := Lib.hid (fun W (h : Two lb c wc W) => HV.out.kept ((h.block b (by have := HP.out.bel.size; omega) (by have := HP.out.hl; omega) (by have := HP.out.hc; omega)).trans (HP.out.bel.block b hblt)))
     by_cases hi : i < 96
     ·have hle : y ≤ 96 := by have := HK.out.1; omega
      have hy1 : 1 ≤ y := by have := HK.out.1; omega
      have hwy : wrap64 (y + 1) = y + 1 := wrap_in _ ⟨by omega, by omega⟩
      have MES : Hid ((97 - (y + 1)).toNat < (97 - y).toNat) := by show _ < _; omega
      have OF := Lib.hid (fun W (h : Two lb c wc W) => of_any b T y W (VW.out W h) HC.out (by omega) hle)
      by_cases h0 : val T y = 0
      ·have NX : Hid (∃ (i2 : Nat) (y2 : Int) (L2 : List Int) (w2 : List (BitVec 64)), Value.int .i64 (y + 1) = .int .i64 y2 ∧ Hid (y2 = (i2 : Int) + 1 ∧ i2 ≤ 96) ∧ Hid (P2 wc lb c k m css T i2 L2 w2 wr)) := ⟨i + 1, y + 1, L, ws, rfl, ⟨by have := HK.out.1; omega, by omega⟩, ⟨G1.out.lf, G1.out.wf, G1.out.ln, G1.out.mn, G1.out.pv.same HC.out (by have := HK.out.1; rw [← this]; exact h0), G1.out.out, G1.out.two⟩⟩
       have C1 := Lib.hid (OF.out wr G1.out.two)
       rw [h0] at C1
       clear OF h0 VW G1 HK KW HD HB ST HZ HN HL H96 HM HV HC HP LC
       go_wp2_with fail
       refine C1.out.mono ?_
       rintro e w5 ⟨rfl, rfl⟩
       clear C1
       go_wp2
       try rw [hwy]
       exact ⟨NX.out, MES.out⟩
      ·obtain ⟨q1, q2⟩ := val_struck HC.out h0
       obtain ⟨x, hx⟩ : ∃ x, val T y = x := ⟨_, rfl⟩
       have hx1 : x = 1 ∨ x = -1 := by rcases val_cases T y with ⟨e, _⟩ | ⟨e, _⟩ | ⟨e, _⟩ <;> omega
       rw [hx] at q1 q2 h0 OF
       have hx0 : (x == 0) = false := beq_eq_false_iff_ne.2 h0
       obtain ⟨z, hz⟩ : ∃ z, -y * x = z := ⟨_, rfl⟩
       rw [hz] at q1 q2
       have hza : -96 ≤ z ∧ z ≤ 96 := by omega
       have hnz : IntKind.i64.wrap (-y) = -y := by rw [IntKind.wrap_i64]; omega
       have hmz : IntKind.i64.wrap (-y * x) = z := by rw [hz, IntKind.wrap_i64]; omega
       have hmz2 : IntKind.i64.wrap (-(y * x)) = z := by rw [← Int.neg_mul]; exact hmz
       have TD : Two lb c wr wr.drew := ⟨rfl, rfl, rfl, Nat.le_refl _, fun _ _ _ _ => rfl⟩
       have gd := G1.out
       have SK0 := Lib.hid (ST.out z hza.1 hza.2 lb c L ws wr.drew (KW.out _ (gd.two.trans TD)).1 gd.lf gd.wf gd.ln gd.mn hne (by have := HP.out.hl; omega) (by have := HP.out.hc; omega) (gd.low LC.out HL.out))
       have NX : Hid (∀ W' Lk wk, (LAt W' lb Lk ∧ WAt W' c wk ∧ Lk.length = k ∧ wk.length = m) → (∀ q, q < k → Lk.getD q 0 = if z ∈ css.getD q [] then L.getD q 0 - 1 else L.getD q 0) → (∀ q, bitM wk q = if (q < k ∧ z ∈ css.getD q []) ∧ L.getD q 0 - 1 < 2 then true else bitM ws q) → Two lb c wr.drew W' → (∃ (i2 : Nat) (y2 : Int) (L2 : List Int) (w2 : List (BitVec 64)), Value.int .i64 (y + 1) = .int .i64 y2 ∧ Hid (y2 = (i2 : Int) + 1 ∧ i2 ≤ 96) ∧ Hid (P2 wc lb c k m css T i2 L2 w2 W'))) := fun W' Lk wk h1 h2 h3 h4 => by
        have pv := gd.pv.strike HC.out HN.out (f := z) (by have := HK.out.1; omega) q1
        refine ⟨i + 1, y + 1, Lk, wk, rfl, ⟨by have := HK.out.1; omega, by omega⟩, ⟨h1.1, h1.2.1, h1.2.2.1, h1.2.2.2, pv.ext (fun p hp => h2 p (by rw [← LC.out]; exact hp)) (fun p hp => ?_), fun q hq => ?_, gd.two.trans (TD.trans h4)⟩⟩
        ·rw [h3 p]
         have : p < k := by rw [← LC.out]; exact hp
         simp only [this, true_and]
        ·rw [h3 q, if_neg (fun r => by omega)]; exact gd.out q hq
       have C1 := Lib.hid (OF.out wr gd.two)
       have C2 := Lib.hid (OF.out wr.drew (gd.two.trans TD))
       obtain ⟨x0, x1, x2, x3⟩ := (KW.out wr gd.two).2.facts
       clear OF h0 VW G1 HK KW HD HB ST HZ HN HL H96 HM HV HC HP LC gd hz q1 q2 hx
       go_wp2_with fail
       refine C1.out.mono ?_
       rintro e w5 ⟨rfl, rfl⟩
       clear C1
       go_wp2_with fail
       go_region_with (first | (go_at_call 224; refine C2.out.mono ?_; rintro e w6 ⟨rfl, rfl⟩) | (go_at_call 242; refine SK0.out.mono ?_; rintro e w6 ⟨rfl, Lk, wk, f1, f2, f3, f4⟩; have PF := Lib.hid (NX.out w6 Lk wk f1 f2 f3 f4); clear f1 f2 f3 f4))
       all_goals
        go_wp2
        try rw [hwy]
        exact ⟨PF.out, MES.out⟩
     ·have hle : ¬ y ≤ 96 := by have := HK.out.1; omega
      have hi9 : i = 96 := by have := HK.out.2; omega
      subst hi9
      have gd := G1.out
      have hsz := HP.out.bel.size
      have hr1 := HP.out.hl
      have hr2 := HP.out.hc
      have hrl := (Array.getElem?_eq_some_iff.1 HP.out.res).1
      have hres : wr.heap[w.heap.size]? = some (.cells #[.pointer none, .slice none 0 0, .slice none 0 0] 285) := (gd.two.block _ hrl (by omega) (by omega)).trans HP.out.res
      obtain ⟨r0, r1, r2, r3⟩ := box3 hres
      have rf := fz3 hres
      have rf0 := rf 0
      have rf1 := rf 1
      have rf2 := rf 2
      have hpl := HP.out.hp
      have bx := (KW.out wr gd.two).2
      obtain ⟨x0, x1, x2, x3⟩ := bx.facts
      have hs3 := set3_at hres (.pointer (some ⟨bb, 0, none⟩)) (.slice (some ⟨lb, 0, none⟩) k k) (.slice (some ⟨c, 0, none⟩) m m)
      obtain ⟨y0, y1, y2, y3⟩ := box3 hs3
      have FIN : Hid (PG w bb k m css T lb c L ws (set3 wr w.heap.size (.pointer (some ⟨bb, 0, none⟩)) (.slice (some ⟨lb, 0, none⟩) k k) (.slice (some ⟨c, 0, none⟩) m m))) :=
       ⟨gd.lf.kept (set3_other wr (by omega) _ _ _), gd.wf.kept (set3_other wr (by omega) _ _ _), gd.ln, gd.mn, gd.pv.fin H96.out, gd.out, by omega, by omega, hne, set3_below (HP.out.bel.trans ⟨gd.two.os, gd.two.tape, gd.two.output, gd.two.size, fun k hk => gd.two.block k (by omega) (by omega) (by omega)⟩) (Nat.le_refl _) _ _ _⟩
      clear gd bx hs3 hres rf VW G1 HK KW HD HB ST HZ HN HL H96 HM HV HC HP LC
      unfold set3 at y0 y1 y2 y3 FIN
      go_wp2
      exact bodyPost_ret (v := PVl bb lb k c m) (by simp [results, Tryz.results237, go_sem, y1, y2, y3]) rfl ⟨lb, c, rfl, L, ws, FIN.out⟩
end Go.Proofs.YtnihhbfgbilimaaGreatDoor
